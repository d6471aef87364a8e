/- Contracts of the program's reader of values: take, a number, a text, the byte at the end. -/
import Derived.Test.YtdahnooehjdcgaaRead
import Derived.Laws.Rows
namespace Go.Proofs.Ytdahnooehjdcgaa.rdi
open Go.ChangeShapes Go.WideShapes Go.ChangeAt Go.RowKit
open Go.Proofs.Ytdahnooehjdcgaa.bytes Go.Proofs.Ytdahnooehjdcgaa.pile Go.Proofs.Ytdahnooehjdcgaa.get Go.Proofs.Ytdahnooehjdcgaa.dec Go.Proofs.Ytdahnooehjdcgaa.jhelp Go.Proofs.Ytdahnooehjdcgaa.read
set_option linter.unusedVariables false

theorem set_grown (w : World) (d i : Nat) (u : Value) : w.grownBy (w.setCell ⟨d, i, none⟩ u) (some d) := ⟨rfl, rfl, rfl, by simp, fun k _ hk => heap_setCell_other w ⟨d, i, none⟩ k u (fun e => hk (by simp [e]))⟩
theorem drew_grown (w : World) (n : Nat) (row : Option Nat) : w.grownBy (w.drewN n) row := ⟨rfl, rfl, rfl, Nat.le_refl _, fun _ _ _ => rfl⟩
theorem set_at {w : World} {b t : Nat} {cur cur' : Array Value} (h : w.heap[b]? = some (.cells cur t (0, 0))) (i : Nat) (x : Value) (hc : cur.setIfInBounds i x = cur') : (w.setCell ⟨b, i, none⟩ x).heap[b]? = some (.cells cur' t (0, 0)) := by
  rw [← hc]; exact heap_setCell_same w b i cur t x h

theorem ret_slice {a : Option Addr} {n m c : Nat} (h : n = m) : Ending.returned (.slice a n c) = .returned (.slice a m c) := by rw [h]

/-- The value of a cut of a slice. -/
def cutV (ao : Option Addr) (cap at_ n : Nat) : Value := if cap = at_ then .slice ao n 0 else .slice (ao.map fun x => x.add at_) n (cap - at_)

theorem cut_rd {w : World} {ao : Option Addr} {cap at_ n : Nat} {xs : List Int} (h : RdA w (.slice ao xs.length cap) xs) (hn : at_ + n ≤ xs.length) : RdA w (cutV ao cap at_ n) ((xs.drop at_).take n) := by
  obtain ⟨⟨ao', cap', e, h1, h2, h3, h4⟩, hnil⟩ := h
  simp only [Value.slice.injEq, true_and] at e
  obtain ⟨rfl, rfl⟩ := e
  have hl : ((xs.drop at_).take n).length = n := by simp; omega
  have hx : ∀ x ∈ (xs.drop at_).take n, 0 ≤ x ∧ x ≤ 255 := fun x hx => h3 x (List.mem_of_mem_drop (List.mem_of_mem_take hx))
  unfold cutV
  split
  · rename_i hc
    have hn0 : n = 0 := by omega
    subst hn0
    refine ⟨⟨ao, 0, by rw [hl], by omega, by simp [maxLen], hx, fun hp => by omega⟩, fun n c e => ?_⟩
    simp only [Value.slice.injEq] at e
    obtain ⟨rfl, _, _⟩ := e
    rfl
  · rename_i hc
    have hao : ao ≠ none := fun e0 => by
      subst e0
      have := hnil _ _ rfl
      simp only [Value.slice.injEq, true_and] at this
      omega
    obtain ⟨a, rfl⟩ := Option.ne_none_iff_exists'.1 hao
    refine ⟨⟨_, cap - at_, by rw [hl], by omega, by omega, hx, fun hp => ?_⟩, fun n c e => by simp at e⟩
    obtain ⟨b, off, e, hcell⟩ := h4 (by omega)
    simp only [Option.some.injEq] at e
    subst e
    refine ⟨b, off + at_, by simp [add_at], fun i hi => ?_⟩
    have := hcell (at_ + i) (by omega)
    rw [show off + at_ + i = off + (at_ + i) by omega, this]
    have hi' : i < n := by omega
    simp [List.getD_eq_getElem?_getD, hi']

set_option maxHeartbeats 400000 in
theorem take_any (w : World) (d : Nat) (ao : Option Addr) (L cap at_ n : Nat) (h1 : at_ + n ≤ L) (h2 : L ≤ cap) (h3 : cap ≤ maxLen) (h4 : L ≤ 65536)
    (hd : w.cell? ⟨d, 0, none⟩ = some (.slice ao L cap)) (ha : w.cell? ⟨d, 1, none⟩ = some (.int .i64 at_)) (hf : w.frozen? ⟨d, 1, none⟩ = false) :
    Calls Try.prog 39 #[.pointer (some ⟨d, 0, none⟩), .int .i64 n] w fun e w' => e = .returned (cutV ao cap at_ n) ∧ ∃ m, w' = (w.drewN m).setCell ⟨d, 1, none⟩ (.int .i64 ((at_ : Int) + n)) := by
  unfold maxLen at h3
  by_cases hc : cap = at_
  · have hv : cutV ao cap at_ n = .slice ao n 0 := by unfold cutV; rw [if_pos hc]
    rw [hv]
    go_enter Try.func39, Try.ntmps39
    go_wp2
    go_quiet (fail)
    go_wp2
    go_ret
    exact ⟨ret_slice (by omega), _, rfl⟩
  · have hv : cutV ao cap at_ n = .slice (ao.map fun x => x.add at_) n (cap - at_) := by unfold cutV; rw [if_neg hc]
    rw [hv]
    go_enter Try.func39, Try.ntmps39
    go_wp2
    go_quiet (fail)
    go_wp2
    go_ret
    exact ⟨ret_slice (by omega), _, rfl⟩

/-- A reader of values at block d: of the bytes xs, at place a, wrong or not. -/
def Rdr (T : Nat) (w : World) (d : Nat) (ao : Option Addr) (cap : Nat) (xs : List Int) (a : Nat) (b : Bool) : Prop :=
  w.heap[d]? = some (.cells #[.slice ao xs.length cap, .int .i64 a, .bool b] T (0, 0)) ∧ a ≤ xs.length ∧ RdA w (.slice ao xs.length cap) xs

theorem rd_other {w w' : World} {d T : Nat} {o : Option Addr} {n c : Nat} {x : Int} {b : Bool} {v : Value} {xs : List Int} (hd : w.heap[d]? = some (.cells #[.slice o n c, .int .i64 x, .bool b] T (0, 0))) (h : RdA w v xs) (g : w.grownBy w' (some d)) : RdA w' v xs := by
  obtain ⟨⟨ao, cap, rfl, h1, h2, h3, h4⟩, hnil⟩ := h
  refine ⟨⟨ao, cap, rfl, h1, h2, h3, fun hp => ?_⟩, hnil⟩
  obtain ⟨B, off, rfl, hc⟩ := h4 hp
  refine ⟨B, off, rfl, fun i hi => ?_⟩
  have hci := hc i hi
  have hne : B ≠ d := fun e => by
    subst e
    have : w.cell? ⟨B, off + i, none⟩ = #[Value.slice o n c, .int .i64 x, .bool b][off + i]? := by simp [World.cell?, hd]
    rw [this] at hci
    have h3 : off + i = 0 ∨ off + i = 1 ∨ off + i = 2 ∨ 3 ≤ off + i := by omega
    rcases h3 with e | e | e | e
    · rw [e] at hci; simp at hci
    · rw [e] at hci; simp at hci
    · rw [e] at hci; simp at hci
    · rw [Array.getElem?_eq_none (by simpa using e)] at hci; simp at hci
  have hlt := cell_lt hci
  have := World.cell?_of_block (a := ⟨B, off + i, none⟩) (g.block B hlt (fun e => hne (by simpa using e)))
  rw [this]
  exact hci
theorem Rdr.bd {T : Nat} {w : World} {d : Nat} {ao : Option Addr} {cap : Nat} {xs : List Int} {a : Nat} {b : Bool} (h : Rdr T w d ao cap xs a b) : xs.length ≤ cap ∧ cap ≤ maxLen := by
  obtain ⟨ao', cap', e, h1, h2, _⟩ := h.2.2.1
  simp only [Value.slice.injEq, true_and] at e
  obtain ⟨_, rfl⟩ := e
  exact ⟨h1, h2⟩
/-- The reader's place or mark is set anew. -/
theorem Rdr.place {T : Nat} {w : World} {d : Nat} {ao : Option Addr} {cap : Nat} {xs : List Int} {a : Nat} {b : Bool} (h : Rdr T w d ao cap xs a b) (m a' : Nat) (ha : a' ≤ xs.length) : Rdr T ((w.drewN m).setCell ⟨d, 1, none⟩ (.int .i64 a')) d ao cap xs a' b ∧ w.grownBy ((w.drewN m).setCell ⟨d, 1, none⟩ (.int .i64 a')) (some d) := by
  have g : w.grownBy ((w.drewN m).setCell ⟨d, 1, none⟩ (.int .i64 a')) (some d) := grown_trans (drew_grown w m _) (set_grown _ d 1 _)
  exact ⟨⟨set_at (w := w.drewN m) h.1 1 _ rfl, ha, rd_other h.1 h.2.2 g⟩, g⟩
theorem Rdr.mark {T : Nat} {w : World} {d : Nat} {ao : Option Addr} {cap : Nat} {xs : List Int} {a : Nat} {b : Bool} (h : Rdr T w d ao cap xs a b) (m : Nat) : Rdr T ((w.drewN m).setCell ⟨d, 2, none⟩ (.bool true)) d ao cap xs a true ∧ w.grownBy ((w.drewN m).setCell ⟨d, 2, none⟩ (.bool true)) (some d) := by
  have g : w.grownBy ((w.drewN m).setCell ⟨d, 2, none⟩ (.bool true)) (some d) := grown_trans (drew_grown w m _) (set_grown _ d 2 _)
  exact ⟨⟨set_at (w := w.drewN m) h.1 2 _ rfl, h.2.1, rd_other h.1 h.2.2 g⟩, g⟩
theorem Rdr.drew {T : Nat} {w : World} {d : Nat} {ao : Option Addr} {cap : Nat} {xs : List Int} {a : Nat} {b : Bool} (h : Rdr T w d ao cap xs a b) (m : Nat) : Rdr T (w.drewN m) d ao cap xs a b := ⟨h.1, h.2.1, rd_other h.1 h.2.2 (drew_grown w m _)⟩

set_option maxHeartbeats 800000 in
theorem value_any (w : World) (d : Nat) (ao : Option Addr) (cap : Nat) (xs : List Int) (a : Nat) (b : Bool) (h : Rdr 51 w d ao cap xs a b) (hl : xs.length ≤ 65536) :
    Calls Try.prog 33 #[.pointer (some ⟨d, 0, none⟩)] w fun r w' => r = .returned (.int .i64 (vI xs a b).1) ∧ Rdr 51 w' d ao cap xs (vI xs a b).2.1 (vI xs a b).2.2 ∧ w.grownBy w' (some d) := by
  have HC := number_any w d ao cap a xs h.2.1 hl h.2.2.1 (cell_of h.1 rfl) (cell_of h.1 rfl) (frozen_of h.1 1)
  have HH : Hid (Rdr 51 w d ao cap xs a b) := h
  have c2 : w.cell? ⟨d, 2, none⟩ = some (.bool b) := cell_of h.1 rfl
  have f2 := frozen_of h.1 2
  by_cases hg : (gotN xs a).2.2 = 0
  · rw [vI_yes hg]
    have HG : Hid (a + (gotN xs a).2.1 ≤ xs.length) := (gotN_ok h.2.1 hg).2
    rw [hg] at HC
    clear h
    go_enter Try.func33, Try.ntmps33
    go_wp2_with fail
    refine HC.mono ?_
    rintro r w1 ⟨rfl, h1, _⟩
    obtain ⟨m, rfl⟩ := h1 (by first | trivial | rfl)
    have HP := HH.out.place m (a + (gotN xs a).2.1) HG.out
    have HP' : Hid (Rdr 51 ((w.drewN m).setCell ⟨d, 1, none⟩ (.int .i64 ((a : Int) + ((gotN xs a).2.1 : Nat)))) d ao cap xs (a + (gotN xs a).2.1) b ∧ w.grownBy ((w.drewN m).setCell ⟨d, 1, none⟩ (.int .i64 ((a : Int) + ((gotN xs a).2.1 : Nat)))) (some d)) := by
      have e : (((a + (gotN xs a).2.1 : Nat)) : Int) = (a : Int) + ((gotN xs a).2.1 : Nat) := by omega
      rw [← e]; exact HP
    clear HP h1 HC
    obtain ⟨w2, hw2⟩ : ∃ x, x = (w.drewN m).setCell ⟨d, 1, none⟩ (.int .i64 ((a : Int) + ((gotN xs a).2.1 : Nat))) := ⟨_, rfl⟩
    rw [← hw2] at HP' ⊢
    clear hw2
    go_wp2
    go_ret
    exact ⟨rfl, HP'.out⟩
  · rw [vI_no hg]
    have hz := gotN_bad hg
    obtain ⟨st, hst⟩ : ∃ st, st = (gotN xs a).2.2 := ⟨_, rfl⟩
    rw [hz, ← hst] at HC
    rw [← hst] at hg
    have hne : (st != 0) = true := by simpa using hg
    clear h hst hz
    go_enter Try.func33, Try.ntmps33
    go_wp2_with fail
    refine HC.mono ?_
    rintro r w1 ⟨rfl, _, h1⟩
    obtain ⟨m, rfl⟩ := h1 hg
    have HP : Hid (Rdr 51 ((w.drewN m).setCell ⟨d, 2, none⟩ (.bool true)) d ao cap xs a true ∧ w.grownBy ((w.drewN m).setCell ⟨d, 2, none⟩ (.bool true)) (some d)) := HH.out.mark m
    clear h1 HC
    go_wp2
    go_ret
    exact ⟨rfl, HP.out⟩

set_option maxHeartbeats 1600000 in
theorem text_any (w : World) (d : Nat) (ao : Option Addr) (cap : Nat) (xs : List Int) (a : Nat) (b : Bool) (h : Rdr 51 w d ao cap xs a b) (hl : xs.length ≤ 65536) :
    Calls Try.prog 34 #[.pointer (some ⟨d, 0, none⟩)] w fun r w' => r = .returned (.string (tI xs a b).1) ∧ Rdr 51 w' d ao cap xs (tI xs a b).2.1 (tI xs a b).2.2 ∧ w.grownBy w' (some d) := by
  have HC := value_any w d ao cap xs a b h hl
  have hv := vI_ok b h.2.1
  obtain ⟨hc1, hc2⟩ := h.bd
  by_cases hlong : (xs.length : Int) - (vI xs a b).2.1 < (vI xs a b).1
  · rw [tI_long hlong]
    generalize vI xs a b = p at *
    obtain ⟨n, a1, b1⟩ := p
    simp only at HC hv hlong ⊢
    go_enter Try.func34, Try.ntmps34
    go_wp2_with fail
    refine HC.mono ?_
    rintro r w1 ⟨rfl, R1, g1⟩
    have HL := left_any w1 d ao xs.length cap a1 (by omega) (by omega) (by omega) (cell_of R1.1 rfl) (cell_of R1.1 rfl)
    have HR : Hid (Rdr 51 w1 d ao cap xs a1 b1 ∧ w.grownBy w1 (some d)) := ⟨R1, g1⟩
    have c2 : w1.cell? ⟨d, 2, none⟩ = some (.bool b1) := cell_of R1.1 rfl
    have f2 := frozen_of R1.1 2
    clear R1 g1 HC
    go_wp2_with fail
    refine HL.mono ?_
    rintro r w2 ⟨rfl, m, rfl⟩
    have HP : Hid (Rdr 51 ((w1.drewN m).setCell ⟨d, 2, none⟩ (.bool true)) d ao cap xs a1 true ∧ w1.grownBy ((w1.drewN m).setCell ⟨d, 2, none⟩ (.bool true)) (some d)) := HR.out.1.mark m
    clear HL
    go_wp2
    go_ret
    exact ⟨rfl, HP.out.1, grown_trans HR.out.2 HP.out.2⟩
  · rw [tI_fits hlong]
    generalize vI xs a b = p at *
    obtain ⟨n, a1, b1⟩ := p
    simp only at HC hv hlong ⊢
    obtain ⟨k, rfl⟩ := Int.eq_ofNat_of_zero_le hv.1
    rw [Int.toNat_natCast]
    have hlong' : ¬ ((xs.length : Int) - a1 < (k : Int)) := hlong
    have hk : a1 + k ≤ xs.length := by omega
    go_enter Try.func34, Try.ntmps34
    go_wp2_with fail
    refine HC.mono ?_
    rintro r w1 ⟨rfl, R1, g1⟩
    have HL := left_any w1 d ao xs.length cap a1 (by omega) (by omega) (by omega) (cell_of R1.1 rfl) (cell_of R1.1 rfl)
    have HR : Hid (Rdr 51 w1 d ao cap xs a1 b1 ∧ w.grownBy w1 (some d)) := ⟨R1, g1⟩
    have HT : Hid (∀ m, Calls Try.prog 39 #[.pointer (some ⟨d, 0, none⟩), .int .i64 k] (w1.drewN m) fun e w' => e = .returned (cutV ao cap a1 k) ∧ ∃ m', w' = ((w1.drewN m).drewN m').setCell ⟨d, 1, none⟩ (.int .i64 ((a1 : Int) + k))) := fun m => take_any (w1.drewN m) d ao xs.length cap a1 k hk hc1 hc2 hl (cell_of (w := w1.drewN m) R1.1 rfl) (cell_of (w := w1.drewN m) R1.1 rfl) (frozen_of (w := w1.drewN m) R1.1 1)
    have HK : Hid (a1 + k ≤ xs.length) := hk
    clear R1 g1 HC hk
    go_wp2_with fail
    refine HL.mono ?_
    rintro r w2 ⟨rfl, m, rfl⟩
    clear HL
    go_wp2_with fail
    refine (HT.out m).mono ?_
    rintro r w3 ⟨rfl, m', hw3⟩
    have e1 : ((a1 + k : Nat) : Int) = (a1 : Int) + k := by omega
    have HP := ((HR.out.1.drew m).place m' (a1 + k) HK.out)
    rw [e1, ← hw3] at HP
    have HF : Hid (Rdr 51 w3 d ao cap xs (a1 + k) b1 ∧ w.grownBy w3 (some d)) := ⟨HP.1, grown_trans HR.out.2 (grown_trans (drew_grown w1 m _) HP.2)⟩
    have hs := run_str (cut_rd HP.1.2.2 HK.out)
    clear HP hw3 e1
    generalize cutV ao cap a1 k = cv at hs
    go_wp2
    go_ret
    exact ⟨rfl, HF.out⟩
end Go.Proofs.Ytdahnooehjdcgaa.rdi
