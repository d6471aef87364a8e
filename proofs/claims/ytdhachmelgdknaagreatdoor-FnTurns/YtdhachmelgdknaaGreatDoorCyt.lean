/- A run that turns lines round: its steps. -/
import Derived.Test.YtdhachmelgdknaaGreatDoorLkg
import Derived.Test.YtdhachmelgdknaaGreatDoorMF
import Derived.Test.YtdhachmelgdknaaGreatDoorMG
namespace Go.Proofs.YtdhachmelgdknaaGreatDoor.run
open Go.ChangeShapes Go.WideShapes Go.ChangeAt Go.RowKit
open Go.Proofs.YtdhachmelgdknaaGreatDoor.bas Go.Proofs.YtdhachmelgdknaaGreatDoor.rdr Go.Proofs.YtdhachmelgdknaaGreatDoor.chk
set_option linter.unusedVariables false
/-- What such a run works on. -/
structure Tw (base d : Nat) (W : World) (u : U) (ls : List ByteArray) : Prop where
  lines : ∃ gl lc ob, u.ln = .slice (some ⟨gl, 0, none⟩) ls.length lc ∧ W.heap[gl]? = some ob ∧ isB ob = false ∧ gl ≠ d ∧ LN W gl ls
  list : ∃ g lc og, u.ls = .slice (some ⟨g, 0, none⟩) 3 lc ∧ W.heap[g]? = some og ∧ isB og = false ∧ g ≠ d ∧ Lst W g lc [cmG, cmH, cmD]
  few : ls.length ≤ 100
  size : (joinL ls).size ≤ 900
/-- Behind i lines. -/
structure Ta (base d : Nat) (W : World) (u : U) (ls : List ByteArray) (i : Nat) (wr : World) : Prop where
  ex : ∃ u', Rn base d wr u' (if i = ls.length then joinL ls.reverse else bas.mt) ∧ u'.ls = u.ls ∧ u'.ln = u.ln ∧ u'.quiet = false ∧ u'.left = false ∧ u'.num = i ∧ u'.steps = 3 * i ∧ u'.hold = rv ls i
  kp : KP base d W wr
/-- In a cycle, behind j commands. -/
structure Tm (base d : Nat) (W : World) (u : U) (ls : List ByteArray) (i : Nat) (a : ByteArray) (j : Nat) (wr : World) : Prop where
  ex : ∃ u', Rn base d wr u' bas.mt ∧ u'.ls = u.ls ∧ u'.ln = u.ln ∧ u'.quiet = false ∧ u'.left = false ∧ u'.num = i + 1 ∧ u'.steps = 3 * i + j ∧ u'.pat = (if j = 0 then a else rv ls (i + 1)) ∧ u'.hold = (if j < 2 then rv ls i else rv ls (i + 1)) ∧ u'.at_ = j
  kp : KP base d W wr
section
variable {base d : Nat} {W : World} {u : U} {ls : List ByteArray}
theorem tbegin (hw : Tw base d W u ls) {i : Nat} {wr : World} (h : Ta base d W u ls i wr) (hi : i ≤ ls.length) :
    (i = ls.length ∧ Calls Tryz.prog 58 #[.pointer (some ⟨d, 0, none⟩)] wr fun e w' => e = .returned (.bool false) ∧ Ta base d W u ls i w') ∨
    (∃ a, ls[i]? = some a ∧ Calls Tryz.prog 58 #[.pointer (some ⟨d, 0, none⟩)] wr fun e w' => e = .returned (.bool true) ∧ Tm base d W u ls i a 0 w') := by
  obtain ⟨u', hR, e1, e2, e3, e4, e5, e6, e7⟩ := h.ex
  obtain ⟨gl, lc, ob, hln, hg, hob, hgd, hL⟩ := hw.lines
  have hfew := hw.few
  have hsz := hw.size
  by_cases hlt : i < ls.length
  · right
    rw [if_neg (by omega)] at hR
    obtain ⟨a, ha⟩ : ∃ a, ls[i]? = some a := ⟨_, List.getElem?_eq_getElem hlt⟩
    refine ⟨a, ha, ?_⟩
    refine (begin_line hR e4 gl ls ls.length lc (e2.trans hln) (by omega) (by omega) ob (h.kp.oth gl ob hg hob hgd) hgd (ln_kp h.kp hg hob hgd hL) a (by rw [e5]; exact ha) (by have := szMem ls a (List.mem_of_getElem? ha); omega)).mono ?_
    rintro e w' ⟨rfl, h1, k1⟩
    exact ⟨rfl, ⟨{ u' with at_ := 0, flag := false, num := u'.num + 1, pat := a }, h1, e1, e2, e3, e4, by show u'.num + 1 = i + 1; rw [e5], by show u'.steps = _; rw [e6]; rfl, rfl, e7, rfl⟩, h.kp.trans k1⟩
  · left
    have he : i = ls.length := by omega
    refine ⟨he, ?_⟩
    refine (begin_end hR e4 _ ls.length lc (e2.trans hln) (by omega) (by omega)).mono ?_
    rintro e w' ⟨rfl, h1, k1⟩
    exact ⟨rfl, ⟨_, h1, e1, e2, e3, e4, e5, e6, e7⟩, h.kp.trans k1⟩
theorem tlook0 (hw : Tw base d W u ls) {i : Nat} {a : ByteArray} {wr : World} (ha : ls[i]? = some a) (h : Tm base d W u ls i a 0 wr) :
    Calls Tryz.prog 59 #[.pointer (some ⟨d, 0, none⟩)] wr fun e w' => e = .returned (.int .i64 0) ∧ Tm base d W u ls i a 1 w' := by
  obtain ⟨u', hR, e1, e2, e3, e4, e5, e6, e7, e8, e9⟩ := h.ex
  obtain ⟨g, lc, og, hls, hg, hog, hgd, hL⟩ := hw.list
  have hfew := hw.few
  have hsz := hw.size
  have hilt := (List.getElem?_eq_some_iff.1 ha).1
  rw [if_pos rfl] at e7
  rw [if_pos (by omega)] at e8
  have HH : ∀ W', Rn base d W' { u' with steps := u'.steps + 1, at_ := u'.at_ + 1 } bas.mt → Lst W' g lc [cmG, cmH, cmD] → KP base d wr W' → Calls Tryz.prog 96 #[.pointer (some ⟨d, 0, none⟩), .int .i64 (u'.at_ : Nat)] W' fun e w' => e = .returned (.bool (decide (i = 0))) ∧ Below W'.heap.size W' w' := by
    intro W' hR' hL' _
    refine has_one hR'.ru g lc 3 (e1.trans hls) [cmG, cmH, cmD] hL' u'.at_ 1 1 true ⟨#[71]⟩ (by rw [e9]; rfl) (by omega) (by omega) (by decide) _ ?_
    refine hide (fun wx bx => ?_)
    have := stands_line (hR'.ru.below bx) 1
    have ee : decide ((u'.num : Int) = 1) = decide (i = 0) := by
      rw [e5]
      by_cases h0 : i = 0
      · rw [decide_eq_true h0, decide_eq_true (by omega)]
      · rw [decide_eq_false h0, decide_eq_false (by omega)]
    rw [show ({ u' with steps := u'.steps + 1, at_ := u'.at_ + 1 } : U).num = u'.num from rfl, ee] at this
    exact this
  by_cases h0 : i = 0
  · rw [decide_eq_true h0] at HH
    refine (look_skip hR g lc 3 (e1.trans hls) [cmG, cmH, cmD] (lst_kp h.kp hg hog hgd hL) hgd 1 1 true ⟨#[71]⟩ (by rw [e9]; rfl) (by omega) (by omega) (by omega) true HH rfl (one_ne (by decide))).mono ?_
    rintro e w' ⟨rfl, h1, k1⟩
    refine ⟨rfl, ⟨_, h1, e1, e2, e3, e4, e5, ?_, ?_, e8, ?_⟩, h.kp.trans k1⟩
    · show u'.steps + 1 = _; omega
    · show u'.pat = rv ls (i + 1)
      subst h0
      rw [rv_one ha]
      exact e7
    · show u'.at_ + 1 = 1; omega
  · rw [decide_eq_false h0] at HH
    refine look_do hR g lc 3 (e1.trans hls) [cmG, cmH, cmD] (lst_kp h.kp hg hog hgd hL) hgd 1 1 true ⟨#[71]⟩ (by rw [e9]; rfl) (by omega) (by omega) (by omega) false HH rfl 0 _ ?_
    intro W' hR' hL' hk'
    have hpat : u'.pat ++ nl ++ u'.hold = rv ls (i + 1) := by rw [rv_more ha (by omega), e7, e8]
    refine (do_G hR' (by show (u'.pat ++ nl ++ u'.hold).size ≤ 1000; rw [hpat]; have := szRv ls (i + 1); omega) g lc 3 (e1.trans hls) [cmG, cmH, cmD] hL' u'.at_ 1 1 true (by rw [e9]; rfl) (by omega) (by omega)).mono ?_
    rintro e w' ⟨rfl, h1, k1⟩
    refine ⟨rfl, ⟨_, h1, e1, e2, e3, e4, e5, ?_, hpat, e8, ?_⟩, (h.kp.trans hk').trans k1⟩
    · show u'.steps + 1 = _; omega
    · show u'.at_ + 1 = 1; omega
theorem tlook1 (hw : Tw base d W u ls) {i : Nat} {a : ByteArray} {wr : World} (ha : ls[i]? = some a) (h : Tm base d W u ls i a 1 wr) :
    Calls Tryz.prog 59 #[.pointer (some ⟨d, 0, none⟩)] wr fun e w' => e = .returned (.int .i64 0) ∧ Tm base d W u ls i a 2 w' := by
  obtain ⟨u', hR, e1, e2, e3, e4, e5, e6, e7, e8, e9⟩ := h.ex
  obtain ⟨g, lc, og, hls, hg, hog, hgd, hL⟩ := hw.list
  have hfew := hw.few
  have hilt := (List.getElem?_eq_some_iff.1 ha).1
  rw [if_neg (by omega)] at e7
  refine look_do hR g lc 3 (e1.trans hls) [cmG, cmH, cmD] (lst_kp h.kp hg hog hgd hL) hgd 0 0 false ⟨#[104]⟩ (by rw [e9]; rfl) (by omega) (by omega) (by omega) true ?_ rfl 0 _ ?_
  · intro W' hR' hL' _
    exact has_none hR'.ru g lc 3 (e1.trans hls) [cmG, cmH, cmD] hL' u'.at_ false ⟨#[104]⟩ (by rw [e9]; rfl) (by omega) (by omega)
  · intro W' hR' hL' hk'
    refine (do_h hR' g lc 3 (e1.trans hls) [cmG, cmH, cmD] hL' u'.at_ 0 0 false (by rw [e9]; rfl) (by omega) (by omega)).mono ?_
    rintro e w' ⟨rfl, h1, k1⟩
    refine ⟨rfl, ⟨_, h1, e1, e2, e3, e4, e5, ?_, e7, e7, ?_⟩, (h.kp.trans hk').trans k1⟩
    · show u'.steps + 1 = _; omega
    · show u'.at_ + 1 = 2; omega
theorem tlook2 (hw : Tw base d W u ls) {i : Nat} {a : ByteArray} {wr : World} (ha : ls[i]? = some a) (h : Tm base d W u ls i a 2 wr) :
    Calls Tryz.prog 59 #[.pointer (some ⟨d, 0, none⟩)] wr fun e w' => e = .returned (.int .i64 (if i + 1 = ls.length then 0 else 1)) ∧ Tm base d W u ls i a 3 w' := by
  obtain ⟨u', hR, e1, e2, e3, e4, e5, e6, e7, e8, e9⟩ := h.ex
  obtain ⟨g, lc, og, hls, hg, hog, hgd, hL⟩ := hw.list
  obtain ⟨gl, lc2, ob, hln, _⟩ := hw.lines
  have hfew := hw.few
  have hilt := (List.getElem?_eq_some_iff.1 ha).1
  rw [if_neg (by omega)] at e7 e8
  have HH : ∀ W', Rn base d W' { u' with steps := u'.steps + 1, at_ := u'.at_ + 1 } bas.mt → Lst W' g lc [cmG, cmH, cmD] → KP base d wr W' → Calls Tryz.prog 96 #[.pointer (some ⟨d, 0, none⟩), .int .i64 (u'.at_ : Nat)] W' fun e w' => e = .returned (.bool (decide (i + 1 = ls.length))) ∧ Below W'.heap.size W' w' := by
    intro W' hR' hL' _
    refine has_one hR'.ru g lc 3 (e1.trans hls) [cmG, cmH, cmD] hL' u'.at_ 2 0 true ⟨#[100]⟩ (by rw [e9]; rfl) (by omega) (by omega) (by decide) _ ?_
    refine hide (fun wx bx => ?_)
    have := stands_last (hR'.ru.below bx) _ ls.length lc2 (e2.trans hln) (by show u'.num ≤ _; omega) (by omega)
    rw [show ({ u' with steps := u'.steps + 1, at_ := u'.at_ + 1 } : U).num = u'.num from rfl, e5] at this
    exact this
  by_cases h0 : i + 1 = ls.length
  · rw [decide_eq_true h0] at HH
    rw [if_pos h0]
    refine (look_skip hR g lc 3 (e1.trans hls) [cmG, cmH, cmD] (lst_kp h.kp hg hog hgd hL) hgd 2 0 true ⟨#[100]⟩ (by rw [e9]; rfl) (by omega) (by omega) (by omega) true HH rfl (one_ne (by decide))).mono ?_
    rintro e w' ⟨rfl, h1, k1⟩
    refine ⟨rfl, ⟨_, h1, e1, e2, e3, e4, e5, ?_, e7, e8, ?_⟩, h.kp.trans k1⟩
    · show u'.steps + 1 = _; omega
    · show u'.at_ + 1 = 3; omega
  · rw [decide_eq_false h0] at HH
    rw [if_neg h0]
    refine look_do hR g lc 3 (e1.trans hls) [cmG, cmH, cmD] (lst_kp h.kp hg hog hgd hL) hgd 2 0 true ⟨#[100]⟩ (by rw [e9]; rfl) (by omega) (by omega) (by omega) false HH rfl 1 _ ?_
    intro W' hR' hL' hk'
    refine (do_d hR' g lc 3 (e1.trans hls) [cmG, cmH, cmD] hL' u'.at_ 2 0 true (by rw [e9]; rfl) (by omega) (by omega)).mono ?_
    rintro e w' ⟨rfl, h1, k1⟩
    refine ⟨rfl, ⟨_, h1, e1, e2, e3, e4, e5, ?_, e7, e8, ?_⟩, (h.kp.trans hk').trans k1⟩
    · show u'.steps + 1 = _; omega
    · show u'.at_ + 1 = 3; omega
theorem tkept (hw : Tw base d W u ls) {i : Nat} {a : ByteArray} {wr : World} (ha : ls[i]? = some a) (h : Tm base d W u ls i a 3 wr) (hi : i + 1 ≠ ls.length) :
    Calls Tryz.prog 60 #[.pointer (some ⟨d, 2, none⟩)] wr fun e w' => e = .returned (.tuple #[]) ∧ Ta base d W u ls (i + 1) w' := by
  obtain ⟨u', hR, e1, e2, e3, e4, e5, e6, e7, e8, e9⟩ := h.ex
  refine (sayKept_any hR).mono ?_
  rintro e w' ⟨rfl, h1, k1⟩
  refine ⟨rfl, ⟨u', ?_, e1, e2, e3, e4, e5, by omega, e8⟩, h.kp.trans k1⟩
  rw [if_neg hi]
  exact h1
theorem tend (hw : Tw base d W u ls) {i : Nat} {a : ByteArray} {wr : World} (ha : ls[i]? = some a) (h : Tm base d W u ls i a 3 wr) (hi : i + 1 = ls.length) :
    Calls Tryz.prog 61 #[.pointer (some ⟨d, 0, none⟩)] wr fun e w' => e = .returned (.tuple #[]) ∧ Ta base d W u ls (i + 1) w' := by
  obtain ⟨u', hR, e1, e2, e3, e4, e5, e6, e7, e8, e9⟩ := h.ex
  have hsz := hw.size
  have hp : u'.pat = rv ls (i + 1) := e7
  have hz := szRv ls (i + 1)
  refine (sayCycle_loud hR e3 (by rw [hp]; have : bas.mt.size = 0 := rfl; omega)).mono ?_
  rintro e w' ⟨rfl, ⟨v, h1⟩, k1⟩
  refine ⟨rfl, ⟨{ u' with sd := v }, ?_, e1, e2, e3, e4, e5, by show u'.steps = _; omega, e8⟩, h.kp.trans k1⟩
  rw [if_pos hi]
  have e0 : bas.mt ++ joinL [u'.pat] = joinL ls.reverse := by
    rw [hp, rv_all ha hi]
    apply of_list
    simp [bas.mt]
  rw [e0] at h1
  exact h1
end
end Go.Proofs.YtdhachmelgdknaaGreatDoor.run
