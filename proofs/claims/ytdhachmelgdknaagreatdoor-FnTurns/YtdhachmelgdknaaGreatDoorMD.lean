/- The specification's run of the script that turns lines round: its steps. -/
import Derived.Test.YtdhachmelgdknaaGreatDoorCyt
import Derived.Test.YtdhachmelgdknaaGreatDoorSds
/- The specification's run of a script. -/
namespace Go.Proofs.YtdhachmelgdknaaGreatDoor.srn
open Go.ChangeShapes Go.WideShapes Go.ChangeAt Go.RowKit
open Go.Proofs.YtdhachmelgdknaaGreatDoor.bas Go.Proofs.YtdhachmelgdknaaGreatDoor.rdr Go.Proofs.YtdhachmelgdknaaGreatDoor.chk Go.Proofs.YtdhachmelgdknaaGreatDoor.run
set_option linter.unusedVariables false
/-- A run without a fault, nothing kept for later. -/
structure R where
  list : Value
  lines : Value
  quiet : Bool
  at_ : Nat
  space : ByteArray
  hold : ByteArray
  out : Value
  act : Value
  flag : Bool
  steps : Nat
  stop : Bool
  keep : Bool
  mute : Bool
def R.cells (r : R) : Array Value := #[r.list, r.lines, .bool r.quiet, .int .i64 (r.at_ : Nat), .string r.space, .string r.hold, .string ⟨#[]⟩, r.out, r.act, .bool r.flag, .int .i64 (r.steps : Nat), .int .i64 0, .bool r.stop, .bool r.keep, .bool r.mute]
/-- The run at block d. -/
def SR (w : World) (d : Nat) (r : R) : Prop := w.heap[d]? = some (.cells r.cells 65 (0, 0))
theorem SR.lt {w : World} {d : Nat} {r : R} (h : SR w d r) : d < w.heap.size := (Array.getElem?_eq_some_iff.1 h).1
theorem SR.keep {w w' : World} {d : Nat} {r : R} (h : SR w d r) (hk : w'.heap[d]? = w.heap[d]?) : SR w' d r := hk.trans h
theorem SR.below {w w' : World} {d : Nat} {r : R} (h : SR w d r) (hb : Below w.heap.size w w') : SR w' d r := h.keep (hb.block d h.lt)
theorem SR.fz {w : World} {d : Nat} {r : R} (h : SR w d r) (i : Nat) : w.frozen? ⟨d, i, none⟩ = false := frozen_of h i
theorem SR.c0 {w : World} {d : Nat} {r : R} (h : SR w d r) : w.cell? ⟨d, 0, none⟩ = some (r.list) := cell_of h rfl
theorem SR.set0 {w : World} {d : Nat} {r : R} (h : SR w d r) (x : Value) : SR (w.setCell ⟨d, 0, none⟩ (x)) d { r with list := x } := by
  have := heap_setCell_same w d 0 _ 65 (x) h
  simpa [SR, R.cells] using this
theorem SR.c1 {w : World} {d : Nat} {r : R} (h : SR w d r) : w.cell? ⟨d, 1, none⟩ = some (r.lines) := cell_of h rfl
theorem SR.set1 {w : World} {d : Nat} {r : R} (h : SR w d r) (x : Value) : SR (w.setCell ⟨d, 1, none⟩ (x)) d { r with lines := x } := by
  have := heap_setCell_same w d 1 _ 65 (x) h
  simpa [SR, R.cells] using this
theorem SR.c2 {w : World} {d : Nat} {r : R} (h : SR w d r) : w.cell? ⟨d, 2, none⟩ = some (.bool r.quiet) := cell_of h rfl
theorem SR.set2 {w : World} {d : Nat} {r : R} (h : SR w d r) (x : Bool) : SR (w.setCell ⟨d, 2, none⟩ (.bool x)) d { r with quiet := x } := by
  have := heap_setCell_same w d 2 _ 65 (.bool x) h
  simpa [SR, R.cells] using this
theorem SR.c3 {w : World} {d : Nat} {r : R} (h : SR w d r) : w.cell? ⟨d, 3, none⟩ = some (.int .i64 (r.at_ : Nat)) := cell_of h rfl
theorem SR.set3 {w : World} {d : Nat} {r : R} (h : SR w d r) (x : Nat) : SR (w.setCell ⟨d, 3, none⟩ (.int .i64 (x : Nat))) d { r with at_ := x } := by
  have := heap_setCell_same w d 3 _ 65 (.int .i64 (x : Nat)) h
  simpa [SR, R.cells] using this
theorem SR.c4 {w : World} {d : Nat} {r : R} (h : SR w d r) : w.cell? ⟨d, 4, none⟩ = some (.string r.space) := cell_of h rfl
theorem SR.set4 {w : World} {d : Nat} {r : R} (h : SR w d r) (x : ByteArray) : SR (w.setCell ⟨d, 4, none⟩ (.string x)) d { r with space := x } := by
  have := heap_setCell_same w d 4 _ 65 (.string x) h
  simpa [SR, R.cells] using this
theorem SR.c5 {w : World} {d : Nat} {r : R} (h : SR w d r) : w.cell? ⟨d, 5, none⟩ = some (.string r.hold) := cell_of h rfl
theorem SR.set5 {w : World} {d : Nat} {r : R} (h : SR w d r) (x : ByteArray) : SR (w.setCell ⟨d, 5, none⟩ (.string x)) d { r with hold := x } := by
  have := heap_setCell_same w d 5 _ 65 (.string x) h
  simpa [SR, R.cells] using this
theorem SR.c6 {w : World} {d : Nat} {r : R} (h : SR w d r) : w.cell? ⟨d, 6, none⟩ = some (.string ⟨#[]⟩) := cell_of h rfl
theorem SR.c7 {w : World} {d : Nat} {r : R} (h : SR w d r) : w.cell? ⟨d, 7, none⟩ = some (r.out) := cell_of h rfl
theorem SR.set7 {w : World} {d : Nat} {r : R} (h : SR w d r) (x : Value) : SR (w.setCell ⟨d, 7, none⟩ (x)) d { r with out := x } := by
  have := heap_setCell_same w d 7 _ 65 (x) h
  simpa [SR, R.cells] using this
theorem SR.c8 {w : World} {d : Nat} {r : R} (h : SR w d r) : w.cell? ⟨d, 8, none⟩ = some (r.act) := cell_of h rfl
theorem SR.set8 {w : World} {d : Nat} {r : R} (h : SR w d r) (x : Value) : SR (w.setCell ⟨d, 8, none⟩ (x)) d { r with act := x } := by
  have := heap_setCell_same w d 8 _ 65 (x) h
  simpa [SR, R.cells] using this
theorem SR.c9 {w : World} {d : Nat} {r : R} (h : SR w d r) : w.cell? ⟨d, 9, none⟩ = some (.bool r.flag) := cell_of h rfl
theorem SR.set9 {w : World} {d : Nat} {r : R} (h : SR w d r) (x : Bool) : SR (w.setCell ⟨d, 9, none⟩ (.bool x)) d { r with flag := x } := by
  have := heap_setCell_same w d 9 _ 65 (.bool x) h
  simpa [SR, R.cells] using this
theorem SR.c10 {w : World} {d : Nat} {r : R} (h : SR w d r) : w.cell? ⟨d, 10, none⟩ = some (.int .i64 (r.steps : Nat)) := cell_of h rfl
theorem SR.set10 {w : World} {d : Nat} {r : R} (h : SR w d r) (x : Nat) : SR (w.setCell ⟨d, 10, none⟩ (.int .i64 (x : Nat))) d { r with steps := x } := by
  have := heap_setCell_same w d 10 _ 65 (.int .i64 (x : Nat)) h
  simpa [SR, R.cells] using this
theorem SR.c11 {w : World} {d : Nat} {r : R} (h : SR w d r) : w.cell? ⟨d, 11, none⟩ = some (.int .i64 0) := cell_of h rfl
theorem SR.c12 {w : World} {d : Nat} {r : R} (h : SR w d r) : w.cell? ⟨d, 12, none⟩ = some (.bool r.stop) := cell_of h rfl
theorem SR.set12 {w : World} {d : Nat} {r : R} (h : SR w d r) (x : Bool) : SR (w.setCell ⟨d, 12, none⟩ (.bool x)) d { r with stop := x } := by
  have := heap_setCell_same w d 12 _ 65 (.bool x) h
  simpa [SR, R.cells] using this
theorem SR.c13 {w : World} {d : Nat} {r : R} (h : SR w d r) : w.cell? ⟨d, 13, none⟩ = some (.bool r.keep) := cell_of h rfl
theorem SR.set13 {w : World} {d : Nat} {r : R} (h : SR w d r) (x : Bool) : SR (w.setCell ⟨d, 13, none⟩ (.bool x)) d { r with keep := x } := by
  have := heap_setCell_same w d 13 _ 65 (.bool x) h
  simpa [SR, R.cells] using this
theorem SR.c14 {w : World} {d : Nat} {r : R} (h : SR w d r) : w.cell? ⟨d, 14, none⟩ = some (.bool r.mute) := cell_of h rfl
theorem SR.set14 {w : World} {d : Nat} {r : R} (h : SR w d r) (x : Bool) : SR (w.setCell ⟨d, 14, none⟩ (.bool x)) d { r with mute := x } := by
  have := heap_setCell_same w d 14 _ 65 (.bool x) h
  simpa [SR, R.cells] using this
theorem SR.set6 {w : World} {d : Nat} {r : R} (h : SR w d r) : SR (w.setCell ⟨d, 6, none⟩ (.string ⟨#[]⟩)) d r := by
  have := heap_setCell_same w d 6 _ 65 (.string ⟨#[]⟩) h
  simpa [SR, R.cells] using this
/-- A run that has said S. -/
structure Sn (base d : Nat) (w : World) (r : R) (S : ByteArray) : Prop where
  sr : SR w d r
  sd : SD w base r.out S
  bz : base ≤ w.heap.size
theorem Sn.ne {base d : Nat} {w : World} {r : R} {S : ByteArray} (h : Sn base d w r S) {k : Nat} (hk : r.out.ownBlock = some k) : k ≠ d := by
  rintro rfl
  obtain ⟨_, cur, hc⟩ := h.sd.blk hk
  have := hc.symm.trans h.sr
  simp at this
theorem Sn.grow {base d : Nat} {w w' : World} {r r' : R} {S : ByteArray} (h : Sn base d w r S) (hr : SR w' d r') (g : w.grownBy w' (some d)) (h1 : r'.out = r.out) : Sn base d w' r' S := by
  refine ⟨hr, ?_, Nat.le_trans h.bz g.size⟩
  rw [h1]
  refine h.sd.keep (fun k hk => g.block k ?_ (by have := h.ne hk; simpa using this))
  obtain ⟨_, cur, hc⟩ := h.sd.blk hk
  exact (Array.getElem?_eq_some_iff.1 hc).1
set_option maxHeartbeats 800000 in
theorem put_any {w : World} {d : Nat} {r : R} (h : SR w d r) (s : ByteArray) (hs : s.size ≤ 1000) :
    Calls Tryz.prog 28 #[.pointer (some ⟨d, 0, none⟩), .string s] w fun e w' => e = .returned (.tuple #[]) ∧ SR w' d { r with space := s } ∧ w.grownBy w' (some d) := by
  have c4 := h.c4
  have f4 := h.fz 4
  have q : decide (1000 < (s.size : Int)) = false := by simp; omega
  have HF : Hid (SR (w.setCell ⟨d, 4, none⟩ (.string s)) d { r with space := s } ∧ w.grownBy (w.setCell ⟨d, 4, none⟩ (.string s)) (some d)) := ⟨h.set4 s, grown_set (grown_refl w d) _ _⟩
  clear h hs
  go_enter Tryz.func28, Tryz.ntmps28
  go_wp2
  go_end0
  exact ⟨rfl, HF.out⟩
set_option maxHeartbeats 1600000 in
theorem more_any {w : World} {d : Nat} {r : R} (h : SR w d r) (gl n lc : Nat) (ls : List ByteArray) (hl : r.lines = .slice (some ⟨gl, 0, none⟩) n lc) (hgd : gl ≠ d) (hL : LN w gl ls) (a : ByteArray) (ha : ls[r.at_]? = some a) (hn : r.at_ < n) (hn2 : n ≤ 1000) :
    Calls Tryz.prog 27 #[.pointer (some ⟨d, 0, none⟩)] w fun e w' => e = .returned (.tuple #[.string a, .bool true]) ∧ SR w' d { r with at_ := r.at_ + 1 } ∧ w.grownBy w' (some d) := by
  have c1 := h.c1
  have c3 := h.c3
  have f3 := h.fz 3
  rw [hl] at c1
  have cl := hL r.at_ a ha
  have HF : Hid (∀ q, SR ((w.drewN q).setCell ⟨d, 3, none⟩ (.int .i64 ((r.at_ : Int) + 1))) d { r with at_ := r.at_ + 1 } ∧ w.grownBy ((w.drewN q).setCell ⟨d, 3, none⟩ (.int .i64 ((r.at_ : Int) + 1))) (some d) ∧ ((w.drewN q).setCell ⟨d, 3, none⟩ (.int .i64 ((r.at_ : Int) + 1))).cell? ⟨gl, r.at_, none⟩ = some (.string a)) := fun q => by
    refine ⟨SR.set3 (w := w.drewN q) h (r.at_ + 1), grown_set (grown_drew (grown_refl w d) q) _ _, ?_⟩
    rw [World.cell?_of_block (show ((w.drewN q).setCell ⟨d, 3, none⟩ (.int .i64 ((r.at_ : Int) + 1))).heap[(⟨gl, r.at_, none⟩ : Addr).block]? = w.heap[(⟨gl, r.at_, none⟩ : Addr).block]? from Below.heap_setCell _ _ _ _ hgd)]
    exact cl
  have HL := hide hl
  have e1 : ((r.at_ : Int) == (n : Int)) = false := by rw [beq_eq_false_iff_ne]; omega
  obtain ⟨k, ek⟩ : ∃ k, r.at_ = k := ⟨_, rfl⟩
  have HE := hide ek
  rw [ek] at c3 HF hn e1
  have hkI : (k : Int) < (n : Int) := by omega
  have k1 : IntKind.i64.wrap ((k : Int) + 1 - 1) = (k : Int) := by rw [IntKind.wrap_i64]; omega
  have k2 : (k : Int) + 1 - 1 = (k : Int) := by omega
  clear h hl hL ha cl ek hgd
  go_enter Tryz.func27, Tryz.ntmps27
  go_wp2
  go_quiet (fail)
  have z3 : (w.drewN nq).cell? ⟨d, 3, none⟩ = some (.int .i64 (k : Nat)) := c3
  have g3 : (w.drewN nq).frozen? ⟨d, 3, none⟩ = false := f3
  obtain ⟨hS, hG, hc⟩ := HF.out nq
  obtain ⟨W1, hW1⟩ : ∃ W1, (w.drewN nq).setCell ⟨d, 3, none⟩ (.int .i64 ((k : Int) + 1)) = W1 := ⟨_, rfl⟩
  rw [hW1] at hS hG hc
  have d3 : W1.cell? ⟨d, 3, none⟩ = some (.int .i64 ((k : Int) + 1)) := hS.c3
  have d1 : W1.cell? ⟨d, 1, none⟩ = some (.slice (some ⟨gl, 0, none⟩) n lc) := by
    rw [hS.c1]
    show some r.lines = _
    rw [HL.out]
  have HS := hide hS
  have HG := hide hG
  clear hS hG HF c1 c3 f3
  go_wp2
  (try rw [hW1])
  go_quiet (fail)
  go_wp2
  go_ret2
  refine ⟨rfl, ?_, ?_⟩
  · rw [HE.out]; exact HS.out
  · exact grown_drew HG.out _
end Go.Proofs.YtdhachmelgdknaaGreatDoor.srn
/- The specification's run: what it says, which lines a command has. -/
namespace Go.Proofs.YtdhachmelgdknaaGreatDoor.srn
open Go.ChangeShapes Go.WideShapes Go.ChangeAt Go.RowKit
open Go.Proofs.YtdhachmelgdknaaGreatDoor.bas Go.Proofs.YtdhachmelgdknaaGreatDoor.rdr Go.Proofs.YtdhachmelgdknaaGreatDoor.chk Go.Proofs.YtdhachmelgdknaaGreatDoor.run
set_option linter.unusedVariables false
theorem sr_app {base d : Nat} {w w' : World} {v : Value} {S : ByteArray} {r : R} (h : SR w d r) (hs : SD w base v S) (g : w.grownBy w' v.ownBlock) : SR w' d r := h.keep (g.block d h.lt (fun e => by
    obtain ⟨_, cur, hc⟩ := hs.blk e.symm
    have := hc.symm.trans h
    simp at this))
set_option maxHeartbeats 1600000 in
theorem say_any {base d : Nat} {w : World} {r : R} {S : ByteArray} (h : Sn base d w r S) (s : ByteArray) (hsz : S.size + s.size ≤ 8000) :
    Calls Tryz.prog 46 #[.pointer (some ⟨d, 0, none⟩), .string s] w fun e w' => e = .returned (.tuple #[]) ∧ (∃ v, Sn base d w' { r with out := v } (S ++ s)) ∧ KP base d w w' := by
  obtain ⟨i0, hi, hz0, hz1, hz2⟩ := info_parts info5
  have HI : Hid (Tryz.prog.info? 5 = some i0 ∧ i0.zero = some (.int .u8 0) ∧ i0.size = 1 ∧ i0.bytes = 1) := ⟨hi, hz0, hz1, hz2⟩
  clear hi hz0 hz1 hz2
  obtain ⟨o, c, ho⟩ := h.sd.form
  have c7 := h.sr.c7
  rw [ho] at c7
  have HS : Hid (w.ownsRow base 5 1 (.slice o S.size c) S.size (Lib.strCells S)) := by rw [← ho]; exact h.sd
  have bz := h.bz
  have HF : Hid (∀ v' w', w'.ownsRow base 5 1 v' (S.size + s.size) (Lib.strCells S ++ Lib.strCells s) → w.grownBy w' (Value.slice o S.size c).ownBlock → ∃ o' c', v' = .slice o' (S.size + s.size) c' ∧ w'.cell? ⟨d, 7, none⟩ = some (.slice o S.size c) ∧ w'.frozen? ⟨d, 7, none⟩ = false ∧ (w'.setCell ⟨d, 7, none⟩ v').cell? ⟨d, 7, none⟩ = some v' ∧ Hid ((∃ v, Sn base d (w'.setCell ⟨d, 7, none⟩ v') { r with out := v } (S ++ s)) ∧ KP base d w (w'.setCell ⟨d, 7, none⟩ v'))) := by
    intro v' w' O G
    have hs' : SD w' base v' (S ++ s) := by unfold SD; rw [cells_app, ByteArray.size_append]; exact O
    have hsd : SD w base (.slice o S.size c) S := HS.out
    have hr := sr_app h.sr hsd G
    obtain ⟨o', c', e'⟩ := hs'.form
    rw [ByteArray.size_append] at e'
    have hr7 := hr.set7 v'
    refine ⟨o', c', e', by rw [hr.c7, ho], hr.fz 7, hr7.c7, ⟨v', hr7, ?_, ?_⟩, ?_⟩
    · refine hs'.keep (fun j hj => Below.heap_setCell _ _ _ _ ?_)
      rintro rfl
      obtain ⟨_, cur, hc⟩ := hs'.blk hj
      have := hc.symm.trans hr
      simp at this
    · have := G.size
      simp
      omega
    · exact (KP.append hsd G h.bz).trans (KP.grown (grown_set (grown_refl _ _) _ _) (Nat.le_trans h.bz G.size))
  have hq : decide (8000 < ((S.size + s.size : Nat) : Int)) = false := by simp; omega
  have hq2 : decide ((8000 : Int) < (S.size : Int) + (s.size : Int)) = false := by simp; omega
  have hzN : S.size + s.size ≤ 8000 := hsz
  clear h ho
  go_enter Tryz.func46, Tryz.ntmps46
  go_wp2_with (at_builtin; refine Lib.wpList_append_own_string w rfl _ _ 22 9 rfl base 5 i0 Tryz.underlying22 Tryz.underlying9 HI.out.1 HI.out.2.1 HI.out.2.2.1 HI.out.2.2.2 (.slice o S.size c) _ _ rfl HS.out s rfl (by unfold maxLen; omega) (by omega) bz ?_; intro v1 w1 O1 G1 _; obtain ⟨o1, c1, e1, y7, yf, y8, HX⟩ := HF.out v1 w1 O1 G1; subst e1; clear O1 G1)
  go_end0
  exact ⟨rfl, HX.out⟩
set_option maxHeartbeats 1600000 in
theorem flush_any {base d : Nat} {w : World} {r : R} {S : ByteArray} (h : Sn base d w r S) (hsz : S.size ≤ 8000) :
    Calls Tryz.prog 31 #[.pointer (some ⟨d, 0, none⟩)] w fun e w' => e = .returned (.tuple #[]) ∧ (∃ v, Sn base d w' { r with out := v } S) ∧ KP base d w w' := by
  have c6 := h.sr.c6
  have HS : Hid (Calls Tryz.prog 46 #[.pointer (some ⟨d, 0, none⟩), .string ⟨#[]⟩] w fun e w1 => e = .returned (.tuple #[]) ∧ w1.cell? ⟨d, 6, none⟩ = some (.string ⟨#[]⟩) ∧ w1.frozen? ⟨d, 6, none⟩ = false ∧ Hid ((∃ v, Sn base d (w1.setCell ⟨d, 6, none⟩ (.string ⟨#[]⟩)) { r with out := v } S) ∧ KP base d w (w1.setCell ⟨d, 6, none⟩ (.string ⟨#[]⟩)))) := by
    refine (say_any h ⟨#[]⟩ (by have : (⟨#[]⟩ : ByteArray).size = 0 := rfl; omega)).mono ?_
    rintro e w1 ⟨rfl, ⟨v, h1⟩, k1⟩
    have e0 : S ++ (⟨#[]⟩ : ByteArray) = S := by apply of_list; simp
    rw [e0] at h1
    refine ⟨rfl, h1.sr.c6, h1.sr.fz 6, ⟨v, h1.grow h1.sr.set6 (grown_set (grown_refl _ _) _ _) rfl⟩, k1.trans (KP.grown (grown_set (grown_refl _ _) _ _) h1.bz)⟩
  clear h
  go_enter Tryz.func31, Tryz.ntmps31
  go_wp2_with fail
  refine HS.out.mono ?_
  rintro e w1 ⟨rfl, d6, f6, HF⟩
  clear HS c6
  go_wp2
  go_end0
  exact ⟨rfl, HF.out⟩
set_option maxHeartbeats 1600000 in
theorem print_mute {base d : Nat} {w : World} {r : R} {S : ByteArray} (h : Sn base d w r S) (hq : r.quiet = false) (hm : r.mute = true) :
    Calls Tryz.prog 30 #[.pointer (some ⟨d, 0, none⟩)] w fun e w' => e = .returned (.tuple #[]) ∧ w' = w := by
  have c2 := h.sr.c2
  have c14 := h.sr.c14
  rw [hq] at c2
  rw [hm] at c14
  clear h hq hm
  go_enter Tryz.func30, Tryz.ntmps30
  go_wp2
  go_end0
  exact ⟨rfl, rfl⟩
set_option maxHeartbeats 1600000 in
theorem print_loud {base d : Nat} {w : World} {r : R} {S : ByteArray} (h : Sn base d w r S) (hq : r.quiet = false) (hm : r.mute = false) (hsz : S.size + r.space.size + 1 ≤ 8000) :
    Calls Tryz.prog 30 #[.pointer (some ⟨d, 0, none⟩)] w fun e w' => e = .returned (.tuple #[]) ∧ (∃ v, Sn base d w' { r with out := v } (S ++ (r.space ++ nl))) ∧ KP base d w w' := by
  have c2 := h.sr.c2
  have c14 := h.sr.c14
  have c4 := h.sr.c4
  rw [hq] at c2
  rw [hm] at c14
  have z : (r.space ++ nl).size = r.space.size + 1 := by rw [ByteArray.size_append]; rfl
  have HS := say_any h (r.space ++ nl) (by omega)
  obtain ⟨p, ep⟩ : ∃ p, r.space = p := ⟨_, rfl⟩
  rw [ep] at c4 HS hsz
  have q1 : ¬ 9223372036854775807 < p.size + 1 := by omega
  have q2 : ¬ 9223372036854775807 < p.size + (⟨#[10]⟩ : ByteArray).size := by have : (⟨#[10]⟩ : ByteArray).size = 1 := rfl; omega
  unfold nl at HS
  have HS := hide HS
  have HE := hide ep
  clear h hq hm z ep
  go_enter Tryz.func30, Tryz.ntmps30
  go_wp2_with fail
  refine HS.out.mono ?_
  rintro e w1 ⟨rfl, h1, k1⟩
  have HF := hide (And.intro h1 k1)
  clear HS h1 k1
  go_wp2
  go_end0
  refine ⟨rfl, ?_⟩
  rw [HE.out]
  exact HF.out
set_option maxHeartbeats 1600000 in
theorem meets_line {d : Nat} {w : World} {r : R} (h : SR w d r) (an : Int) :
    Calls Tryz.prog 69 #[.pointer (some ⟨d, 0, none⟩), .agg #[.int .i64 1, .int .i64 an, .int .i64 0, .int .i64 0, .int .i64 0, .string ⟨#[]⟩, .slice none 0 0]] w fun e w' => e = .returned (.bool (decide ((r.at_ : Int) = an))) ∧ Below w.heap.size w w' := by
  obtain ⟨W0, hW0⟩ : ∃ W0, w.alloc (.cells #[.int .i64 1, .int .i64 an, .int .i64 0, .int .i64 0, .int .i64 0, .string ⟨#[]⟩, .slice none 0 0] 58) = W0 := ⟨_, rfl⟩
  have b0 : Below w.heap.size w W0 := by rw [← hW0]; exact more (Below.refl _ _) _
  have x0 : W0.heap[w.heap.size]? = some (.cells #[.int .i64 1, .int .i64 an, .int .i64 0, .int .i64 0, .int .i64 0, .string ⟨#[]⟩, .slice none 0 0] 58 (0, 0)) := by rw [← hW0]; exact heap_alloc_new w _
  have c0 : W0.cell? ⟨w.heap.size, 0, none⟩ = some (.int .i64 1) := cell_of x0 rfl
  have c1 : W0.cell? ⟨w.heap.size, 1, none⟩ = some (.int .i64 an) := cell_of x0 rfl
  have c3 := (h.below b0).c3
  have hb : ((r.at_ : Int) == an) = decide ((r.at_ : Int) = an) := by
    by_cases e : (r.at_ : Int) = an
    · rw [decide_eq_true e, beq_iff_eq]; exact e
    · rw [decide_eq_false e, beq_eq_false_iff_ne]; exact e
  obtain ⟨b, eb⟩ : ∃ b, decide ((r.at_ : Int) = an) = b := ⟨_, rfl⟩
  rw [eb] at hb ⊢
  obtain ⟨k, ek⟩ : ∃ k, r.at_ = k := ⟨_, rfl⟩
  rw [ek] at hb c3
  have HB : Hid (∀ n, Below w.heap.size w (W0.drewN n)) := fun n => below_drewN b0 n
  clear h eb ek b0 x0
  go_enter Tryz.func69, Tryz.ntmps69
  go_wp2
  (try rw [hW0])
  go_quiet (fail)
  go_wp2
  go_ret
  exact ⟨rfl, HB.out _⟩
set_option maxHeartbeats 1600000 in
theorem meets_last {d : Nat} {w : World} {r : R} (h : SR w d r) (lo : Option Addr) (n lc : Nat) (hl : r.lines = .slice lo n lc) :
    Calls Tryz.prog 69 #[.pointer (some ⟨d, 0, none⟩), .agg #[.int .i64 2, .int .i64 0, .int .i64 0, .int .i64 0, .int .i64 0, .string ⟨#[]⟩, .slice none 0 0]] w fun e w' => e = .returned (.bool (decide (r.at_ = n))) ∧ Below w.heap.size w w' := by
  obtain ⟨W0, hW0⟩ : ∃ W0, w.alloc (.cells #[.int .i64 2, .int .i64 0, .int .i64 0, .int .i64 0, .int .i64 0, .string ⟨#[]⟩, .slice none 0 0] 58) = W0 := ⟨_, rfl⟩
  have b0 : Below w.heap.size w W0 := by rw [← hW0]; exact more (Below.refl _ _) _
  have x0 : W0.heap[w.heap.size]? = some (.cells #[.int .i64 2, .int .i64 0, .int .i64 0, .int .i64 0, .int .i64 0, .string ⟨#[]⟩, .slice none 0 0] 58 (0, 0)) := by rw [← hW0]; exact heap_alloc_new w _
  have c0 : W0.cell? ⟨w.heap.size, 0, none⟩ = some (.int .i64 2) := cell_of x0 rfl
  have c3 := (h.below b0).c3
  have c1 := (h.below b0).c1
  rw [hl] at c1
  have hb : ((r.at_ : Int) == (n : Int)) = decide (r.at_ = n) := by
    by_cases e : r.at_ = n
    · rw [decide_eq_true e, beq_iff_eq]; omega
    · rw [decide_eq_false e, beq_eq_false_iff_ne]; omega
  obtain ⟨b, eb⟩ : ∃ b, decide (r.at_ = n) = b := ⟨_, rfl⟩
  rw [eb] at hb ⊢
  obtain ⟨k, ek⟩ : ∃ k, r.at_ = k := ⟨_, rfl⟩
  rw [ek] at hb c3
  have HB : Hid (∀ n, Below w.heap.size w (W0.drewN n)) := fun n => below_drewN b0 n
  clear h eb ek b0 x0 hl
  go_enter Tryz.func69, Tryz.ntmps69
  go_wp2
  (try rw [hW0])
  go_quiet (fail)
  go_wp2
  go_ret
  exact ⟨rfl, HB.out _⟩
set_option maxRecDepth 20000 in
set_option maxHeartbeats 3200000 in
theorem chosen_none {d : Nat} {w : World} {r : R} (h : SR w d r) (g cap n : Nat) (hls : r.list = .slice (some ⟨g, 0, none⟩) n cap) (cs : List Cm) (hl : Lst w g cap cs) (k : Nat) (ak an : Int) (nt : Bool) (nm : ByteArray) (hc : cs[k]? = some ⟨ak, an, nt, nm⟩) (hk : k < n) (hn : n ≤ 60) (h0 : ak = 0) :
    Calls Tryz.prog 44 #[.pointer (some ⟨d, 0, none⟩), .int .i64 k] w fun e w' => e = .returned (.tuple #[.bool true, .bool true]) ∧ Below w.heap.size w w' := by
  have d0 : w.cell? ⟨d, 0, none⟩ = some (.slice (some ⟨g, 0, none⟩) n cap) := by rw [h.c0, hls]
  have HR : Hid (w.rangeAt g (k * 26) (sedA ak an nt nm).toList) := hl.at_ k _ hc
  have x1 : (w.alloc (.cells #[.int .i64 0, .int .i64 0, .int .i64 0, .int .i64 0, .int .i64 0, .string ⟨#[]⟩, .slice none 0 0, .int .i64 0, .int .i64 0, .int .i64 0, .int .i64 0, .int .i64 0, .string ⟨#[]⟩, .slice none 0 0, .bool false, .string ⟨#[]⟩, .string ⟨#[]⟩, .int .i64 0, .int .i64 0, .int .i64 0, .string ⟨#[]⟩, .slice none 0 0, .bool false, .bool false, .int .i64 0, .int .i64 0] 60)).heap[w.heap.size]? = some (.cells #[.int .i64 0, .int .i64 0, .int .i64 0, .int .i64 0, .int .i64 0, .string ⟨#[]⟩, .slice none 0 0, .int .i64 0, .int .i64 0, .int .i64 0, .int .i64 0, .int .i64 0, .string ⟨#[]⟩, .slice none 0 0, .bool false, .string ⟨#[]⟩, .string ⟨#[]⟩, .int .i64 0, .int .i64 0, .int .i64 0, .string ⟨#[]⟩, .slice none 0 0, .bool false, .bool false, .int .i64 0, .int .i64 0] 60 (0, 0)) := heap_alloc_new w _
  have hst := run_storeCells_row (P := Tryz.prog) _ _ 60 _ (sedA ak an nt nm) x1 rfl (one_sed _ _ _ _)
  have x2 := setRow_heap (w.alloc (.cells #[.int .i64 0, .int .i64 0, .int .i64 0, .int .i64 0, .int .i64 0, .string ⟨#[]⟩, .slice none 0 0, .int .i64 0, .int .i64 0, .int .i64 0, .int .i64 0, .int .i64 0, .string ⟨#[]⟩, .slice none 0 0, .bool false, .string ⟨#[]⟩, .string ⟨#[]⟩, .int .i64 0, .int .i64 0, .int .i64 0, .string ⟨#[]⟩, .slice none 0 0, .bool false, .bool false, .int .i64 0, .int .i64 0] 60)) w.heap.size _ (sedA ak an nt nm) 60 (0, 0) x1
  have ba : Below w.heap.size w (w.alloc (.cells #[.int .i64 0, .int .i64 0, .int .i64 0, .int .i64 0, .int .i64 0, .string ⟨#[]⟩, .slice none 0 0, .int .i64 0, .int .i64 0, .int .i64 0, .int .i64 0, .int .i64 0, .string ⟨#[]⟩, .slice none 0 0, .bool false, .string ⟨#[]⟩, .string ⟨#[]⟩, .int .i64 0, .int .i64 0, .int .i64 0, .string ⟨#[]⟩, .slice none 0 0, .bool false, .bool false, .int .i64 0, .int .i64 0] 60)) := more (Below.refl _ _) _
  have b2 : Below w.heap.size w ((w.alloc (.cells #[.int .i64 0, .int .i64 0, .int .i64 0, .int .i64 0, .int .i64 0, .string ⟨#[]⟩, .slice none 0 0, .int .i64 0, .int .i64 0, .int .i64 0, .int .i64 0, .int .i64 0, .string ⟨#[]⟩, .slice none 0 0, .bool false, .string ⟨#[]⟩, .string ⟨#[]⟩, .int .i64 0, .int .i64 0, .int .i64 0, .string ⟨#[]⟩, .slice none 0 0, .bool false, .bool false, .int .i64 0, .int .i64 0] 60)).setRow w.heap.size (sedA ak an nt nm)) := ⟨ba.os, ba.tape, ba.output, by simp [World.setRow], fun j hj => (setRow_other _ _ _ _ (by omega)).trans (ba.block j hj)⟩
  obtain ⟨W2, hW2⟩ : ∃ W2, (w.alloc (.cells #[.int .i64 0, .int .i64 0, .int .i64 0, .int .i64 0, .int .i64 0, .string ⟨#[]⟩, .slice none 0 0, .int .i64 0, .int .i64 0, .int .i64 0, .int .i64 0, .int .i64 0, .string ⟨#[]⟩, .slice none 0 0, .bool false, .string ⟨#[]⟩, .string ⟨#[]⟩, .int .i64 0, .int .i64 0, .int .i64 0, .string ⟨#[]⟩, .slice none 0 0, .bool false, .bool false, .int .i64 0, .int .i64 0] 60)).setRow w.heap.size (sedA ak an nt nm) = W2 := ⟨_, rfl⟩
  rw [hW2] at x2 hst b2
  have c0 : W2.cell? ⟨w.heap.size, 0, none⟩ = some (.int .i64 ak) := cell_of x2 rfl
  have c1 : W2.cell? ⟨w.heap.size, 1, none⟩ = some (.int .i64 an) := cell_of x2 rfl
  have c2 : W2.cell? ⟨w.heap.size, 2, none⟩ = some (.int .i64 0) := cell_of x2 rfl
  have c3 : W2.cell? ⟨w.heap.size, 3, none⟩ = some (.int .i64 0) := cell_of x2 rfl
  have c4 : W2.cell? ⟨w.heap.size, 4, none⟩ = some (.int .i64 0) := cell_of x2 rfl
  have c5 : W2.cell? ⟨w.heap.size, 5, none⟩ = some (.string ⟨#[]⟩) := cell_of x2 rfl
  have c6 : W2.cell? ⟨w.heap.size, 6, none⟩ = some (.slice none 0 0) := cell_of x2 rfl
  have c7 : W2.cell? ⟨w.heap.size, 7, none⟩ = some (.int .i64 0) := cell_of x2 rfl
  have HB := hide b2
  have hkI : (k : Int) < (n : Int) := by omega
  subst h0
  clear h hl hc x1 x2 ba b2 hW2 hls
  go_enter Tryz.func44, Tryz.ntmps44
  go_wp2_with (refine wpList_load_at rfl _ _ rfl g (k * 26) rfl _ _ HR.out Tryz.underlying60 rfl (size60 _ _ _ _) ?_)
  go_ret2
  exact ⟨rfl, HB.out⟩
set_option maxRecDepth 20000 in
set_option maxHeartbeats 3200000 in
theorem chosen_one {d : Nat} {w : World} {r : R} (h : SR w d r) (g cap n : Nat) (hls : r.list = .slice (some ⟨g, 0, none⟩) n cap) (cs : List Cm) (hl : Lst w g cap cs) (k : Nat) (ak an : Int) (nt : Bool) (nm : ByteArray) (hc : cs[k]? = some ⟨ak, an, nt, nm⟩) (hk : k < n) (hn : n ≤ 60) (h0 : (ak == 0) = false) (b : Bool) (HM : ∀ W, Below w.heap.size w W → Calls Tryz.prog 69 #[.pointer (some ⟨d, 0, none⟩), .agg #[.int .i64 ak, .int .i64 an, .int .i64 0, .int .i64 0, .int .i64 0, .string ⟨#[]⟩, .slice none 0 0]] W fun e w' => e = .returned (.bool b) ∧ Below W.heap.size W w') :
    Calls Tryz.prog 44 #[.pointer (some ⟨d, 0, none⟩), .int .i64 k] w fun e w' => e = .returned (.tuple #[.bool b, .bool true]) ∧ Below w.heap.size w w' := by
  have d0 : w.cell? ⟨d, 0, none⟩ = some (.slice (some ⟨g, 0, none⟩) n cap) := by rw [h.c0, hls]
  have HR : Hid (w.rangeAt g (k * 26) (sedA ak an nt nm).toList) := hl.at_ k _ hc
  have x1 : (w.alloc (.cells #[.int .i64 0, .int .i64 0, .int .i64 0, .int .i64 0, .int .i64 0, .string ⟨#[]⟩, .slice none 0 0, .int .i64 0, .int .i64 0, .int .i64 0, .int .i64 0, .int .i64 0, .string ⟨#[]⟩, .slice none 0 0, .bool false, .string ⟨#[]⟩, .string ⟨#[]⟩, .int .i64 0, .int .i64 0, .int .i64 0, .string ⟨#[]⟩, .slice none 0 0, .bool false, .bool false, .int .i64 0, .int .i64 0] 60)).heap[w.heap.size]? = some (.cells #[.int .i64 0, .int .i64 0, .int .i64 0, .int .i64 0, .int .i64 0, .string ⟨#[]⟩, .slice none 0 0, .int .i64 0, .int .i64 0, .int .i64 0, .int .i64 0, .int .i64 0, .string ⟨#[]⟩, .slice none 0 0, .bool false, .string ⟨#[]⟩, .string ⟨#[]⟩, .int .i64 0, .int .i64 0, .int .i64 0, .string ⟨#[]⟩, .slice none 0 0, .bool false, .bool false, .int .i64 0, .int .i64 0] 60 (0, 0)) := heap_alloc_new w _
  have hst := run_storeCells_row (P := Tryz.prog) _ _ 60 _ (sedA ak an nt nm) x1 rfl (one_sed _ _ _ _)
  have x2 := setRow_heap (w.alloc (.cells #[.int .i64 0, .int .i64 0, .int .i64 0, .int .i64 0, .int .i64 0, .string ⟨#[]⟩, .slice none 0 0, .int .i64 0, .int .i64 0, .int .i64 0, .int .i64 0, .int .i64 0, .string ⟨#[]⟩, .slice none 0 0, .bool false, .string ⟨#[]⟩, .string ⟨#[]⟩, .int .i64 0, .int .i64 0, .int .i64 0, .string ⟨#[]⟩, .slice none 0 0, .bool false, .bool false, .int .i64 0, .int .i64 0] 60)) w.heap.size _ (sedA ak an nt nm) 60 (0, 0) x1
  have ba : Below w.heap.size w (w.alloc (.cells #[.int .i64 0, .int .i64 0, .int .i64 0, .int .i64 0, .int .i64 0, .string ⟨#[]⟩, .slice none 0 0, .int .i64 0, .int .i64 0, .int .i64 0, .int .i64 0, .int .i64 0, .string ⟨#[]⟩, .slice none 0 0, .bool false, .string ⟨#[]⟩, .string ⟨#[]⟩, .int .i64 0, .int .i64 0, .int .i64 0, .string ⟨#[]⟩, .slice none 0 0, .bool false, .bool false, .int .i64 0, .int .i64 0] 60)) := more (Below.refl _ _) _
  have b2 : Below w.heap.size w ((w.alloc (.cells #[.int .i64 0, .int .i64 0, .int .i64 0, .int .i64 0, .int .i64 0, .string ⟨#[]⟩, .slice none 0 0, .int .i64 0, .int .i64 0, .int .i64 0, .int .i64 0, .int .i64 0, .string ⟨#[]⟩, .slice none 0 0, .bool false, .string ⟨#[]⟩, .string ⟨#[]⟩, .int .i64 0, .int .i64 0, .int .i64 0, .string ⟨#[]⟩, .slice none 0 0, .bool false, .bool false, .int .i64 0, .int .i64 0] 60)).setRow w.heap.size (sedA ak an nt nm)) := ⟨ba.os, ba.tape, ba.output, by simp [World.setRow], fun j hj => (setRow_other _ _ _ _ (by omega)).trans (ba.block j hj)⟩
  obtain ⟨W2, hW2⟩ : ∃ W2, (w.alloc (.cells #[.int .i64 0, .int .i64 0, .int .i64 0, .int .i64 0, .int .i64 0, .string ⟨#[]⟩, .slice none 0 0, .int .i64 0, .int .i64 0, .int .i64 0, .int .i64 0, .int .i64 0, .string ⟨#[]⟩, .slice none 0 0, .bool false, .string ⟨#[]⟩, .string ⟨#[]⟩, .int .i64 0, .int .i64 0, .int .i64 0, .string ⟨#[]⟩, .slice none 0 0, .bool false, .bool false, .int .i64 0, .int .i64 0] 60)).setRow w.heap.size (sedA ak an nt nm) = W2 := ⟨_, rfl⟩
  rw [hW2] at x2 hst b2
  have c0 : W2.cell? ⟨w.heap.size, 0, none⟩ = some (.int .i64 ak) := cell_of x2 rfl
  have c1 : W2.cell? ⟨w.heap.size, 1, none⟩ = some (.int .i64 an) := cell_of x2 rfl
  have c2 : W2.cell? ⟨w.heap.size, 2, none⟩ = some (.int .i64 0) := cell_of x2 rfl
  have c3 : W2.cell? ⟨w.heap.size, 3, none⟩ = some (.int .i64 0) := cell_of x2 rfl
  have c4 : W2.cell? ⟨w.heap.size, 4, none⟩ = some (.int .i64 0) := cell_of x2 rfl
  have c5 : W2.cell? ⟨w.heap.size, 5, none⟩ = some (.string ⟨#[]⟩) := cell_of x2 rfl
  have c6 : W2.cell? ⟨w.heap.size, 6, none⟩ = some (.slice none 0 0) := cell_of x2 rfl
  have c7 : W2.cell? ⟨w.heap.size, 7, none⟩ = some (.int .i64 0) := cell_of x2 rfl
  have HB := hide b2
  have hkI : (k : Int) < (n : Int) := by omega
  have HMM := hide (HM W2 b2)
  clear h hl hc x1 x2 ba b2 hW2 hls HM
  go_enter Tryz.func44, Tryz.ntmps44
  go_wp2_with (first
    | (refine wpList_load_at rfl _ _ rfl g (k * 26) rfl _ _ HR.out Tryz.underlying60 rfl (size60 _ _ _ _) ?_)
    | (go_at_call 69; refine HMM.out.mono ?_; rintro e w5 ⟨rfl, b5⟩; have HB5 := hide (HB.out.trans (b5.mono HB.out.size)); clear b5))
  go_ret2
  exact ⟨rfl, HB5.out⟩
end Go.Proofs.YtdhachmelgdknaaGreatDoor.srn
/- The specification's run: the commands G, h and d. -/
namespace Go.Proofs.YtdhachmelgdknaaGreatDoor.srn
open Go.ChangeShapes Go.WideShapes Go.ChangeAt Go.RowKit
open Go.Proofs.YtdhachmelgdknaaGreatDoor.bas Go.Proofs.YtdhachmelgdknaaGreatDoor.rdr Go.Proofs.YtdhachmelgdknaaGreatDoor.chk Go.Proofs.YtdhachmelgdknaaGreatDoor.run
set_option linter.unusedVariables false
set_option maxRecDepth 20000 in
set_option maxHeartbeats 3200000 in
theorem simple_G {w : World} {d : Nat} {r : R} (h : SR w d r) (hs : (r.space ++ nl ++ r.hold).size ≤ 1000) (ak an : Int) (nt : Bool) :
    Calls Tryz.prog 71 #[.pointer (some ⟨d, 0, none⟩), .agg (sedA ak an nt ⟨#[71]⟩)] w fun e w' => e = .returned (.tuple #[]) ∧ SR w' d { r with space := r.space ++ nl ++ r.hold } ∧ w.grownBy w' (some d) := by
  obtain ⟨nm, hnm⟩ : ∃ nm : ByteArray, nm = ⟨#[71]⟩ := ⟨_, rfl⟩
  rw [← hnm]
  have n61 : (nm.toList == [61]) = false := by rw [hnm]; exact one_ne (by decide)
  have n103 : (nm.toList == [103]) = false := by rw [hnm]; exact one_ne (by decide)
  have n71 : (nm.toList == [71]) = true := by rw [hnm]; exact one_eq _
  obtain ⟨W0, hW0⟩ : ∃ W0, w.alloc (.cells (sedA ak an nt nm) 60) = W0 := ⟨_, rfl⟩
  have b0 : Below w.heap.size w W0 := by rw [← hW0]; exact more (Below.refl _ _) _
  have x0 : W0.heap[w.heap.size]? = some (.cells (sedA ak an nt nm) 60 (0, 0)) := by rw [← hW0]; exact heap_alloc_new w _
  have h0 := h.below b0
  have c15 : W0.cell? ⟨w.heap.size, 15, none⟩ = some (.string nm) := cell_of x0 rfl
  have c4 := h0.c4
  have c5 := h0.c5
  have h1 : SR W0.drew d r := h0
  have HA : Hid (Calls Tryz.prog 28 #[.pointer (some ⟨d, 0, none⟩), .string (r.space ++ nl ++ r.hold)] W0.drew fun e w' => e = .returned (.tuple #[]) ∧ Hid (SR w' d { r with space := r.space ++ nl ++ r.hold } ∧ w.grownBy w' (some d))) := by
    refine (put_any h1 _ hs).mono ?_
    rintro e w' ⟨rfl, h2, g2⟩
    exact ⟨rfl, h2, grown_tr (grown_of b0.drew) g2⟩
  have z : (r.space ++ nl ++ r.hold).size = r.space.size + 1 + r.hold.size := by rw [ByteArray.size_append, ByteArray.size_append]; rfl
  obtain ⟨p, ep⟩ : ∃ p, r.space = p := ⟨_, rfl⟩
  obtain ⟨q, eq⟩ : ∃ q, r.hold = q := ⟨_, rfl⟩
  have HE := hide (And.intro ep eq)
  rw [ep, eq] at HA z hs
  rw [ep] at c4
  rw [eq] at c5
  unfold nl at HA z hs
  have n1 : (p ++ (⟨#[10]⟩ : ByteArray)).size = p.size + 1 := by rw [ByteArray.size_append]; rfl
  have q1 : ¬ 9223372036854775807 < p.size + (⟨#[10]⟩ : ByteArray).size := by have : (⟨#[10]⟩ : ByteArray).size = 1 := rfl; omega
  have q2 : ¬ 9223372036854775807 < (p ++ (⟨#[10]⟩ : ByteArray)).size + q.size := by omega
  have q3 : ¬ 9223372036854775807 < p.size + 1 := by omega
  have q4 : ¬ 9223372036854775807 < p.size + 1 + q.size := by omega
  clear h h0 h1 x0 b0 hnm hs z n1 ep eq
  go_enter Tryz.func71, Tryz.ntmps71
  go_wp2_with fail
  (try rw [hW0])
  go_region_law (first | (go_simp; go_at_call 28; with_reducible (refine HA.out.mono ?_); rintro e w2 ⟨rfl, HF⟩))
  all_goals
    go_wp2
    go_end0
    refine ⟨rfl, ?_⟩
    rw [HE.out.1, HE.out.2]
    exact HF.out
set_option maxRecDepth 20000 in
set_option maxHeartbeats 3200000 in
theorem simple_h {w : World} {d : Nat} {r : R} (h : SR w d r) (ak an : Int) (nt : Bool) :
    Calls Tryz.prog 71 #[.pointer (some ⟨d, 0, none⟩), .agg (sedA ak an nt ⟨#[104]⟩)] w fun e w' => e = .returned (.tuple #[]) ∧ SR w' d { r with hold := r.space } ∧ w.grownBy w' (some d) := by
  obtain ⟨nm, hnm⟩ : ∃ nm : ByteArray, nm = ⟨#[104]⟩ := ⟨_, rfl⟩
  rw [← hnm]
  have n61 : (nm.toList == [61]) = false := by rw [hnm]; exact one_ne (by decide)
  have n103 : (nm.toList == [103]) = false := by rw [hnm]; exact one_ne (by decide)
  have n71 : (nm.toList == [71]) = false := by rw [hnm]; exact one_ne (by decide)
  have n104 : (nm.toList == [104]) = true := by rw [hnm]; exact one_eq _
  obtain ⟨W0, hW0⟩ : ∃ W0, w.alloc (.cells (sedA ak an nt nm) 60) = W0 := ⟨_, rfl⟩
  have b0 : Below w.heap.size w W0 := by rw [← hW0]; exact more (Below.refl _ _) _
  have x0 : W0.heap[w.heap.size]? = some (.cells (sedA ak an nt nm) 60 (0, 0)) := by rw [← hW0]; exact heap_alloc_new w _
  have h0 := h.below b0
  have c15 : W0.cell? ⟨w.heap.size, 15, none⟩ = some (.string nm) := cell_of x0 rfl
  have c4 := h0.c4
  have c5 := h0.c5
  have f5 := h0.fz 5
  have HF : Hid (SR (W0.setCell ⟨d, 5, none⟩ (.string r.space)) d { r with hold := r.space } ∧ w.grownBy (W0.setCell ⟨d, 5, none⟩ (.string r.space)) (some d)) := ⟨h0.set5 _, grown_set (grown_of b0) _ _⟩
  clear h h0 x0 b0 hnm
  go_enter Tryz.func71, Tryz.ntmps71
  go_wp2
  (try rw [hW0])
  go_end0
  exact ⟨rfl, HF.out⟩
set_option maxRecDepth 20000 in
set_option maxHeartbeats 3200000 in
theorem do_G {w : World} {d : Nat} {r : R} (h : SR w d r) (hs : (r.space ++ nl ++ r.hold).size ≤ 1000) (ak an : Int) (nt : Bool) (k : Nat) (hk : k < 60) (b : Bool) :
    Calls Tryz.prog 45 #[.pointer (some ⟨d, 0, none⟩), .agg (sedA ak an nt ⟨#[71]⟩), .int .i64 (k : Nat), .bool b] w fun e w' => e = .returned (.tuple #[.int .i64 ((k : Int) + 1), .bool true]) ∧ SR w' d { r with space := r.space ++ nl ++ r.hold } ∧ w.grownBy w' (some d) := by
  obtain ⟨nm, hnm⟩ : ∃ nm : ByteArray, nm = ⟨#[71]⟩ := ⟨_, rfl⟩
  rw [← hnm]
  have n97 : (nm.toList == [97]) = false := by rw [hnm]; exact one_ne (by decide)
  have n105 : (nm.toList == [105]) = false := by rw [hnm]; exact one_ne (by decide)
  have n99 : (nm.toList == [99]) = false := by rw [hnm]; exact one_ne (by decide)
  have n100 : (nm.toList == [100]) = false := by rw [hnm]; exact one_ne (by decide)
  have n68 : (nm.toList == [68]) = false := by rw [hnm]; exact one_ne (by decide)
  have n98 : (nm.toList == [98]) = false := by rw [hnm]; exact one_ne (by decide)
  have n116 : (nm.toList == [116]) = false := by rw [hnm]; exact one_ne (by decide)
  have n110 : (nm.toList == [110]) = false := by rw [hnm]; exact one_ne (by decide)
  have n78 : (nm.toList == [78]) = false := by rw [hnm]; exact one_ne (by decide)
  have n113 : (nm.toList == [113]) = false := by rw [hnm]; exact one_ne (by decide)
  obtain ⟨W0, hW0⟩ : ∃ W0, w.alloc (.cells (sedA ak an nt nm) 60) = W0 := ⟨_, rfl⟩
  have b0 : Below w.heap.size w W0 := by rw [← hW0]; exact more (Below.refl _ _) _
  have x0 : W0.heap[w.heap.size]? = some (.cells (sedA ak an nt nm) 60 (0, 0)) := by rw [← hW0]; exact heap_alloc_new w _
  have h0 := h.below b0
  have c15 : W0.cell? ⟨w.heap.size, 15, none⟩ = some (.string nm) := cell_of x0 rfl
  have HT : Hid (Calls Tryz.prog 71 #[.pointer (some ⟨d, 0, none⟩), .agg (sedA ak an nt nm)] W0 fun e w' => e = .returned (.tuple #[]) ∧ w'.cell? ⟨d, 11, none⟩ = some (.int .i64 0) ∧ Hid (∀ n, SR (w'.drewN n) d { r with space := r.space ++ nl ++ r.hold } ∧ w.grownBy (w'.drewN n) (some d))) := by
    rw [hnm]
    refine (simple_G h0 hs ak an nt).mono ?_
    rintro e w' ⟨rfl, h3, g3⟩
    exact ⟨rfl, h3.c11, fun n => ⟨h3, grown_drew (grown_tr (grown_of b0) g3) n⟩⟩
  have HX0 := hide x0
  clear h h0 x0 b0 hnm
  go_enter Tryz.func45, Tryz.ntmps45
  go_wp2_with (first
    | (refine wpList_load_row rfl _ _ rfl w.heap.size rfl 60 _ (0, 0) _ HX0.out Tryz.underlying60 rfl (size60 _ _ _ _) ?_)
    | (go_at_call 71; refine HT.out.mono ?_; rintro e w' ⟨rfl, c11, HF⟩))
  go_quiet (fail)
  go_wp2
  go_ret2
  exact ⟨rfl, HF.out _⟩
set_option maxRecDepth 20000 in
set_option maxHeartbeats 3200000 in
theorem do_h {w : World} {d : Nat} {r : R} (h : SR w d r) (ak an : Int) (nt : Bool) (k : Nat) (hk : k < 60) (b : Bool) :
    Calls Tryz.prog 45 #[.pointer (some ⟨d, 0, none⟩), .agg (sedA ak an nt ⟨#[104]⟩), .int .i64 (k : Nat), .bool b] w fun e w' => e = .returned (.tuple #[.int .i64 ((k : Int) + 1), .bool true]) ∧ SR w' d { r with hold := r.space } ∧ w.grownBy w' (some d) := by
  obtain ⟨nm, hnm⟩ : ∃ nm : ByteArray, nm = ⟨#[104]⟩ := ⟨_, rfl⟩
  rw [← hnm]
  have n97 : (nm.toList == [97]) = false := by rw [hnm]; exact one_ne (by decide)
  have n105 : (nm.toList == [105]) = false := by rw [hnm]; exact one_ne (by decide)
  have n99 : (nm.toList == [99]) = false := by rw [hnm]; exact one_ne (by decide)
  have n100 : (nm.toList == [100]) = false := by rw [hnm]; exact one_ne (by decide)
  have n68 : (nm.toList == [68]) = false := by rw [hnm]; exact one_ne (by decide)
  have n98 : (nm.toList == [98]) = false := by rw [hnm]; exact one_ne (by decide)
  have n116 : (nm.toList == [116]) = false := by rw [hnm]; exact one_ne (by decide)
  have n110 : (nm.toList == [110]) = false := by rw [hnm]; exact one_ne (by decide)
  have n78 : (nm.toList == [78]) = false := by rw [hnm]; exact one_ne (by decide)
  have n113 : (nm.toList == [113]) = false := by rw [hnm]; exact one_ne (by decide)
  obtain ⟨W0, hW0⟩ : ∃ W0, w.alloc (.cells (sedA ak an nt nm) 60) = W0 := ⟨_, rfl⟩
  have b0 : Below w.heap.size w W0 := by rw [← hW0]; exact more (Below.refl _ _) _
  have x0 : W0.heap[w.heap.size]? = some (.cells (sedA ak an nt nm) 60 (0, 0)) := by rw [← hW0]; exact heap_alloc_new w _
  have h0 := h.below b0
  have c15 : W0.cell? ⟨w.heap.size, 15, none⟩ = some (.string nm) := cell_of x0 rfl
  have HT : Hid (Calls Tryz.prog 71 #[.pointer (some ⟨d, 0, none⟩), .agg (sedA ak an nt nm)] W0 fun e w' => e = .returned (.tuple #[]) ∧ w'.cell? ⟨d, 11, none⟩ = some (.int .i64 0) ∧ Hid (∀ n, SR (w'.drewN n) d { r with hold := r.space } ∧ w.grownBy (w'.drewN n) (some d))) := by
    rw [hnm]
    refine (simple_h h0 ak an nt).mono ?_
    rintro e w' ⟨rfl, h3, g3⟩
    exact ⟨rfl, h3.c11, fun n => ⟨h3, grown_drew (grown_tr (grown_of b0) g3) n⟩⟩
  have HX0 := hide x0
  clear h h0 x0 b0 hnm
  go_enter Tryz.func45, Tryz.ntmps45
  go_wp2_with (first
    | (refine wpList_load_row rfl _ _ rfl w.heap.size rfl 60 _ (0, 0) _ HX0.out Tryz.underlying60 rfl (size60 _ _ _ _) ?_)
    | (go_at_call 71; refine HT.out.mono ?_; rintro e w' ⟨rfl, c11, HF⟩))
  go_quiet (fail)
  go_wp2
  go_ret2
  exact ⟨rfl, HF.out _⟩
set_option maxRecDepth 20000 in
set_option maxHeartbeats 3200000 in
theorem do_d {w : World} {d : Nat} {r : R} (h : SR w d r) (ak an : Int) (nt : Bool) (k : Nat) (b : Bool) :
    Calls Tryz.prog 45 #[.pointer (some ⟨d, 0, none⟩), .agg (sedA ak an nt ⟨#[100]⟩), .int .i64 (k : Nat), .bool b] w fun e w' => e = .returned (.tuple #[.int .i64 0, .bool false]) ∧ SR w' d { r with mute := true } ∧ w.grownBy w' (some d) := by
  obtain ⟨nm, hnm⟩ : ∃ nm : ByteArray, nm = ⟨#[100]⟩ := ⟨_, rfl⟩
  rw [← hnm]
  have n97 : (nm.toList == [97]) = false := by rw [hnm]; exact one_ne (by decide)
  have n105 : (nm.toList == [105]) = false := by rw [hnm]; exact one_ne (by decide)
  have n99 : (nm.toList == [99]) = false := by rw [hnm]; exact one_ne (by decide)
  have n100 : (nm.toList == [100]) = true := by rw [hnm]; exact one_eq _
  obtain ⟨W0, hW0⟩ : ∃ W0, w.alloc (.cells (sedA ak an nt nm) 60) = W0 := ⟨_, rfl⟩
  have b0 : Below w.heap.size w W0 := by rw [← hW0]; exact more (Below.refl _ _) _
  have x0 : W0.heap[w.heap.size]? = some (.cells (sedA ak an nt nm) 60 (0, 0)) := by rw [← hW0]; exact heap_alloc_new w _
  have h0 := h.below b0
  have c15 : W0.cell? ⟨w.heap.size, 15, none⟩ = some (.string nm) := cell_of x0 rfl
  have c14 := h0.c14
  have f14 := h0.fz 14
  have HF : Hid (SR (W0.setCell ⟨d, 14, none⟩ (.bool true)) d { r with mute := true } ∧ w.grownBy (W0.setCell ⟨d, 14, none⟩ (.bool true)) (some d)) := ⟨h0.set14 _, grown_set (grown_of b0) _ _⟩
  clear h h0 x0 b0 hnm
  go_enter Tryz.func45, Tryz.ntmps45
  go_wp2
  (try rw [hW0])
  go_ret2
  exact ⟨rfl, HF.out⟩
end Go.Proofs.YtdhachmelgdknaaGreatDoor.srn
namespace Go.Proofs.YtdhachmelgdknaaGreatDoor.srn
open Go.ChangeShapes Go.WideShapes Go.ChangeAt Go.RowKit
open Go.Proofs.YtdhachmelgdknaaGreatDoor.bas Go.Proofs.YtdhachmelgdknaaGreatDoor.rdr Go.Proofs.YtdhachmelgdknaaGreatDoor.chk Go.Proofs.YtdhachmelgdknaaGreatDoor.run
set_option linter.unusedVariables false
/-- What such a run works on. -/
structure Sw (base d : Nat) (W : World) (r : R) (ls : List ByteArray) : Prop where
  lines : ∃ gl lc ob, r.lines = .slice (some ⟨gl, 0, none⟩) ls.length lc ∧ W.heap[gl]? = some ob ∧ isB ob = false ∧ gl ≠ d ∧ LN W gl ls
  list : ∃ g lc og, r.list = .slice (some ⟨g, 0, none⟩) 3 lc ∧ W.heap[g]? = some og ∧ isB og = false ∧ g ≠ d ∧ Lst W g lc [cmG, cmH, cmD]
  few : ls.length ≤ 100
  size : (joinL ls).size ≤ 900
/-- In a cycle, behind j commands. -/
structure Sm (base d : Nat) (W : World) (r : R) (ls : List ByteArray) (i : Nat) (a : ByteArray) (j : Nat) (wr : World) : Prop where
  ex : ∃ r', Sn base d wr r' bas.mt ∧ r'.list = r.list ∧ r'.lines = r.lines ∧ r'.quiet = false ∧ r'.stop = false ∧ r'.keep = false ∧ r'.mute = false ∧ r'.at_ = i + 1 ∧ r'.steps = 3 * i + j ∧ r'.space = (if j = 0 then a else rv ls (i + 1)) ∧ r'.hold = (if j < 2 then rv ls i else rv ls (i + 1))
  kp : KP base d W wr
/-- Behind the commands of a cycle. -/
structure Se (base d : Nat) (W : World) (r : R) (ls : List ByteArray) (i : Nat) (wr : World) : Prop where
  ex : ∃ r', Sn base d wr r' bas.mt ∧ r'.list = r.list ∧ r'.lines = r.lines ∧ r'.quiet = false ∧ r'.stop = false ∧ r'.keep = false ∧ r'.mute = !decide (i + 1 = ls.length) ∧ r'.at_ = i + 1 ∧ r'.steps = 3 * (i + 1) ∧ r'.space = rv ls (i + 1) ∧ r'.hold = rv ls (i + 1)
  kp : KP base d W wr
/-- What the walk of a command wants. -/
def SF (d g lc k : Nat) (ak an : Int) (nt : Bool) (nm : ByteArray) (b : Bool) (st : Nat) (K : World → Prop) (Dn : Ending → World → Prop) (wr : World) : Prop :=
  (wr.cell? ⟨d, 0, none⟩ = some (.slice (some ⟨g, 0, none⟩) 3 lc) ∧ wr.cell? ⟨d, 11, none⟩ = some (.int .i64 0) ∧ wr.cell? ⟨d, 10, none⟩ = some (.int .i64 (st : Nat)) ∧ wr.frozen? ⟨d, 10, none⟩ = false) ∧
  ∃ W1, Hid (wr.setCell ⟨d, 10, none⟩ (.int .i64 ((st : Int) + 1)) = W1) ∧ W1.cell? ⟨d, 10, none⟩ = some (.int .i64 ((st : Int) + 1)) ∧
  Hid (Calls Tryz.prog 44 #[.pointer (some ⟨d, 0, none⟩), .int .i64 (k : Nat)] W1 fun e w2 => e = .returned (.tuple #[.bool b, .bool true]) ∧ (w2.cell? ⟨d, 11, none⟩ = some (.int .i64 0) ∧ w2.cell? ⟨d, 0, none⟩ = some (.slice (some ⟨g, 0, none⟩) 3 lc)) ∧ Hid (w2.rangeAt g (k * 26) (sedA ak an nt nm).toList) ∧ ((storeCells ⟨w2.heap.size, 0, none⟩ (sedA ak an nt nm).toList).run Tryz.prog (w2.alloc (.cells #[.int .i64 0, .int .i64 0, .int .i64 0, .int .i64 0, .int .i64 0, .string ⟨#[]⟩, .slice none 0 0, .int .i64 0, .int .i64 0, .int .i64 0, .int .i64 0, .int .i64 0, .string ⟨#[]⟩, .slice none 0 0, .bool false, .string ⟨#[]⟩, .string ⟨#[]⟩, .int .i64 0, .int .i64 0, .int .i64 0, .string ⟨#[]⟩, .slice none 0 0, .bool false, .bool false, .int .i64 0, .int .i64 0] 60)) = .ok () ((w2.alloc (.cells #[.int .i64 0, .int .i64 0, .int .i64 0, .int .i64 0, .int .i64 0, .string ⟨#[]⟩, .slice none 0 0, .int .i64 0, .int .i64 0, .int .i64 0, .int .i64 0, .int .i64 0, .string ⟨#[]⟩, .slice none 0 0, .bool false, .string ⟨#[]⟩, .string ⟨#[]⟩, .int .i64 0, .int .i64 0, .int .i64 0, .string ⟨#[]⟩, .slice none 0 0, .bool false, .bool false, .int .i64 0, .int .i64 0] 60)).setRow w2.heap.size (sedA ak an nt nm))) ∧
    ∃ W3, Hid ((w2.alloc (.cells #[.int .i64 0, .int .i64 0, .int .i64 0, .int .i64 0, .int .i64 0, .string ⟨#[]⟩, .slice none 0 0, .int .i64 0, .int .i64 0, .int .i64 0, .int .i64 0, .int .i64 0, .string ⟨#[]⟩, .slice none 0 0, .bool false, .string ⟨#[]⟩, .string ⟨#[]⟩, .int .i64 0, .int .i64 0, .int .i64 0, .string ⟨#[]⟩, .slice none 0 0, .bool false, .bool false, .int .i64 0, .int .i64 0] 60)).setRow w2.heap.size (sedA ak an nt nm) = W3) ∧ (W3.cell? ⟨w2.heap.size, 14, none⟩ = some (.bool nt) ∧ W3.cell? ⟨w2.heap.size, 15, none⟩ = some (.string nm)) ∧ Hid (W3.heap[w2.heap.size]? = some (.cells (sedA ak an nt nm) 60 (0, 0))) ∧ Hid (b = nt → K W3) ∧
    Hid (b ≠ nt → Calls Tryz.prog 45 #[.pointer (some ⟨d, 0, none⟩), .agg (sedA ak an nt nm), .int .i64 (k : Nat), .bool true] W3 Dn))
theorem sfacts {base d : Nat} {wr : World} {r : R} {S : ByteArray} (h : Sn base d wr r S) (g lc : Nat) (hls : r.list = .slice (some ⟨g, 0, none⟩) 3 lc) (cs : List Cm) (hl : Lst wr g lc cs) (hgd : g ≠ d) (k : Nat) (ak an : Int) (nt : Bool) (nm : ByteArray) (hc : cs[k]? = some ⟨ak, an, nt, nm⟩) (b : Bool) (K : World → Prop) (Dn : Ending → World → Prop)
    (HC : ∀ W1, Sn base d W1 { r with steps := r.steps + 1 } S → Lst W1 g lc cs → KP base d wr W1 → Calls Tryz.prog 44 #[.pointer (some ⟨d, 0, none⟩), .int .i64 (k : Nat)] W1 fun e w2 => e = .returned (.tuple #[.bool b, .bool true]) ∧ Below W1.heap.size W1 w2)
    (HK : b = nt → ∀ W3, Sn base d W3 { r with steps := r.steps + 1 } S → KP base d wr W3 → K W3)
    (HD : b ≠ nt → ∀ W3, Sn base d W3 { r with steps := r.steps + 1 } S → KP base d wr W3 → Calls Tryz.prog 45 #[.pointer (some ⟨d, 0, none⟩), .agg (sedA ak an nt nm), .int .i64 (k : Nat), .bool true] W3 Dn) :
    SF d g lc k ak an nt nm b r.steps K Dn wr := by
  have r1 : SR (wr.setCell ⟨d, 10, none⟩ (.int .i64 ((r.steps : Int) + 1))) d { r with steps := r.steps + 1 } := h.sr.set10 (r.steps + 1)
  have g1 : wr.grownBy (wr.setCell ⟨d, 10, none⟩ (.int .i64 ((r.steps : Int) + 1))) (some d) := grown_set (grown_refl _ _) _ _
  have h1 := h.grow r1 g1 rfl
  refine ⟨⟨by rw [h.sr.c0, hls], h.sr.c11, h.sr.c10, h.sr.fz 10⟩, _, rfl, r1.c10, ?_⟩
  refine (HC _ h1 (lst_grown hl g1 hgd) (KP.grown g1 h.bz)).mono ?_
  rintro e w2 ⟨rfl, b2⟩
  have l2 : Lst w2 g lc cs := (lst_grown hl g1 hgd).below b2
  have r2 := r1.below b2
  have x1 : (w2.alloc (.cells #[.int .i64 0, .int .i64 0, .int .i64 0, .int .i64 0, .int .i64 0, .string ⟨#[]⟩, .slice none 0 0, .int .i64 0, .int .i64 0, .int .i64 0, .int .i64 0, .int .i64 0, .string ⟨#[]⟩, .slice none 0 0, .bool false, .string ⟨#[]⟩, .string ⟨#[]⟩, .int .i64 0, .int .i64 0, .int .i64 0, .string ⟨#[]⟩, .slice none 0 0, .bool false, .bool false, .int .i64 0, .int .i64 0] 60)).heap[w2.heap.size]? = some (.cells #[.int .i64 0, .int .i64 0, .int .i64 0, .int .i64 0, .int .i64 0, .string ⟨#[]⟩, .slice none 0 0, .int .i64 0, .int .i64 0, .int .i64 0, .int .i64 0, .int .i64 0, .string ⟨#[]⟩, .slice none 0 0, .bool false, .string ⟨#[]⟩, .string ⟨#[]⟩, .int .i64 0, .int .i64 0, .int .i64 0, .string ⟨#[]⟩, .slice none 0 0, .bool false, .bool false, .int .i64 0, .int .i64 0] 60 (0, 0)) := heap_alloc_new w2 _
  have x2 := setRow_heap (w2.alloc (.cells #[.int .i64 0, .int .i64 0, .int .i64 0, .int .i64 0, .int .i64 0, .string ⟨#[]⟩, .slice none 0 0, .int .i64 0, .int .i64 0, .int .i64 0, .int .i64 0, .int .i64 0, .string ⟨#[]⟩, .slice none 0 0, .bool false, .string ⟨#[]⟩, .string ⟨#[]⟩, .int .i64 0, .int .i64 0, .int .i64 0, .string ⟨#[]⟩, .slice none 0 0, .bool false, .bool false, .int .i64 0, .int .i64 0] 60)) w2.heap.size _ (sedA ak an nt nm) 60 (0, 0) x1
  have ba : Below w2.heap.size w2 (w2.alloc (.cells #[.int .i64 0, .int .i64 0, .int .i64 0, .int .i64 0, .int .i64 0, .string ⟨#[]⟩, .slice none 0 0, .int .i64 0, .int .i64 0, .int .i64 0, .int .i64 0, .int .i64 0, .string ⟨#[]⟩, .slice none 0 0, .bool false, .string ⟨#[]⟩, .string ⟨#[]⟩, .int .i64 0, .int .i64 0, .int .i64 0, .string ⟨#[]⟩, .slice none 0 0, .bool false, .bool false, .int .i64 0, .int .i64 0] 60)) := more (Below.refl _ _) _
  have b3 : Below w2.heap.size w2 ((w2.alloc (.cells #[.int .i64 0, .int .i64 0, .int .i64 0, .int .i64 0, .int .i64 0, .string ⟨#[]⟩, .slice none 0 0, .int .i64 0, .int .i64 0, .int .i64 0, .int .i64 0, .int .i64 0, .string ⟨#[]⟩, .slice none 0 0, .bool false, .string ⟨#[]⟩, .string ⟨#[]⟩, .int .i64 0, .int .i64 0, .int .i64 0, .string ⟨#[]⟩, .slice none 0 0, .bool false, .bool false, .int .i64 0, .int .i64 0] 60)).setRow w2.heap.size (sedA ak an nt nm)) := ⟨ba.os, ba.tape, ba.output, by simp [World.setRow], fun j hj => (setRow_other _ _ _ _ (by omega)).trans (ba.block j hj)⟩
  have h2 := h1.grow r2 (grown_of b2) rfl
  have h3 := h2.grow (r2.below b3) (grown_of b3) rfl
  have k3 := ((KP.grown g1 h.bz).trans (KP.grown (grown_of (d := d) b2) h1.bz)).trans (KP.grown (grown_of (d := d) b3) h2.bz)
  have hst := run_storeCells_row (P := Tryz.prog) _ _ 60 _ (sedA ak an nt nm) x1 rfl (one_sed _ _ _ _)
  exact ⟨rfl, ⟨r2.c11, by rw [r2.c0]; exact congrArg some hls⟩, l2.at_ k _ hc, hst, _, rfl, ⟨cell_of x2 rfl, cell_of x2 rfl⟩, x2, fun hb => HK hb _ h3 k3, fun hb => HD hb _ h3 k3⟩
section
variable {base d : Nat} {W : World} {r : R} {ls : List ByteArray}
theorem sm0 (hw : Sw base d W r ls) {i : Nat} {a : ByteArray} {wr : World} (ha : ls[i]? = some a) (h : Sm base d W r ls i a 0 wr) :
    ∃ g lc st, st ≤ 1000 ∧ SF d g lc 0 1 1 true ⟨#[71]⟩ (decide (i = 0)) st (Sm base d W r ls i a 1) (fun e w' => e = .returned (.tuple #[.int .i64 1, .bool true]) ∧ Sm base d W r ls i a 1 w') wr := by
  obtain ⟨r', hR, e1, e2, e3, e4, e5, e6, e7, e8, e9, e10⟩ := h.ex
  obtain ⟨g, lc, og, hls, hg, hog, hgd, hL⟩ := hw.list
  have hfew := hw.few
  have hsz := hw.size
  have hilt := (List.getElem?_eq_some_iff.1 ha).1
  rw [if_pos rfl] at e9
  rw [if_pos (by omega)] at e10
  refine ⟨g, lc, r'.steps, by omega, sfacts hR g lc (e1.trans hls) [cmG, cmH, cmD] (lst_kp h.kp hg hog hgd hL) hgd 0 1 1 true ⟨#[71]⟩ rfl _ _ _ ?_ ?_ ?_⟩
  · intro W1 h1 l1 _
    refine chosen_one h1.sr g lc 3 (e1.trans hls) [cmG, cmH, cmD] l1 0 1 1 true ⟨#[71]⟩ rfl (by omega) (by omega) (by decide) _ ?_
    intro wx bx
    have := meets_line (h1.sr.below bx) 1
    have ee : decide ((r'.at_ : Int) = 1) = decide (i = 0) := by
      rw [e7]
      by_cases h0 : i = 0
      · rw [decide_eq_true h0, decide_eq_true (by omega)]
      · rw [decide_eq_false h0, decide_eq_false (by omega)]
    rw [show ({ r' with steps := r'.steps + 1 } : R).at_ = r'.at_ from rfl, ee] at this
    exact this
  · intro hb W3 h3 k3
    have h0 : i = 0 := of_decide_eq_true hb
    refine ⟨⟨_, h3, e1, e2, e3, e4, e5, e6, e7, by show r'.steps + 1 = _; omega, ?_, e10⟩, h.kp.trans k3⟩
    show r'.space = rv ls (i + 1)
    subst h0
    rw [rv_one ha]
    exact e9
  · intro hb W3 h3 k3
    have h0 : i ≠ 0 := fun e => hb (by rw [e]; rfl)
    have hpat : r'.space ++ nl ++ r'.hold = rv ls (i + 1) := by rw [rv_more ha (by omega), e9, e10]
    refine (do_G h3.sr (by show (r'.space ++ nl ++ r'.hold).size ≤ 1000; rw [hpat]; have := szRv ls (i + 1); omega) 1 1 true 0 (by omega) true).mono ?_
    rintro e w' ⟨rfl, h4, g4⟩
    exact ⟨rfl, ⟨_, h3.grow h4 g4 rfl, e1, e2, e3, e4, e5, e6, e7, by show r'.steps + 1 = _; omega, hpat, e10⟩, (h.kp.trans k3).trans (KP.grown g4 h3.bz)⟩
theorem sm1 (hw : Sw base d W r ls) {i : Nat} {a : ByteArray} {wr : World} (ha : ls[i]? = some a) (h : Sm base d W r ls i a 1 wr) :
    ∃ g lc st, st ≤ 1000 ∧ SF d g lc 1 0 0 false ⟨#[104]⟩ true st (fun _ => False) (fun e w' => e = .returned (.tuple #[.int .i64 2, .bool true]) ∧ Sm base d W r ls i a 2 w') wr := by
  obtain ⟨r', hR, e1, e2, e3, e4, e5, e6, e7, e8, e9, e10⟩ := h.ex
  obtain ⟨g, lc, og, hls, hg, hog, hgd, hL⟩ := hw.list
  have hfew := hw.few
  have hilt := (List.getElem?_eq_some_iff.1 ha).1
  rw [if_neg (by omega)] at e9
  refine ⟨g, lc, r'.steps, by omega, sfacts hR g lc (e1.trans hls) [cmG, cmH, cmD] (lst_kp h.kp hg hog hgd hL) hgd 1 0 0 false ⟨#[104]⟩ rfl _ _ _ ?_ ?_ ?_⟩
  · intro W1 h1 l1 _
    exact chosen_none h1.sr g lc 3 (e1.trans hls) [cmG, cmH, cmD] l1 1 0 0 false ⟨#[104]⟩ rfl (by omega) (by omega) rfl
  · intro hb
    cases hb
  · intro hb W3 h3 k3
    refine (do_h h3.sr 0 0 false 1 (by omega) true).mono ?_
    rintro e w' ⟨rfl, h4, g4⟩
    exact ⟨rfl, ⟨_, h3.grow h4 g4 rfl, e1, e2, e3, e4, e5, e6, e7, by show r'.steps + 1 = _; omega, e9, e9⟩, (h.kp.trans k3).trans (KP.grown g4 h3.bz)⟩
theorem sm2 (hw : Sw base d W r ls) {i : Nat} {a : ByteArray} {wr : World} (ha : ls[i]? = some a) (h : Sm base d W r ls i a 2 wr) :
    ∃ g lc st, st ≤ 1000 ∧ SF d g lc 2 2 0 true ⟨#[100]⟩ (decide (i + 1 = ls.length)) st (Se base d W r ls i) (fun e w' => e = .returned (.tuple #[.int .i64 0, .bool false]) ∧ Se base d W r ls i w') wr := by
  obtain ⟨r', hR, e1, e2, e3, e4, e5, e6, e7, e8, e9, e10⟩ := h.ex
  obtain ⟨g, lc, og, hls, hg, hog, hgd, hL⟩ := hw.list
  obtain ⟨gl, lc2, ob, hln, _⟩ := hw.lines
  have hfew := hw.few
  have hilt := (List.getElem?_eq_some_iff.1 ha).1
  rw [if_neg (by omega)] at e9 e10
  refine ⟨g, lc, r'.steps, by omega, sfacts hR g lc (e1.trans hls) [cmG, cmH, cmD] (lst_kp h.kp hg hog hgd hL) hgd 2 2 0 true ⟨#[100]⟩ rfl _ _ _ ?_ ?_ ?_⟩
  · intro W1 h1 l1 _
    refine chosen_one h1.sr g lc 3 (e1.trans hls) [cmG, cmH, cmD] l1 2 2 0 true ⟨#[100]⟩ rfl (by omega) (by omega) (by decide) _ ?_
    intro wx bx
    have := meets_last (h1.sr.below bx) _ ls.length lc2 (e2.trans hln)
    rw [show ({ r' with steps := r'.steps + 1 } : R).at_ = r'.at_ from rfl, e7] at this
    exact this
  · intro hb W3 h3 k3
    refine ⟨⟨_, h3, e1, e2, e3, e4, e5, ?_, e7, by show r'.steps + 1 = _; omega, e9, e10⟩, h.kp.trans k3⟩
    show r'.mute = _
    rw [e6, hb]; rfl
  · intro hb W3 h3 k3
    refine (do_d h3.sr 2 0 true 2 true).mono ?_
    rintro e w' ⟨rfl, h4, g4⟩
    refine ⟨rfl, ⟨_, h3.grow h4 g4 rfl, e1, e2, e3, e4, e5, ?_, e7, by show r'.steps + 1 = _; omega, e9, e10⟩, (h.kp.trans k3).trans (KP.grown g4 h3.bz)⟩
    show true = _
    have h0 : ¬ (i + 1 = ls.length) := fun e => hb (by rw [decide_eq_true e])
    rw [decide_eq_false h0]; rfl
end
end Go.Proofs.YtdhachmelgdknaaGreatDoor.srn
