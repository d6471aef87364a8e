/- A cycle's beginning and its end. -/
import Derived.Test.YtdhachmelgdknaaGreatDoorSay
namespace Go.Proofs.YtdhachmelgdknaaGreatDoor.run
open Go.ChangeShapes Go.WideShapes Go.ChangeAt Go.RowKit
open Go.Proofs.YtdhachmelgdknaaGreatDoor.bas Go.Proofs.YtdhachmelgdknaaGreatDoor.rdr
set_option linter.unusedVariables false
/-- A run with nothing kept, that has said S. -/
structure Rn (base d : Nat) (w : World) (u : U) (S : ByteArray) : Prop where
  ru : RU w d u
  sd : SD w base u.sd S
  kp : u.kp = .slice none 0 0
  ks : u.ks = 0
  bz : base ≤ w.heap.size
theorem Rn.ne {base d : Nat} {w : World} {u : U} {S : ByteArray} (h : Rn base d w u S) {k : Nat} (hk : u.sd.ownBlock = some k) : k ≠ d := by
  rintro rfl
  obtain ⟨_, cur, hc⟩ := h.sd.blk hk
  have := hc.symm.trans h.ru
  simp at this
/-- The run's block alone is written: what is said stands. -/
theorem Rn.grow {base d : Nat} {w w' : World} {u u' : U} {S : ByteArray} (h : Rn base d w u S) (hr : RU w' d u') (g : w.grownBy w' (some d)) (h1 : u'.sd = u.sd) (h2 : u'.kp = .slice none 0 0) (h3 : u'.ks = 0) : Rn base d w' u' S := by
  refine ⟨hr, ?_, h2, h3, Nat.le_trans h.bz g.size⟩
  rw [h1]
  refine h.sd.keep (fun k hk => g.block k ?_ (by have := h.ne hk; simpa using this))
  obtain ⟨_, cur, hc⟩ := h.sd.blk hk
  exact (Array.getElem?_eq_some_iff.1 hc).1
theorem Rn.sy {base d : Nat} {w w' : World} {u : U} {S S' : ByteArray} (h : Rn base d w u S) (hy : Sy base d u S' w w') : ∃ v, Rn base d w' { u with sd := v } S' := by
  obtain ⟨v, hU, hS⟩ := hy.ex
  exact ⟨v, hU, hS, h.kp, h.ks, hy.bz⟩
set_option maxHeartbeats 1600000 in
theorem sayKept_any {base d : Nat} {w : World} {u : U} {S : ByteArray} (h : Rn base d w u S) :
    Calls Tryz.prog 60 #[.pointer (some ⟨d, 2, none⟩)] w fun e w' => e = .returned (.tuple #[]) ∧ Rn base d w' u S ∧ KP base d w w' := by
  have c3 : w.cell? ⟨d, 3, none⟩ = some (.slice none 0 0) := by rw [h.ru.c3, h.kp]
  have f3 := h.ru.fz 3
  have HN := hide (say_nil (w := w) (d := d) 0)
  have e1 : RU (w.setCell ⟨d, 3, none⟩ (.slice none 0 0)) d u := by
    have := h.ru.set3 (.slice none 0 0)
    rw [show ({ u with kp := .slice none 0 0 } : U) = u by cases u; simp_all [h.kp.symm]] at this
    exact this
  obtain ⟨W1, hW1⟩ : ∃ W1, w.setCell ⟨d, 3, none⟩ (.slice none 0 0) = W1 := ⟨_, rfl⟩
  rw [hW1] at e1
  have c4 : W1.cell? ⟨d, 4, none⟩ = some (.int .i64 0) := by rw [e1.c4, h.ks]
  have f4 := e1.fz 4
  have g1 : w.grownBy W1 (some d) := by rw [← hW1]; exact grown_set (grown_refl w d) _ _
  have e2 : RU (W1.setCell ⟨d, 4, none⟩ (.int .i64 0)) d u := by
    have := e1.set4 0
    rw [show ({ u with ks := 0 } : U) = u by cases u; simp_all [h.ks.symm]] at this
    exact this
  have g2 := grown_set g1 4 (.int .i64 0)
  have HF : Hid (Rn base d (W1.setCell ⟨d, 4, none⟩ (.int .i64 0)) u S ∧ KP base d w (W1.setCell ⟨d, 4, none⟩ (.int .i64 0))) := ⟨h.grow e2 g2 rfl h.kp h.ks, KP.grown g2 h.bz⟩
  clear h e1 e2 g1 g2
  go_enter Tryz.func60, Tryz.ntmps60
  go_wp2_with fail
  refine HN.out.mono ?_
  rintro e w' ⟨rfl, hw⟩
  subst hw
  clear HN
  go_wp2
  go_end0
  exact ⟨rfl, HF.out⟩
set_option maxHeartbeats 1600000 in
theorem sayCycle_quiet {base d : Nat} {w : World} {u : U} {S : ByteArray} (h : Rn base d w u S) (hq : u.quiet = true) :
    Calls Tryz.prog 61 #[.pointer (some ⟨d, 0, none⟩)] w fun e w' => e = .returned (.tuple #[]) ∧ Rn base d w' u S ∧ KP base d w w' := by
  have c7 : w.cell? ⟨d, 7, none⟩ = some (.bool true) := by rw [h.ru.c7, hq]
  have HK := hide (sayKept_any h)
  clear h hq
  go_enter Tryz.func61, Tryz.ntmps61
  go_wp2_with fail
  refine HK.out.mono ?_
  rintro e w' ⟨rfl, h1⟩
  have H1 := hide h1
  clear HK h1
  go_wp2
  go_end0
  exact ⟨rfl, H1.out⟩
set_option maxHeartbeats 1600000 in
theorem sayCycle_loud {base d : Nat} {w : World} {u : U} {S : ByteArray} (h : Rn base d w u S) (hq : u.quiet = false) (hsz : S.size + u.pat.size + 1 ≤ 8000) :
    Calls Tryz.prog 61 #[.pointer (some ⟨d, 0, none⟩)] w fun e w' => e = .returned (.tuple #[]) ∧ (∃ v, Rn base d w' { u with sd := v } (S ++ joinL [u.pat])) ∧ KP base d w w' := by
  have c7 : w.cell? ⟨d, 7, none⟩ = some (.bool false) := by rw [h.ru.c7, hq]
  have c0 := h.ru.c0
  obtain ⟨W1, hW1⟩ : ∃ W1, w.drew.alloc (.cells #[.string u.pat] 9) = W1 := ⟨_, rfl⟩
  have b1 : Below w.heap.size w W1 := by rw [← hW1]; exact more (Below.refl _ _).drew _
  have x1 : W1.heap[w.heap.size]? = some (.cells #[.string u.pat] 9 (0, 0)) := by rw [← hW1]; exact heap_alloc_new w.drew _
  have h1 : Rn base d W1 u S := h.grow (h.ru.below b1) (grown_of b1) rfl h.kp h.ks
  have hd := h.ru.lt
  have HS : Hid (Calls Tryz.prog 98 #[.pointer (some ⟨d, 2, none⟩), .slice (some ⟨w.heap.size, 0, none⟩) 1 1] W1 fun e w2 => e = .returned (.tuple #[]) ∧ Hid (Calls Tryz.prog 60 #[.pointer (some ⟨d, 2, none⟩)] w2 fun e w3 => e = .returned (.tuple #[]) ∧ Hid ((∃ v, Rn base d w3 { u with sd := v } (S ++ joinL [u.pat])) ∧ KP base d w w3))) := by
    refine (say_any base w.heap.size 1 [u.pat] h1.ru h1.sd ?_ _ x1 rfl (by omega) h1.bz (by simp) (by simp) ?_).mono ?_
    · intro k a ha
      cases k with
      | zero =>
        obtain rfl := Option.some.inj ha
        exact cell_of x1 rfl
      | succ k => simp at ha
    · have : (joinL [u.pat]).size = u.pat.size + 1 := by simp [joinL, nl, bas.mt, ByteArray.size_append]; rfl
      omega
    · rintro e w2 ⟨rfl, hy⟩
      obtain ⟨v, h2⟩ := h1.sy hy
      refine ⟨rfl, ?_⟩
      refine (sayKept_any h2).mono ?_
      rintro e w3 ⟨rfl, h3, k3⟩
      exact ⟨rfl, ⟨v, h3⟩, ((KP.grown (grown_of b1) h.bz).trans hy.kp).trans k3⟩
  clear h h1 x1 b1 hq
  go_enter Tryz.func61, Tryz.ntmps61
  go_wp2_with fail
  go_region_law (first | (go_simp; go_at_call 98; (try rw [hW1]); with_reducible (refine HS.out.mono ?_); rintro e w2 ⟨rfl, HK⟩))
  all_goals
    clear HS
    go_wp2_with fail
    refine HK.out.mono ?_
    rintro e w3 ⟨rfl, HF⟩
    clear HK
    go_wp2
    go_end0
    exact ⟨rfl, HF.out⟩
set_option maxHeartbeats 1600000 in
/-- No line is left. -/
theorem begin_end {base d : Nat} {w : World} {u : U} {S : ByteArray} (h : Rn base d w u S) (hl : u.left = false) (lo : Option Addr) (n lc : Nat) (hln : u.ln = .slice lo n lc) (hn : u.num = n) (hn2 : n ≤ 1000) :
    Calls Tryz.prog 58 #[.pointer (some ⟨d, 0, none⟩)] w fun e w' => e = .returned (.bool false) ∧ Rn base d w' { u with at_ := 0 } S ∧ KP base d w w' := by
  have c12 := h.ru.c12
  have f12 := h.ru.fz 12
  have r1 : RU (w.setCell ⟨d, 12, none⟩ (.int .i64 0)) d { u with at_ := 0 } := h.ru.set12 0
  have g1 := grown_set (grown_refl w d) 12 (.int .i64 0)
  obtain ⟨W1, hW1⟩ : ∃ W1, w.setCell ⟨d, 12, none⟩ (.int .i64 0) = W1 := ⟨_, rfl⟩
  rw [hW1] at r1 g1
  have c9 : W1.cell? ⟨d, 9, none⟩ = some (.bool false) := by rw [r1.c9]; show some (Value.bool u.left) = _; rw [hl]
  have HL := last_any r1 lo n lc hln (by show u.num ≤ n; omega) hn2
  dsimp only at HL
  rw [decide_eq_true hn] at HL
  have HL := hide HL
  have HF : Hid (∀ q, Rn base d (W1.drewN q) { u with at_ := 0 } S ∧ KP base d w (W1.drewN q)) := fun q => ⟨h.grow r1 (grown_drew g1 q) rfl h.kp h.ks, KP.grown (grown_drew g1 q) h.bz⟩
  clear h r1 g1
  go_enter Tryz.func58, Tryz.ntmps58
  go_wp2_with fail
  (try rw [hW1])
  refine HL.out.mono ?_
  rintro e w1 ⟨rfl, q, rfl⟩
  clear HL hW1
  go_wp2
  go_ret
  exact ⟨rfl, HF.out q⟩
set_option maxHeartbeats 3200000 in
/-- A line is read. -/
theorem begin_line {base d : Nat} {w : World} {u : U} {S : ByteArray} (h : Rn base d w u S) (hl : u.left = false) (gl : Nat) (ls : List ByteArray) (n lc : Nat) (hln : u.ln = .slice (some ⟨gl, 0, none⟩) n lc) (hn : u.num < n) (hn2 : n ≤ 1000) (ob : Obj) (hg : w.heap[gl]? = some ob) (hgd : gl ≠ d) (hL : LN w gl ls) (a : ByteArray) (ha : ls[u.num]? = some a) (has : a.size ≤ 1000) :
    Calls Tryz.prog 58 #[.pointer (some ⟨d, 0, none⟩)] w fun e w' => e = .returned (.bool true) ∧ Rn base d w' { u with at_ := 0, flag := false, num := u.num + 1, pat := a } S ∧ KP base d w w' := by
  have c12 := h.ru.c12
  have f12 := h.ru.fz 12
  have r1 : RU (w.setCell ⟨d, 12, none⟩ (.int .i64 0)) d { u with at_ := 0 } := h.ru.set12 0
  have g1 := grown_set (grown_refl w d) 12 (.int .i64 0)
  obtain ⟨W1, hW1⟩ : ∃ W1, w.setCell ⟨d, 12, none⟩ (.int .i64 0) = W1 := ⟨_, rfl⟩
  rw [hW1] at r1 g1
  have c9 : W1.cell? ⟨d, 9, none⟩ = some (.bool false) := by rw [r1.c9]; show some (Value.bool u.left) = _; rw [hl]
  have HL := last_any r1 (some ⟨gl, 0, none⟩) n lc hln (by show u.num ≤ n; omega) hn2
  dsimp only at HL
  rw [decide_eq_false (show ¬ u.num = n by omega)] at HL
  have HL := hide HL
  have HR : Hid (∀ q, (W1.drewN q).cell? ⟨d, 10, none⟩ = some (.bool u.flag) ∧ (W1.drewN q).frozen? ⟨d, 10, none⟩ = false ∧ ∃ W2, Hid ((W1.drewN q).setCell ⟨d, 10, none⟩ (.bool false) = W2) ∧ Hid (Calls Tryz.prog 95 #[.pointer (some ⟨d, 0, none⟩)] W2.drew fun e w3 => e = .returned (.string a) ∧ Hid (Calls Tryz.prog 94 #[.pointer (some ⟨d, 0, none⟩), .string a] w3 fun e w4 => e = .returned (.tuple #[]) ∧ Hid (Rn base d w4 { u with at_ := 0, flag := false, num := u.num + 1, pat := a } S ∧ KP base d w w4)))) := by
    intro q
    have rq : RU (W1.drewN q) d { u with at_ := 0 } := r1
    refine ⟨rq.c10, rq.fz 10, _, rfl, ?_⟩
    have r2 := rq.set10 false
    have g2 : w.grownBy ((W1.drewN q).setCell ⟨d, 10, none⟩ (.bool false)).drew (some d) := by
      have := grown_set (grown_drew g1 q) 10 (.bool false)
      exact ⟨this.os, this.tape, this.output, this.size, this.block⟩
    have r3 : RU ((W1.drewN q).setCell ⟨d, 10, none⟩ (.bool false)).drew d { u with at_ := 0, flag := false } := r2
    have hL2 : LN ((W1.drewN q).setCell ⟨d, 10, none⟩ (.bool false)).drew gl ls := fun k x hx => by
      have e := g2.block gl (Array.getElem?_eq_some_iff.1 hg).1 (by simpa using hgd)
      rw [World.cell?_of_block (show (((W1.drewN q).setCell ⟨d, 10, none⟩ (.bool false)).drew).heap[(⟨gl, k, none⟩ : Addr).block]? = w.heap[(⟨gl, k, none⟩ : Addr).block]? from e)]
      exact hL k x hx
    refine (nextLine_any r3 gl ls n lc hln hL2 a ha hn hn2).mono ?_
    rintro e w3 ⟨rfl, r4, g4⟩
    refine ⟨rfl, ?_⟩
    refine (put_any r4 a has).mono ?_
    rintro e w4 ⟨rfl, r5, g5⟩
    have g := grown_tr (grown_tr g2 g4) g5
    exact ⟨rfl, h.grow r5 g rfl h.kp h.ks, KP.grown g h.bz⟩
  clear h r1 g1 hL hg
  go_enter Tryz.func58, Tryz.ntmps58
  go_wp2_with fail
  (try rw [hW1])
  refine HL.out.mono ?_
  rintro e w1 ⟨rfl, q, rfl⟩
  obtain ⟨c10, f10, W2, hW2, HN⟩ := HR.out q
  clear HL hW1 HR
  have hW2' := hW2.out
  go_wp2_with fail
  (try rw [hW2'])
  go_region_law (first
    | (go_simp; go_at_call 94; have _h := HP; with_reducible (refine HP.out.mono ?_); rintro e w4 ⟨rfl, HF⟩)
    | (go_simp; go_at_call 95; with_reducible (refine HN.out.mono ?_); rintro e w3 ⟨rfl, HP⟩))
  all_goals
    go_wp2
    go_ret
    exact ⟨rfl, HF.out⟩
end Go.Proofs.YtdhachmelgdknaaGreatDoor.run
