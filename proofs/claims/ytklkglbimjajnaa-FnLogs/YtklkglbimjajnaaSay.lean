/- A peer says a message. -/
import Derived.Test.YtklkglbimjajnaaPostb
namespace Go.Proofs.Ytklkglbimjajnaa.say
open Go.ChangeShapes Go.WideShapes Go.ChangeAt Go.RowKit
open Go.Proofs.Ytklkglbimjajnaa.Raft Go.Proofs.Ytklkglbimjajnaa.mem Go.Proofs.Ytklkglbimjajnaa.grp Go.Proofs.Ytklkglbimjajnaa.look Go.Proofs.Ytklkglbimjajnaa.ndw Go.Proofs.Ytklkglbimjajnaa.grant Go.Proofs.Ytklkglbimjajnaa.post Go.Proofs.Ytklkglbimjajnaa.postb
set_option linter.unusedVariables false

/-- A call on the group behind what wrote new blocks alone. -/
theorem Did.from {M : Fz} {O : Lb} {w W w' : World} {d : Nat} {nb : List Nat} {c' : Cl} (st : Sta M O w) (hb : Below w.heap.size w W) (h : Did M O W d nb c' w') : Did M O w d nb c' w' := Did.trans ((Aft.refl _ st).below hb) h

set_option maxRecDepth 20000 in
set_option maxHeartbeats 4000000 in
theorem say_any (w : World) (M : Fz) (O : Lb) (d : Nat) (nb : List Nat) (c : Cl) (h : G w M O d nb c) (k b : Nat) (hb : nb[k]? = some b) (to kind a b2 c2 : Nat) (ok : Bool) (log : List Rc) (o : Option Addr) (n lc : Nat) (hlv : RecsM M (.slice o n lc) log) :
    Calls Try.prog 144 #[.pointer (some ⟨d, 0, none⟩), .pointer (some ⟨b, 0, none⟩), .int .i64 to, .agg #[.int .i64 kind, .int .i64 0, .int .i64 0, .int .i64 0, .int .i64 a, .int .i64 b2, .int .i64 c2, .bool ok, .slice o n lc]] w fun r w' => r = .returned (.tuple #[]) ∧ Did M O w d nb (c.send ⟨kind, k, to, (c.at k).term, a, b2, c2, ok, log⟩) w' := by
  have st := h.sta
  obtain ⟨W, hW⟩ : ∃ W, w.alloc (.cells #[.int .i64 kind, .int .i64 0, .int .i64 0, .int .i64 0, .int .i64 a, .int .i64 b2, .int .i64 c2, .bool ok, .slice o n lc] 98) = W := ⟨_, rfl⟩
  have bW : Below w.heap.size w W := by rw [← hW]; exact more (Below.refl _ _) _
  have hbox : W.heap[w.heap.size]? = some (.cells #[.int .i64 kind, .int .i64 0, .int .i64 0, .int .i64 0, .int .i64 a, .int .i64 b2, .int .i64 c2, .bool ok, .slice o n lc] 98 (0, 0)) := by rw [← hW]; exact heap_alloc_new w _
  have hGW := h.below bW
  obtain ⟨us, lv, vv, nv, mv, hn⟩ := hGW.at hb
  obtain ⟨⟨t0, _, _, t3, _⟩, _⟩ := Nd.cs hn
  have hbl : b < w.heap.size := by
    obtain ⟨_, _, _, _, _, hn0⟩ := h.at hb
    exact (st.ok b _ hn0.own).2
  generalize (c.at k).term = T at *
  have z1 := cell_of (i := 1) hbox (v := .int .i64 0) rfl
  have z2 := cell_of (i := 2) hbox (v := .int .i64 0) rfl
  have z3 := cell_of (i := 3) hbox (v := .int .i64 0) rfl
  have y1 := frozen_of hbox 1
  have y2 := frozen_of hbox 2
  have y3 := frozen_of hbox 3
  have hne1 : ¬ (w.heap.size = b) := by omega
  have hne2 : ¬ (b = w.heap.size) := by omega
  have HB2 : Hid (Below w.heap.size w (((W.setCell ⟨w.heap.size, 1, none⟩ (.int .i64 k)).setCell ⟨w.heap.size, 2, none⟩ (.int .i64 to)).setCell ⟨w.heap.size, 3, none⟩ (.int .i64 T))) := by
    have h1 : Below w.heap.size w (W.setCell ⟨w.heap.size, 1, none⟩ (.int .i64 k)) := bW.setCell (Nat.le_refl _) _
    have h2 : Below w.heap.size w ((W.setCell ⟨w.heap.size, 1, none⟩ (.int .i64 k)).setCell ⟨w.heap.size, 2, none⟩ (.int .i64 to)) := h1.setCell (Nat.le_refl _) _
    exact h2.setCell (Nat.le_refl _) _
  have HX2 : Hid ((((W.setCell ⟨w.heap.size, 1, none⟩ (.int .i64 k)).setCell ⟨w.heap.size, 2, none⟩ (.int .i64 to)).setCell ⟨w.heap.size, 3, none⟩ (.int .i64 T)).heap[w.heap.size]? = some (.cells #[.int .i64 kind, .int .i64 k, .int .i64 to, .int .i64 T, .int .i64 a, .int .i64 b2, .int .i64 c2, .bool ok, .slice o n lc] 98 (0, 0))) := sets_at [(1, .int .i64 k), (2, .int .i64 to), (3, .int .i64 T)] hbox
  have HS : Hid (∀ wx, Below w.heap.size w wx → Calls Try.prog 92 #[.pointer (some ⟨d, 0, none⟩), .agg #[.int .i64 kind, .int .i64 k, .int .i64 to, .int .i64 T, .int .i64 a, .int .i64 b2, .int .i64 c2, .bool ok, .slice o n lc]] wx fun r w' => r = .returned (.tuple #[]) ∧ Did M O w d nb (c.send ⟨kind, k, to, T, a, b2, c2, ok, log⟩) w') := fun wx hb => by
    refine (send_any wx M O d nb c (h.below hb) ⟨kind, k, to, T, a, b2, c2, ok, log⟩ o n lc hlv).mono ?_
    rintro r w' ⟨rfl, h2⟩
    exact ⟨rfl, Did.from st hb h2⟩
  clear hn hGW hbox hlv h st bW hbl
  go_enter Try.func144, Try.ntmps144
  go_wp2
  go_region_law (fail)
  all_goals
    obtain ⟨W2, hW2⟩ : ∃ W2, (((W.setCell ⟨w.heap.size, 1, none⟩ (.int .i64 k)).setCell ⟨w.heap.size, 2, none⟩ (.int .i64 to)).setCell ⟨w.heap.size, 3, none⟩ (.int .i64 T)) = W2 := ⟨_, rfl⟩
    have hx2 := HX2.out
    rw [hW2] at hx2
    rw [hW2] at HB2
    have r0 := cell_of (i := 0) hx2 (v := .int .i64 kind) rfl
    have r1 := cell_of (i := 1) hx2 (v := .int .i64 k) rfl
    have r2 := cell_of (i := 2) hx2 (v := .int .i64 to) rfl
    have r3 := cell_of (i := 3) hx2 (v := .int .i64 T) rfl
    have r4 := cell_of (i := 4) hx2 (v := .int .i64 a) rfl
    have r5 := cell_of (i := 5) hx2 (v := .int .i64 b2) rfl
    have r6 := cell_of (i := 6) hx2 (v := .int .i64 c2) rfl
    have r7 := cell_of (i := 7) hx2 (v := .bool ok) rfl
    have r8 := cell_of (i := 8) hx2 (v := .slice o n lc) rfl
    clear hx2 HX2 z1 z2 z3 y1 y2 y3 t0 t3
    go_wp2
    rw [hW2]
    clear hW2
    go_region_law (first | (go_simp; go_at_call 92; refine (HS.out _ (by first | exact HB2.out.drew.drew | exact HB2.out.drew)).mono ?_; rintro rr w5 ⟨rfl, hd5⟩; have HD5 := hide hd5; clear hd5))
    all_goals
      go_wp2
      go_end0
      exact ⟨rfl, HD5.out⟩
end Go.Proofs.Ytklkglbimjajnaa.say
