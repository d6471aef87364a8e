/- A command's name is read and the command taken. -/
import Derived.Test.YtdhachmelgdknaaGreatDoorWhl
namespace Go.Proofs.YtdhachmelgdknaaGreatDoor.rdr
open Go.ChangeShapes Go.WideShapes Go.ChangeAt Go.RowKit
open Go.Proofs.YtdhachmelgdknaaGreatDoor.bas Go.Proofs.YtdhachmelgdknaaGreatDoor.tak
set_option linter.unusedVariables false
theorem RB.set4 {w : World} {d : Nat} {q : Q} (h : RB w d q) (k : Int) : RB (w.setCell ⟨d, 4, none⟩ (.int .i64 k)) d { q with nm := k } := by
  have := heap_setCell_same w d 4 _ 74 (.int .i64 k) h
  simpa [RB, Q.cells] using this
theorem set15 {w : World} {b t : Nat} {ak an : Int} {nt : Bool} (h : w.heap[b]? = some (.cells (sedA ak an nt ⟨#[]⟩) t (0, 0))) (nm : ByteArray) : (w.setCell ⟨b, 15, none⟩ (.string nm)).heap[b]? = some (.cells (sedA ak an nt nm) t (0, 0)) := by
  have := heap_setCell_same w b 15 _ t (.string nm) h
  simpa [sedA] using this
theorem tk_ne {w : World} {m d : Nat} {q : Q} (h : TKo w m) (hr : RB w d q) : m ≠ d := by
  rintro rfl
  obtain ⟨n, D, ⟨es, clock, hb, _⟩, _⟩ := h
  have := hb.symm.trans hr
  cases this
set_option maxHeartbeats 3200000 in
theorem command_any (base : Nat) {d : Nat} {q : Q} {w : World} (h : RB w d q) (hlt : q.pl < q.T.size) (hT : q.T.size ≤ 100000) (n : Nat) (ys : List Value) (ho : w.ownsRow base 60 26 q.ls n ys) (hb : base ≤ w.heap.size) (hn : n < 60) (ak an : Int) (nt : Bool) (nmS : ByteArray)
    (c j : Nat) (hj : j < 12) (hc : (pn.data.toList.getD j 0).toNat = c) (hTc : (q.T[q.pl]'hlt).toNat = c)
    (hcv : ∀ W, (convert 5 21 (.int .u8 (c : Nat))).run Tryz.prog W = .ok (.int .i32 (c : Nat)) W ∧ (convert 21 9 (.int .i32 (c : Nat))).run Tryz.prog W = .ok (.string nmS) W)
    (mT : Nat) (htk : q.tk = .map (some mT)) (hTK : TKo w mT)
    (hok : ov sB q.T (q.pl + 1) = q.T.size ∨ seesP q.T sE (ov sB q.T (q.pl + 1)) = true) :
    Calls Tryz.prog 50 #[.pointer (some ⟨d, 0, none⟩), .agg (sedA ak an nt ⟨#[]⟩)] w fun e w' => e = .returned (.tuple #[]) ∧ WhE base w d { q with nm := (q.pl : Nat) } n (ys ++ (sedA ak an nt nmS).toList) (ov sB q.T (q.pl + 1)) w' := by
  obtain ⟨T, ere, p, bg, nm, tk, ls, op, lb, jp⟩ := q
  dsimp only at hlt hT ho hTc htk hok ⊢
  subst htk
  obtain ⟨lo, lc, rfl⟩ : ∃ lo lc, ls = .slice lo n lc := by
    obtain ⟨h1, ⟨e, hx⟩ | ⟨g, cap, cur, e, _⟩⟩ := ho
    · exact ⟨none, 0, by rw [e, hx]⟩
    · exact ⟨_, _, e⟩
  have hd := h.lt
  obtain ⟨W0, hW0⟩ : ∃ W0, w.alloc (.cells (sedA ak an nt ⟨#[]⟩) 60) = W0 := ⟨_, rfl⟩
  have b0 : Below w.heap.size w W0 := by rw [← hW0]; exact more (Below.refl _ _) _
  have s0 : W0.heap.size = w.heap.size + 1 := by rw [← hW0]; exact World.size_alloc ..
  have x0 : W0.heap[w.heap.size]? = some (.cells (sedA ak an nt ⟨#[]⟩) 60 (0, 0)) := by rw [← hW0]; exact heap_alloc_new w _
  have rb0 := h.below b0
  have c2 : W0.cell? ⟨d, 2, none⟩ = some (.int .i64 (p : Nat)) := rb0.c2
  have c4 : W0.cell? ⟨d, 4, none⟩ = some (.int .i64 nm) := cell_of rb0 rfl
  have f4 := rb0.fz 4
  obtain ⟨W1, hW1⟩ : ∃ W1, W0.setCell ⟨d, 4, none⟩ (.int .i64 (p : Nat)) = W1 := ⟨_, rfl⟩
  have rb1 : RB W1 d ⟨T, ere, p, bg, (p : Nat), .map (some mT), .slice lo n lc, op, lb, jp⟩ := by rw [← hW1]; exact rb0.set4 _
  have g1 : w.grownBy W1 (some d) := by rw [← hW1]; exact grown_set (grown_of b0) _ _
  have o1 : ∀ k, k ≠ d → W1.heap[k]? = W0.heap[k]? := fun k hk => by rw [← hW1]; exact Below.heap_setCell _ _ _ _ hk
  have s1 : W1.heap.size = w.heap.size + 1 := by rw [← hW1]; simpa using s0
  have x1 : W1.heap[w.heap.size]? = some (.cells (sedA ak an nt ⟨#[]⟩) 60 (0, 0)) := (o1 _ (by omega)).trans x0
  have HE := ended_any W1 d _ rb1 (by show p ≤ T.size; omega) hT
  dsimp only at HE
  rw [decide_eq_false (show ¬ p = T.size by omega)] at HE
  have HE := hide HE
  have hne := tk_ne hTK h
  -- behind the name
  have HV : Hid (∀ V : World, V.heap = W1.heap → V.os = W1.os → V.tape = W1.tape → V.output = W1.output → (V.cell? ⟨d, 2, none⟩ = some (.int .i64 (p : Nat)) ∧ V.frozen? ⟨d, 2, none⟩ = false) ∧ ∃ W2, Hid (V.setCell ⟨d, 2, none⟩ (.int .i64 ((p : Int) + 1)) = W2) ∧ (W2.cell? ⟨d, 6, none⟩ = some (.slice lo n lc) ∧ W2.cell? ⟨d, 5, none⟩ = some (.map (some mT)) ∧ W2.cell? ⟨w.heap.size, 15, none⟩ = some (.string ⟨#[]⟩) ∧ W2.frozen? ⟨w.heap.size, 15, none⟩ = false) ∧ (Instr.lookup 70 (.map (some mT)) (.int .u8 (c : Nat)) true).run Tryz.prog W2 = .ok (.tuple #[.func (.func 80) #[] #[], .bool true]) W2 ∧ ∃ W3, Hid (W2.setCell ⟨w.heap.size, 15, none⟩ (.string nmS) = W3) ∧ Hid (W3.heap[w.heap.size]? = some (.cells (sedA ak an nt nmS) 60 (0, 0))) ∧ Hid (Calls Tryz.prog 80 #[.pointer (some ⟨d, 0, none⟩), .agg (sedA ak an nt nmS)] W3 fun e w' => e = .returned (.tuple #[]) ∧ Hid (WhE base w d ⟨T, ere, p, bg, (p : Nat), .map (some mT), .slice lo n lc, op, lb, jp⟩ n (ys ++ (sedA ak an nt nmS).toList) (ov sB T (p + 1)) w'))) := by
    intro V hv1 hv2 hv3 hv4
    have rv : RB V d ⟨T, ere, p, bg, (p : Nat), .map (some mT), .slice lo n lc, op, lb, jp⟩ := by unfold RB; rw [hv1]; exact rb1
    have gv : w.grownBy V (some d) := ⟨hv2.trans g1.os, hv3.trans g1.tape, hv4.trans g1.output, by rw [hv1]; exact g1.size, fun k hk hn => by rw [hv1]; exact g1.block k hk hn⟩
    have xv : V.heap[w.heap.size]? = some (.cells (sedA ak an nt ⟨#[]⟩) 60 (0, 0)) := by rw [hv1]; exact x1
    refine ⟨⟨rv.c2, rv.fz 2⟩, _, rfl, ?_⟩
    have r2 : RB (V.setCell ⟨d, 2, none⟩ (.int .i64 ((p : Int) + 1))) d ⟨T, ere, p + 1, bg, (p : Nat), .map (some mT), .slice lo n lc, op, lb, jp⟩ := rv.set2 (p + 1)
    have g2 := grown_set gv 2 (.int .i64 ((p : Int) + 1))
    have x2 : (V.setCell ⟨d, 2, none⟩ (.int .i64 ((p : Int) + 1))).heap[w.heap.size]? = some (.cells (sedA ak an nt ⟨#[]⟩) 60 (0, 0)) := (Below.heap_setCell _ _ _ _ (by show w.heap.size ≠ d; omega)).trans xv
    obtain ⟨W2, hW2⟩ : ∃ W2, V.setCell ⟨d, 2, none⟩ (.int .i64 ((p : Int) + 1)) = W2 := ⟨_, rfl⟩
    rw [hW2] at r2 g2 x2 ⊢
    have s2 := g2.size
    have t2 : TKo W2 mT := hTK.keep (g2.block _ hTK.lt (by simpa using hne))
    refine ⟨⟨cell_of r2 rfl, cell_of r2 rfl, cell_of x2 rfl, frozen_of x2 15⟩, t2.look j hj c hc, _, rfl, set15 x2 nmS, ?_⟩
    have r3 : RB (W2.setCell ⟨w.heap.size, 15, none⟩ (.string nmS)) d ⟨T, ere, p + 1, bg, (p : Nat), .map (some mT), .slice lo n lc, op, lb, jp⟩ := r2.keep (Below.heap_setCell _ _ _ _ (by show d ≠ w.heap.size; omega))
    have g3 : w.grownBy (W2.setCell ⟨w.heap.size, 15, none⟩ (.string nmS)) (some d) := ⟨g2.os, g2.tape, g2.output, by simpa using g2.size, fun k hk hn => (Below.heap_setCell _ _ _ _ (by show k ≠ w.heap.size; omega)).trans (g2.block k hk hn)⟩
    refine (whole_any base r3 (by show p + 1 ≤ T.size; omega) hT n ys (row_kept h ho g3) (by simpa using Nat.le_trans hb g2.size) (by omega) ak an nt nmS hok).mono ?_
    rintro e w' ⟨rfl, g, cap, o, r, t⟩
    exact ⟨rfl, g, cap, o, r, Two.after g3 t (fun _ _ => .inr trivial)⟩
  have hn60 : ((n : Int) == 60) = false := by rw [beq_eq_false_iff_ne]; omega
  have hcv1 := fun W => (hcv W).1
  have hcv2 := fun W => (hcv W).2
  have HR1 : Hid (W1.cell? ⟨d, 0, none⟩ = some (.string T) ∧ W1.cell? ⟨d, 2, none⟩ = some (.int .i64 (p : Nat))) := ⟨rb1.c0, rb1.c2⟩
  have hltI : (p : Int) < (T.size : Int) := by omega
  clear h ho b0 x0 rb0 rb1 g1 o1 x1 hTK hok hcv s0 s1 hne
  go_enter Tryz.func50, Tryz.ntmps50
  go_wp2_with fail
  (try rw [hW1])
  refine HE.out.mono ?_
  rintro e w1 ⟨rfl, n1, rfl⟩
  clear HE hW0 hW1 c2 c4 f4
  have z0 : (W1.drewN n1).cell? ⟨d, 0, none⟩ = some (.string T) := HR1.out.1
  have z2 : (W1.drewN n1).cell? ⟨d, 2, none⟩ = some (.int .i64 (p : Nat)) := HR1.out.2
  have q0 := HR1.out.1
  have q2 := HR1.out.2
  go_wp2
  go_quiet (fail)
  (try rw [World.drewN_drewN])
  generalize hV : World.drewN W1 _ = V
  obtain ⟨⟨v1, v2⟩, W2, hW2, ⟨y6, y5, y15, yf⟩, hlook, W3, hW3, HX, HC⟩ := HV.out V (by rw [← hV]; rfl) (by rw [← hV]; rfl) (by rw [← hV]; rfl) (by rw [← hV]; rfl)
  have hW2' := hW2.out
  have hW3' := hW3.out
  clear HV hV HR1 z0 z2 hW2 hW3 q0 q2
  (try rw [hTc])
  go_wp2_with (first
    | ((try rw [hW3']); refine wpList_load_row rfl _ _ rfl w.heap.size rfl 60 _ (0, 0) _ HX.out Tryz.underlying60 rfl (size60 _ _ _ _) ?_)
    | (go_at_call 80; (try rw [hW3']); refine HC.out.mono ?_; rintro e w2 ⟨rfl, HD⟩))
  go_end0
  exact ⟨rfl, HD.out⟩
end Go.Proofs.YtdhachmelgdknaaGreatDoor.rdr
