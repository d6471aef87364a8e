/- The commands G and h. -/
import Derived.Test.YtdhachmelgdknaaGreatDoorLkp
namespace Go.Proofs.YtdhachmelgdknaaGreatDoor.run
open Go.ChangeShapes Go.WideShapes Go.ChangeAt Go.RowKit
open Go.Proofs.YtdhachmelgdknaaGreatDoor.bas Go.Proofs.YtdhachmelgdknaaGreatDoor.rdr Go.Proofs.YtdhachmelgdknaaGreatDoor.chk
set_option linter.unusedVariables false
set_option maxHeartbeats 1600000 in
theorem add_any {w : World} {d : Nat} {u : U} (h : RU w d u) (s : ByteArray) (hs : (u.pat ++ nl ++ s).size ≤ 1000) :
    Calls Tryz.prog 155 #[.pointer (some ⟨d, 0, none⟩), .string s] w fun e w' => e = .returned (.tuple #[]) ∧ RU w' d { u with pat := u.pat ++ nl ++ s } ∧ w.grownBy w' (some d) := by
  have HP := hide (put_any h _ hs)
  have c0 := h.c0
  have z : (u.pat ++ nl ++ s).size = u.pat.size + 1 + s.size := by rw [ByteArray.size_append, ByteArray.size_append]; rfl
  obtain ⟨p, ep⟩ : ∃ p, u.pat = p := ⟨_, rfl⟩
  rw [ep] at HP c0 z hs
  unfold nl at HP hs z
  have n1 : (p ++ (⟨#[10]⟩ : ByteArray)).size = p.size + 1 := by rw [ByteArray.size_append]; rfl
  have q1 : ¬ 9223372036854775807 < p.size + (⟨#[10]⟩ : ByteArray).size := by have : (⟨#[10]⟩ : ByteArray).size = 1 := rfl; omega
  have q2 : ¬ 9223372036854775807 < (p ++ (⟨#[10]⟩ : ByteArray)).size + s.size := by omega
  have q3 : ¬ 9223372036854775807 < p.size + 1 := by omega
  have q4 : ¬ 9223372036854775807 < p.size + 1 + s.size := by omega
  clear h z hs n1
  go_enter Tryz.func155, Tryz.ntmps155
  go_wp2_with fail
  refine HP.out.mono ?_
  rintro e w' ⟨rfl, hF⟩
  have HF := hide hF
  clear HP hF
  go_wp2
  go_end0
  refine ⟨rfl, ?_⟩
  rw [ep]
  exact HF.out
set_option maxHeartbeats 1600000 in
theorem change_G {w : World} {d : Nat} {u : U} (h : RU w d u) (hs : (u.pat ++ nl ++ u.hold).size ≤ 1000) (ak an : Int) (nt : Bool) :
    Calls Tryz.prog 133 #[.pointer (some ⟨d, 0, none⟩), .agg (sedA ak an nt ⟨#[71]⟩)] w fun e w' => e = .returned (.tuple #[]) ∧ RU w' d { u with pat := u.pat ++ nl ++ u.hold } ∧ w.grownBy w' (some d) := by
  obtain ⟨nm, hnm⟩ : ∃ nm : ByteArray, nm = ⟨#[71]⟩ := ⟨_, rfl⟩
  rw [← hnm]
  have n103 : (nm.toList == [103]) = false := by rw [hnm]; exact one_ne (by decide)
  have n71 : (nm.toList == [71]) = true := by rw [hnm]; exact one_eq _
  obtain ⟨W0, hW0⟩ : ∃ W0, w.alloc (.cells (sedA ak an nt nm) 60) = W0 := ⟨_, rfl⟩
  have b0 : Below w.heap.size w W0 := by rw [← hW0]; exact more (Below.refl _ _) _
  have x0 : W0.heap[w.heap.size]? = some (.cells (sedA ak an nt nm) 60 (0, 0)) := by rw [← hW0]; exact heap_alloc_new w _
  have h0 := h.below b0
  have c15 : W0.cell? ⟨w.heap.size, 15, none⟩ = some (.string nm) := cell_of x0 rfl
  have c1 := h0.c1
  have h1 : RU W0.drew d u := h0
  have HA : Hid (Calls Tryz.prog 155 #[.pointer (some ⟨d, 0, none⟩), .string u.hold] W0.drew fun e w' => e = .returned (.tuple #[]) ∧ Hid (RU w' d { u with pat := u.pat ++ nl ++ u.hold } ∧ w.grownBy w' (some d))) := by
    refine (add_any h1 u.hold hs).mono ?_
    rintro e w' ⟨rfl, h2, g2⟩
    exact ⟨rfl, h2, grown_tr (grown_of b0.drew) g2⟩
  clear h h0 h1 x0 b0 hnm hs
  go_enter Tryz.func133, Tryz.ntmps133
  go_wp2_with fail
  (try rw [hW0])
  go_region_law (first | (go_simp; go_at_call 155; with_reducible (refine HA.out.mono ?_); rintro e w2 ⟨rfl, HF⟩))
  all_goals
    go_wp2
    go_end0
    exact ⟨rfl, HF.out⟩
set_option maxHeartbeats 1600000 in
theorem change_h {w : World} {d : Nat} {u : U} (h : RU w d u) (ak an : Int) (nt : Bool) :
    Calls Tryz.prog 133 #[.pointer (some ⟨d, 0, none⟩), .agg (sedA ak an nt ⟨#[104]⟩)] w fun e w' => e = .returned (.tuple #[]) ∧ RU w' d { u with hold := u.pat } ∧ w.grownBy w' (some d) := by
  obtain ⟨nm, hnm⟩ : ∃ nm : ByteArray, nm = ⟨#[104]⟩ := ⟨_, rfl⟩
  rw [← hnm]
  have n103 : (nm.toList == [103]) = false := by rw [hnm]; exact one_ne (by decide)
  have n71 : (nm.toList == [71]) = false := by rw [hnm]; exact one_ne (by decide)
  have n104 : (nm.toList == [104]) = true := by rw [hnm]; exact one_eq _
  obtain ⟨W0, hW0⟩ : ∃ W0, w.alloc (.cells (sedA ak an nt nm) 60) = W0 := ⟨_, rfl⟩
  have b0 : Below w.heap.size w W0 := by rw [← hW0]; exact more (Below.refl _ _) _
  have x0 : W0.heap[w.heap.size]? = some (.cells (sedA ak an nt nm) 60 (0, 0)) := by rw [← hW0]; exact heap_alloc_new w _
  have h0 := h.below b0
  have c15 : W0.cell? ⟨w.heap.size, 15, none⟩ = some (.string nm) := cell_of x0 rfl
  have c0 := h0.c0
  have c1 := h0.c1
  have f1 := h0.fz 1
  have HF : Hid (RU (W0.setCell ⟨d, 1, none⟩ (.string u.pat)) d { u with hold := u.pat } ∧ w.grownBy (W0.setCell ⟨d, 1, none⟩ (.string u.pat)) (some d)) := ⟨h0.set1 _, grown_set (grown_of b0) _ _⟩
  clear h h0 x0 b0 hnm
  go_enter Tryz.func133, Tryz.ntmps133
  go_wp2
  (try rw [hW0])
  go_end0
  exact ⟨rfl, HF.out⟩
set_option maxRecDepth 20000 in
set_option maxHeartbeats 3200000 in
theorem do_G {base d : Nat} {w : World} {u : U} {S : ByteArray} (h : Rn base d w u S) (hs : (u.pat ++ nl ++ u.hold).size ≤ 1000) (g cap n : Nat) (hls : u.ls = .slice (some ⟨g, 0, none⟩) n cap) (cs : List Cm) (hl : Lst w g cap cs) (k : Nat) (ak an : Int) (nt : Bool) (hc : cs[k]? = some ⟨ak, an, nt, ⟨#[71]⟩⟩) (hk : k < n) (hn : n ≤ 60) :
    Calls Tryz.prog 97 #[.pointer (some ⟨d, 0, none⟩), .int .i64 k] w fun e w' => e = .returned (.int .i64 0) ∧ Rn base d w' { u with pat := u.pat ++ nl ++ u.hold } S ∧ KP base d w w' := by
  obtain ⟨nm, hnm⟩ : ∃ nm : ByteArray, nm = ⟨#[71]⟩ := ⟨_, rfl⟩
  rw [← hnm] at hc
  have n98 : (nm.toList == [98]) = false := by rw [hnm]; exact one_ne (by decide)
  have n116 : (nm.toList == [116]) = false := by rw [hnm]; exact one_ne (by decide)
  have n99 : (nm.toList == [99]) = false := by rw [hnm]; exact one_ne (by decide)
  have n100 : (nm.toList == [100]) = false := by rw [hnm]; exact one_ne (by decide)
  have n68 : (nm.toList == [68]) = false := by rw [hnm]; exact one_ne (by decide)
  have n113 : (nm.toList == [113]) = false := by rw [hnm]; exact one_ne (by decide)
  have n110 : (nm.toList == [110]) = false := by rw [hnm]; exact one_ne (by decide)
  have n78 : (nm.toList == [78]) = false := by rw [hnm]; exact one_ne (by decide)
  have n97 : (nm.toList == [97]) = false := by rw [hnm]; exact one_ne (by decide)
  have n105 : (nm.toList == [105]) = false := by rw [hnm]; exact one_ne (by decide)
  have n61 : (nm.toList == [61]) = false := by rw [hnm]; exact one_ne (by decide)
  have n112 : (nm.toList == [112]) = false := by rw [hnm]; exact one_ne (by decide)
  have n80 : (nm.toList == [80]) = false := by rw [hnm]; exact one_ne (by decide)
  have n115 : (nm.toList == [115]) = false := by rw [hnm]; exact one_ne (by decide)
  have c5 : w.cell? ⟨d, 5, none⟩ = some (.slice (some ⟨g, 0, none⟩) n cap) := by rw [h.ru.c5, hls]
  have HR : Hid (w.rangeAt g (k * 26) (sedA ak an nt nm).toList) := hl.at_ k _ hc
  have x1 : (w.alloc (.cells #[.int .i64 0, .int .i64 0, .int .i64 0, .int .i64 0, .int .i64 0, .string ⟨#[]⟩, .slice none 0 0, .int .i64 0, .int .i64 0, .int .i64 0, .int .i64 0, .int .i64 0, .string ⟨#[]⟩, .slice none 0 0, .bool false, .string ⟨#[]⟩, .string ⟨#[]⟩, .int .i64 0, .int .i64 0, .int .i64 0, .string ⟨#[]⟩, .slice none 0 0, .bool false, .bool false, .int .i64 0, .int .i64 0] 60)).heap[w.heap.size]? = some (.cells #[.int .i64 0, .int .i64 0, .int .i64 0, .int .i64 0, .int .i64 0, .string ⟨#[]⟩, .slice none 0 0, .int .i64 0, .int .i64 0, .int .i64 0, .int .i64 0, .int .i64 0, .string ⟨#[]⟩, .slice none 0 0, .bool false, .string ⟨#[]⟩, .string ⟨#[]⟩, .int .i64 0, .int .i64 0, .int .i64 0, .string ⟨#[]⟩, .slice none 0 0, .bool false, .bool false, .int .i64 0, .int .i64 0] 60 (0, 0)) := heap_alloc_new w _
  have hst := run_storeCells_row (P := Tryz.prog) _ _ 60 _ (sedA ak an nt nm) x1 rfl (one_sed _ _ _ _)
  have x2 := setRow_heap (w.alloc (.cells #[.int .i64 0, .int .i64 0, .int .i64 0, .int .i64 0, .int .i64 0, .string ⟨#[]⟩, .slice none 0 0, .int .i64 0, .int .i64 0, .int .i64 0, .int .i64 0, .int .i64 0, .string ⟨#[]⟩, .slice none 0 0, .bool false, .string ⟨#[]⟩, .string ⟨#[]⟩, .int .i64 0, .int .i64 0, .int .i64 0, .string ⟨#[]⟩, .slice none 0 0, .bool false, .bool false, .int .i64 0, .int .i64 0] 60)) w.heap.size _ (sedA ak an nt nm) 60 (0, 0) x1
  have ba : Below w.heap.size w (w.alloc (.cells #[.int .i64 0, .int .i64 0, .int .i64 0, .int .i64 0, .int .i64 0, .string ⟨#[]⟩, .slice none 0 0, .int .i64 0, .int .i64 0, .int .i64 0, .int .i64 0, .int .i64 0, .string ⟨#[]⟩, .slice none 0 0, .bool false, .string ⟨#[]⟩, .string ⟨#[]⟩, .int .i64 0, .int .i64 0, .int .i64 0, .string ⟨#[]⟩, .slice none 0 0, .bool false, .bool false, .int .i64 0, .int .i64 0] 60)) := more (Below.refl _ _) _
  have b2 : Below w.heap.size w ((w.alloc (.cells #[.int .i64 0, .int .i64 0, .int .i64 0, .int .i64 0, .int .i64 0, .string ⟨#[]⟩, .slice none 0 0, .int .i64 0, .int .i64 0, .int .i64 0, .int .i64 0, .int .i64 0, .string ⟨#[]⟩, .slice none 0 0, .bool false, .string ⟨#[]⟩, .string ⟨#[]⟩, .int .i64 0, .int .i64 0, .int .i64 0, .string ⟨#[]⟩, .slice none 0 0, .bool false, .bool false, .int .i64 0, .int .i64 0] 60)).setRow w.heap.size (sedA ak an nt nm)) := ⟨ba.os, ba.tape, ba.output, by simp [World.setRow], fun j hj => (setRow_other _ _ _ _ (by omega)).trans (ba.block j hj)⟩
  obtain ⟨W2, hW2⟩ : ∃ W2, (w.alloc (.cells #[.int .i64 0, .int .i64 0, .int .i64 0, .int .i64 0, .int .i64 0, .string ⟨#[]⟩, .slice none 0 0, .int .i64 0, .int .i64 0, .int .i64 0, .int .i64 0, .int .i64 0, .string ⟨#[]⟩, .slice none 0 0, .bool false, .string ⟨#[]⟩, .string ⟨#[]⟩, .int .i64 0, .int .i64 0, .int .i64 0, .string ⟨#[]⟩, .slice none 0 0, .bool false, .bool false, .int .i64 0, .int .i64 0] 60)).setRow w.heap.size (sedA ak an nt nm) = W2 := ⟨_, rfl⟩
  rw [hW2] at x2 hst b2
  have c15 : W2.cell? ⟨w.heap.size, 15, none⟩ = some (.string nm) := cell_of x2 rfl
  have HT : Hid (Calls Tryz.prog 133 #[.pointer (some ⟨d, 0, none⟩), .agg (sedA ak an nt nm)] W2 fun e w' => e = .returned (.tuple #[]) ∧ Hid (Rn base d w' { u with pat := u.pat ++ nl ++ u.hold } S ∧ KP base d w w')) := by
    rw [hnm]
    refine (change_G (h.ru.below b2) hs ak an nt).mono ?_
    rintro e w' ⟨rfl, h3, g3⟩
    have g := grown_tr (grown_of (d := d) b2) g3
    exact ⟨rfl, h.grow h3 g rfl h.kp h.ks, KP.grown g h.bz⟩
  have HX2 := hide x2
  have hkI : (k : Int) < (n : Int) := by omega
  clear h hl hc x1 x2 ba b2 hW2 hnm hls
  go_enter Tryz.func97, Tryz.ntmps97
  go_wp2_with (first
    | (refine wpList_load_at rfl _ _ rfl g (k * 26) rfl (sedA ak an nt nm) _ HR.out Tryz.underlying60 rfl (size60 _ _ _ _) ?_)
    | (refine wpList_load_row rfl _ _ rfl w.heap.size rfl 60 _ (0, 0) _ HX2.out Tryz.underlying60 rfl (size60 _ _ _ _) ?_)
    | (go_at_call 133; refine HT.out.mono ?_; rintro e w' ⟨rfl, HF⟩))
  go_ret
  exact ⟨rfl, HF.out⟩
set_option maxRecDepth 20000 in
set_option maxHeartbeats 3200000 in
theorem do_h {base d : Nat} {w : World} {u : U} {S : ByteArray} (h : Rn base d w u S) (g cap n : Nat) (hls : u.ls = .slice (some ⟨g, 0, none⟩) n cap) (cs : List Cm) (hl : Lst w g cap cs) (k : Nat) (ak an : Int) (nt : Bool) (hc : cs[k]? = some ⟨ak, an, nt, ⟨#[104]⟩⟩) (hk : k < n) (hn : n ≤ 60) :
    Calls Tryz.prog 97 #[.pointer (some ⟨d, 0, none⟩), .int .i64 k] w fun e w' => e = .returned (.int .i64 0) ∧ Rn base d w' { u with hold := u.pat } S ∧ KP base d w w' := by
  obtain ⟨nm, hnm⟩ : ∃ nm : ByteArray, nm = ⟨#[104]⟩ := ⟨_, rfl⟩
  rw [← hnm] at hc
  have n98 : (nm.toList == [98]) = false := by rw [hnm]; exact one_ne (by decide)
  have n116 : (nm.toList == [116]) = false := by rw [hnm]; exact one_ne (by decide)
  have n99 : (nm.toList == [99]) = false := by rw [hnm]; exact one_ne (by decide)
  have n100 : (nm.toList == [100]) = false := by rw [hnm]; exact one_ne (by decide)
  have n68 : (nm.toList == [68]) = false := by rw [hnm]; exact one_ne (by decide)
  have n113 : (nm.toList == [113]) = false := by rw [hnm]; exact one_ne (by decide)
  have n110 : (nm.toList == [110]) = false := by rw [hnm]; exact one_ne (by decide)
  have n78 : (nm.toList == [78]) = false := by rw [hnm]; exact one_ne (by decide)
  have n97 : (nm.toList == [97]) = false := by rw [hnm]; exact one_ne (by decide)
  have n105 : (nm.toList == [105]) = false := by rw [hnm]; exact one_ne (by decide)
  have n61 : (nm.toList == [61]) = false := by rw [hnm]; exact one_ne (by decide)
  have n112 : (nm.toList == [112]) = false := by rw [hnm]; exact one_ne (by decide)
  have n80 : (nm.toList == [80]) = false := by rw [hnm]; exact one_ne (by decide)
  have n115 : (nm.toList == [115]) = false := by rw [hnm]; exact one_ne (by decide)
  have c5 : w.cell? ⟨d, 5, none⟩ = some (.slice (some ⟨g, 0, none⟩) n cap) := by rw [h.ru.c5, hls]
  have HR : Hid (w.rangeAt g (k * 26) (sedA ak an nt nm).toList) := hl.at_ k _ hc
  have x1 : (w.alloc (.cells #[.int .i64 0, .int .i64 0, .int .i64 0, .int .i64 0, .int .i64 0, .string ⟨#[]⟩, .slice none 0 0, .int .i64 0, .int .i64 0, .int .i64 0, .int .i64 0, .int .i64 0, .string ⟨#[]⟩, .slice none 0 0, .bool false, .string ⟨#[]⟩, .string ⟨#[]⟩, .int .i64 0, .int .i64 0, .int .i64 0, .string ⟨#[]⟩, .slice none 0 0, .bool false, .bool false, .int .i64 0, .int .i64 0] 60)).heap[w.heap.size]? = some (.cells #[.int .i64 0, .int .i64 0, .int .i64 0, .int .i64 0, .int .i64 0, .string ⟨#[]⟩, .slice none 0 0, .int .i64 0, .int .i64 0, .int .i64 0, .int .i64 0, .int .i64 0, .string ⟨#[]⟩, .slice none 0 0, .bool false, .string ⟨#[]⟩, .string ⟨#[]⟩, .int .i64 0, .int .i64 0, .int .i64 0, .string ⟨#[]⟩, .slice none 0 0, .bool false, .bool false, .int .i64 0, .int .i64 0] 60 (0, 0)) := heap_alloc_new w _
  have hst := run_storeCells_row (P := Tryz.prog) _ _ 60 _ (sedA ak an nt nm) x1 rfl (one_sed _ _ _ _)
  have x2 := setRow_heap (w.alloc (.cells #[.int .i64 0, .int .i64 0, .int .i64 0, .int .i64 0, .int .i64 0, .string ⟨#[]⟩, .slice none 0 0, .int .i64 0, .int .i64 0, .int .i64 0, .int .i64 0, .int .i64 0, .string ⟨#[]⟩, .slice none 0 0, .bool false, .string ⟨#[]⟩, .string ⟨#[]⟩, .int .i64 0, .int .i64 0, .int .i64 0, .string ⟨#[]⟩, .slice none 0 0, .bool false, .bool false, .int .i64 0, .int .i64 0] 60)) w.heap.size _ (sedA ak an nt nm) 60 (0, 0) x1
  have ba : Below w.heap.size w (w.alloc (.cells #[.int .i64 0, .int .i64 0, .int .i64 0, .int .i64 0, .int .i64 0, .string ⟨#[]⟩, .slice none 0 0, .int .i64 0, .int .i64 0, .int .i64 0, .int .i64 0, .int .i64 0, .string ⟨#[]⟩, .slice none 0 0, .bool false, .string ⟨#[]⟩, .string ⟨#[]⟩, .int .i64 0, .int .i64 0, .int .i64 0, .string ⟨#[]⟩, .slice none 0 0, .bool false, .bool false, .int .i64 0, .int .i64 0] 60)) := more (Below.refl _ _) _
  have b2 : Below w.heap.size w ((w.alloc (.cells #[.int .i64 0, .int .i64 0, .int .i64 0, .int .i64 0, .int .i64 0, .string ⟨#[]⟩, .slice none 0 0, .int .i64 0, .int .i64 0, .int .i64 0, .int .i64 0, .int .i64 0, .string ⟨#[]⟩, .slice none 0 0, .bool false, .string ⟨#[]⟩, .string ⟨#[]⟩, .int .i64 0, .int .i64 0, .int .i64 0, .string ⟨#[]⟩, .slice none 0 0, .bool false, .bool false, .int .i64 0, .int .i64 0] 60)).setRow w.heap.size (sedA ak an nt nm)) := ⟨ba.os, ba.tape, ba.output, by simp [World.setRow], fun j hj => (setRow_other _ _ _ _ (by omega)).trans (ba.block j hj)⟩
  obtain ⟨W2, hW2⟩ : ∃ W2, (w.alloc (.cells #[.int .i64 0, .int .i64 0, .int .i64 0, .int .i64 0, .int .i64 0, .string ⟨#[]⟩, .slice none 0 0, .int .i64 0, .int .i64 0, .int .i64 0, .int .i64 0, .int .i64 0, .string ⟨#[]⟩, .slice none 0 0, .bool false, .string ⟨#[]⟩, .string ⟨#[]⟩, .int .i64 0, .int .i64 0, .int .i64 0, .string ⟨#[]⟩, .slice none 0 0, .bool false, .bool false, .int .i64 0, .int .i64 0] 60)).setRow w.heap.size (sedA ak an nt nm) = W2 := ⟨_, rfl⟩
  rw [hW2] at x2 hst b2
  have c15 : W2.cell? ⟨w.heap.size, 15, none⟩ = some (.string nm) := cell_of x2 rfl
  have HT : Hid (Calls Tryz.prog 133 #[.pointer (some ⟨d, 0, none⟩), .agg (sedA ak an nt nm)] W2 fun e w' => e = .returned (.tuple #[]) ∧ Hid (Rn base d w' { u with hold := u.pat } S ∧ KP base d w w')) := by
    rw [hnm]
    refine (change_h (h.ru.below b2) ak an nt).mono ?_
    rintro e w' ⟨rfl, h3, g3⟩
    have g := grown_tr (grown_of (d := d) b2) g3
    exact ⟨rfl, h.grow h3 g rfl h.kp h.ks, KP.grown g h.bz⟩
  have HX2 := hide x2
  have hkI : (k : Int) < (n : Int) := by omega
  clear h hl hc x1 x2 ba b2 hW2 hnm hls
  go_enter Tryz.func97, Tryz.ntmps97
  go_wp2_with (first
    | (refine wpList_load_at rfl _ _ rfl g (k * 26) rfl (sedA ak an nt nm) _ HR.out Tryz.underlying60 rfl (size60 _ _ _ _) ?_)
    | (refine wpList_load_row rfl _ _ rfl w.heap.size rfl 60 _ (0, 0) _ HX2.out Tryz.underlying60 rfl (size60 _ _ _ _) ?_)
    | (go_at_call 133; refine HT.out.mono ?_; rintro e w' ⟨rfl, HF⟩))
  go_ret
  exact ⟨rfl, HF.out⟩
set_option maxRecDepth 20000 in
set_option maxHeartbeats 3200000 in
theorem do_d {base d : Nat} {w : World} {u : U} {S : ByteArray} (h : Rn base d w u S) (g cap n : Nat) (hls : u.ls = .slice (some ⟨g, 0, none⟩) n cap) (cs : List Cm) (hl : Lst w g cap cs) (k : Nat) (ak an : Int) (nt : Bool) (hc : cs[k]? = some ⟨ak, an, nt, ⟨#[100]⟩⟩) (hk : k < n) (hn : n ≤ 60) :
    Calls Tryz.prog 97 #[.pointer (some ⟨d, 0, none⟩), .int .i64 k] w fun e w' => e = .returned (.int .i64 1) ∧ Rn base d w' u S ∧ KP base d w w' := by
  obtain ⟨nm, hnm⟩ : ∃ nm : ByteArray, nm = ⟨#[100]⟩ := ⟨_, rfl⟩
  rw [← hnm] at hc
  have n98 : (nm.toList == [98]) = false := by rw [hnm]; exact one_ne (by decide)
  have n116 : (nm.toList == [116]) = false := by rw [hnm]; exact one_ne (by decide)
  have n99 : (nm.toList == [99]) = false := by rw [hnm]; exact one_ne (by decide)
  have n100 : (nm.toList == [100]) = true := by rw [hnm]; exact one_eq _
  have c5 : w.cell? ⟨d, 5, none⟩ = some (.slice (some ⟨g, 0, none⟩) n cap) := by rw [h.ru.c5, hls]
  have HR : Hid (w.rangeAt g (k * 26) (sedA ak an nt nm).toList) := hl.at_ k _ hc
  have x1 : (w.alloc (.cells #[.int .i64 0, .int .i64 0, .int .i64 0, .int .i64 0, .int .i64 0, .string ⟨#[]⟩, .slice none 0 0, .int .i64 0, .int .i64 0, .int .i64 0, .int .i64 0, .int .i64 0, .string ⟨#[]⟩, .slice none 0 0, .bool false, .string ⟨#[]⟩, .string ⟨#[]⟩, .int .i64 0, .int .i64 0, .int .i64 0, .string ⟨#[]⟩, .slice none 0 0, .bool false, .bool false, .int .i64 0, .int .i64 0] 60)).heap[w.heap.size]? = some (.cells #[.int .i64 0, .int .i64 0, .int .i64 0, .int .i64 0, .int .i64 0, .string ⟨#[]⟩, .slice none 0 0, .int .i64 0, .int .i64 0, .int .i64 0, .int .i64 0, .int .i64 0, .string ⟨#[]⟩, .slice none 0 0, .bool false, .string ⟨#[]⟩, .string ⟨#[]⟩, .int .i64 0, .int .i64 0, .int .i64 0, .string ⟨#[]⟩, .slice none 0 0, .bool false, .bool false, .int .i64 0, .int .i64 0] 60 (0, 0)) := heap_alloc_new w _
  have hst := run_storeCells_row (P := Tryz.prog) _ _ 60 _ (sedA ak an nt nm) x1 rfl (one_sed _ _ _ _)
  have x2 := setRow_heap (w.alloc (.cells #[.int .i64 0, .int .i64 0, .int .i64 0, .int .i64 0, .int .i64 0, .string ⟨#[]⟩, .slice none 0 0, .int .i64 0, .int .i64 0, .int .i64 0, .int .i64 0, .int .i64 0, .string ⟨#[]⟩, .slice none 0 0, .bool false, .string ⟨#[]⟩, .string ⟨#[]⟩, .int .i64 0, .int .i64 0, .int .i64 0, .string ⟨#[]⟩, .slice none 0 0, .bool false, .bool false, .int .i64 0, .int .i64 0] 60)) w.heap.size _ (sedA ak an nt nm) 60 (0, 0) x1
  have ba : Below w.heap.size w (w.alloc (.cells #[.int .i64 0, .int .i64 0, .int .i64 0, .int .i64 0, .int .i64 0, .string ⟨#[]⟩, .slice none 0 0, .int .i64 0, .int .i64 0, .int .i64 0, .int .i64 0, .int .i64 0, .string ⟨#[]⟩, .slice none 0 0, .bool false, .string ⟨#[]⟩, .string ⟨#[]⟩, .int .i64 0, .int .i64 0, .int .i64 0, .string ⟨#[]⟩, .slice none 0 0, .bool false, .bool false, .int .i64 0, .int .i64 0] 60)) := more (Below.refl _ _) _
  have b2 : Below w.heap.size w ((w.alloc (.cells #[.int .i64 0, .int .i64 0, .int .i64 0, .int .i64 0, .int .i64 0, .string ⟨#[]⟩, .slice none 0 0, .int .i64 0, .int .i64 0, .int .i64 0, .int .i64 0, .int .i64 0, .string ⟨#[]⟩, .slice none 0 0, .bool false, .string ⟨#[]⟩, .string ⟨#[]⟩, .int .i64 0, .int .i64 0, .int .i64 0, .string ⟨#[]⟩, .slice none 0 0, .bool false, .bool false, .int .i64 0, .int .i64 0] 60)).setRow w.heap.size (sedA ak an nt nm)) := ⟨ba.os, ba.tape, ba.output, by simp [World.setRow], fun j hj => (setRow_other _ _ _ _ (by omega)).trans (ba.block j hj)⟩
  obtain ⟨W2, hW2⟩ : ∃ W2, (w.alloc (.cells #[.int .i64 0, .int .i64 0, .int .i64 0, .int .i64 0, .int .i64 0, .string ⟨#[]⟩, .slice none 0 0, .int .i64 0, .int .i64 0, .int .i64 0, .int .i64 0, .int .i64 0, .string ⟨#[]⟩, .slice none 0 0, .bool false, .string ⟨#[]⟩, .string ⟨#[]⟩, .int .i64 0, .int .i64 0, .int .i64 0, .string ⟨#[]⟩, .slice none 0 0, .bool false, .bool false, .int .i64 0, .int .i64 0] 60)).setRow w.heap.size (sedA ak an nt nm) = W2 := ⟨_, rfl⟩
  rw [hW2] at x2 hst b2
  have c15 : W2.cell? ⟨w.heap.size, 15, none⟩ = some (.string nm) := cell_of x2 rfl
  have HF : Hid (Rn base d W2 u S ∧ KP base d w W2) := ⟨h.grow (h.ru.below b2) (grown_of b2) rfl h.kp h.ks, KP.grown (grown_of b2) h.bz⟩
  have hkI : (k : Int) < (n : Int) := by omega
  clear h hl hc x1 x2 ba b2 hW2 hnm hls
  go_enter Tryz.func97, Tryz.ntmps97
  go_wp2_with (refine wpList_load_at rfl _ _ rfl g (k * 26) rfl (sedA ak an nt nm) _ HR.out Tryz.underlying60 rfl (size60 _ _ _ _) ?_)
  go_ret
  exact ⟨rfl, HF.out⟩
end Go.Proofs.YtdhachmelgdknaaGreatDoor.run
