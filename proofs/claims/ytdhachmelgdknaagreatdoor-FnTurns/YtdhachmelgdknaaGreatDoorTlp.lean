/- The command p. -/
import Derived.Test.YtdhachmelgdknaaGreatDoorCyc
namespace Go.Proofs.YtdhachmelgdknaaGreatDoor.run
open Go.ChangeShapes Go.WideShapes Go.ChangeAt Go.RowKit
open Go.Proofs.YtdhachmelgdknaaGreatDoor.bas Go.Proofs.YtdhachmelgdknaaGreatDoor.rdr Go.Proofs.YtdhachmelgdknaaGreatDoor.chk
set_option linter.unusedVariables false
set_option maxHeartbeats 1600000 in
theorem tell_p {base d : Nat} {w : World} {u : U} {S : ByteArray} (h : Rn base d w u S) (hsz : S.size + u.pat.size + 1 ≤ 8000) (ak an : Int) (nt : Bool) :
    Calls Tryz.prog 131 #[.pointer (some ⟨d, 0, none⟩), .agg (sedA ak an nt ⟨#[112]⟩)] w fun e w' => e = .returned (.tuple #[]) ∧ (∃ v, Rn base d w' { u with sd := v } (S ++ joinL [u.pat])) ∧ KP base d w w' := by
  obtain ⟨nm, hnm⟩ : ∃ nm : ByteArray, nm = ⟨#[112]⟩ := ⟨_, rfl⟩
  rw [← hnm]
  have n97 : (nm.toList == [97]) = false := by rw [hnm]; exact one_ne (by decide)
  have n105 : (nm.toList == [105]) = false := by rw [hnm]; exact one_ne (by decide)
  have n61 : (nm.toList == [61]) = false := by rw [hnm]; exact one_ne (by decide)
  have n112 : (nm.toList == [112]) = true := by rw [hnm]; exact one_eq _
  obtain ⟨W0, hW0⟩ : ∃ W0, w.alloc (.cells (sedA ak an nt nm) 60) = W0 := ⟨_, rfl⟩
  have b0 : Below w.heap.size w W0 := by rw [← hW0]; exact more (Below.refl _ _) _
  have x0 : W0.heap[w.heap.size]? = some (.cells (sedA ak an nt nm) 60 (0, 0)) := by rw [← hW0]; exact heap_alloc_new w _
  have h0 : Rn base d W0 u S := h.grow (h.ru.below b0) (grown_of b0) rfl h.kp h.ks
  have c15 : W0.cell? ⟨w.heap.size, 15, none⟩ = some (.string nm) := cell_of x0 rfl
  have c0 := h0.ru.c0
  obtain ⟨W1, hW1⟩ : ∃ W1, W0.drew.alloc (.cells #[.string u.pat] 9) = W1 := ⟨_, rfl⟩
  have b1 : Below W0.heap.size W0 W1 := by rw [← hW1]; exact more (Below.refl _ _).drew _
  have x1 : W1.heap[W0.heap.size]? = some (.cells #[.string u.pat] 9 (0, 0)) := by rw [← hW1]; exact heap_alloc_new W0.drew _
  have h1 : Rn base d W1 u S := h0.grow (h0.ru.below b1) (grown_of b1) rfl h.kp h.ks
  have hd := h0.ru.lt
  have s0 : W0.heap.size = w.heap.size + 1 := by rw [← hW0]; exact World.size_alloc ..
  have HS : Hid (Calls Tryz.prog 98 #[.pointer (some ⟨d, 2, none⟩), .slice (some ⟨W0.heap.size, 0, none⟩) 1 1] W1 fun e w2 => e = .returned (.tuple #[]) ∧ Hid ((∃ v, Rn base d w2 { u with sd := v } (S ++ joinL [u.pat])) ∧ KP base d w w2)) := by
    refine (say_any base W0.heap.size 1 [u.pat] h1.ru h1.sd ?_ _ x1 rfl (by omega) h1.bz (by simp) (by simp) ?_).mono ?_
    · intro k a ha
      cases k with
      | zero =>
        obtain rfl := Option.some.inj ha
        exact cell_of x1 rfl
      | succ k => simp at ha
    · have : (joinL [u.pat]).size = u.pat.size + 1 := by simp [joinL, nl, bas.mt, ByteArray.size_append]; rfl
      omega
    · rintro e w2 ⟨rfl, hy⟩
      obtain ⟨v, h2⟩ := h1.sy hy
      exact ⟨rfl, ⟨v, h2⟩, ((KP.grown (grown_of b0) h.bz).trans (KP.grown (grown_of b1) h0.bz)).trans hy.kp⟩
  rw [s0] at HS
  clear h h0 h1 x0 x1 b0 b1 hnm
  go_enter Tryz.func131, Tryz.ntmps131
  go_wp2_with fail
  (try rw [hW0])
  go_region_law (first | (go_simp; go_at_call 98; (try rw [hW1]); with_reducible (refine HS.out.mono ?_); rintro e w2 ⟨rfl, HF⟩))
  all_goals
    go_wp2
    go_end0
    exact ⟨rfl, HF.out⟩
end Go.Proofs.YtdhachmelgdknaaGreatDoor.run
