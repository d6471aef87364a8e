/- The command p is done; a command is looked at. -/
import Derived.Test.YtdhachmelgdknaaGreatDoorTlp
namespace Go.Proofs.YtdhachmelgdknaaGreatDoor.run
open Go.ChangeShapes Go.WideShapes Go.ChangeAt Go.RowKit
open Go.Proofs.YtdhachmelgdknaaGreatDoor.bas Go.Proofs.YtdhachmelgdknaaGreatDoor.rdr Go.Proofs.YtdhachmelgdknaaGreatDoor.chk
set_option linter.unusedVariables false
set_option maxRecDepth 20000 in
set_option maxHeartbeats 3200000 in
theorem do_p {base d : Nat} {w : World} {u : U} {S : ByteArray} (h : Rn base d w u S) (hsz : S.size + u.pat.size + 1 ≤ 8000) (g cap n : Nat) (hls : u.ls = .slice (some ⟨g, 0, none⟩) n cap) (cs : List Cm) (hl : Lst w g cap cs) (k : Nat) (ak an : Int) (nt : Bool) (hc : cs[k]? = some ⟨ak, an, nt, ⟨#[112]⟩⟩) (hk : k < n) (hn : n ≤ 60) :
    Calls Tryz.prog 97 #[.pointer (some ⟨d, 0, none⟩), .int .i64 k] w fun e w' => e = .returned (.int .i64 0) ∧ (∃ v, Rn base d w' { u with sd := v } (S ++ joinL [u.pat])) ∧ KP base d w w' := by
  obtain ⟨nm, hnm⟩ : ∃ nm : ByteArray, nm = ⟨#[112]⟩ := ⟨_, rfl⟩
  rw [← hnm] at hc
  have n98 : (nm.toList == [98]) = false := by rw [hnm]; exact one_ne (by decide)
  have n116 : (nm.toList == [116]) = false := by rw [hnm]; exact one_ne (by decide)
  have n99 : (nm.toList == [99]) = false := by rw [hnm]; exact one_ne (by decide)
  have n100 : (nm.toList == [100]) = false := by rw [hnm]; exact one_ne (by decide)
  have n68 : (nm.toList == [68]) = false := by rw [hnm]; exact one_ne (by decide)
  have n113 : (nm.toList == [113]) = false := by rw [hnm]; exact one_ne (by decide)
  have n110 : (nm.toList == [110]) = false := by rw [hnm]; exact one_ne (by decide)
  have n78 : (nm.toList == [78]) = false := by rw [hnm]; exact one_ne (by decide)
  have n97 : (nm.toList == [97]) = false := by rw [hnm]; exact one_ne (by decide)
  have n105 : (nm.toList == [105]) = false := by rw [hnm]; exact one_ne (by decide)
  have n61 : (nm.toList == [61]) = false := by rw [hnm]; exact one_ne (by decide)
  have n112 : (nm.toList == [112]) = true := by rw [hnm]; exact one_eq _
  have c5 : w.cell? ⟨d, 5, none⟩ = some (.slice (some ⟨g, 0, none⟩) n cap) := by rw [h.ru.c5, hls]
  have HR : Hid (w.rangeAt g (k * 26) (sedA ak an nt nm).toList) := hl.at_ k _ hc
  have x1 : (w.alloc (.cells #[.int .i64 0, .int .i64 0, .int .i64 0, .int .i64 0, .int .i64 0, .string ⟨#[]⟩, .slice none 0 0, .int .i64 0, .int .i64 0, .int .i64 0, .int .i64 0, .int .i64 0, .string ⟨#[]⟩, .slice none 0 0, .bool false, .string ⟨#[]⟩, .string ⟨#[]⟩, .int .i64 0, .int .i64 0, .int .i64 0, .string ⟨#[]⟩, .slice none 0 0, .bool false, .bool false, .int .i64 0, .int .i64 0] 60)).heap[w.heap.size]? = some (.cells #[.int .i64 0, .int .i64 0, .int .i64 0, .int .i64 0, .int .i64 0, .string ⟨#[]⟩, .slice none 0 0, .int .i64 0, .int .i64 0, .int .i64 0, .int .i64 0, .int .i64 0, .string ⟨#[]⟩, .slice none 0 0, .bool false, .string ⟨#[]⟩, .string ⟨#[]⟩, .int .i64 0, .int .i64 0, .int .i64 0, .string ⟨#[]⟩, .slice none 0 0, .bool false, .bool false, .int .i64 0, .int .i64 0] 60 (0, 0)) := heap_alloc_new w _
  have hst := run_storeCells_row (P := Tryz.prog) _ _ 60 _ (sedA ak an nt nm) x1 rfl (one_sed _ _ _ _)
  have x2 := setRow_heap (w.alloc (.cells #[.int .i64 0, .int .i64 0, .int .i64 0, .int .i64 0, .int .i64 0, .string ⟨#[]⟩, .slice none 0 0, .int .i64 0, .int .i64 0, .int .i64 0, .int .i64 0, .int .i64 0, .string ⟨#[]⟩, .slice none 0 0, .bool false, .string ⟨#[]⟩, .string ⟨#[]⟩, .int .i64 0, .int .i64 0, .int .i64 0, .string ⟨#[]⟩, .slice none 0 0, .bool false, .bool false, .int .i64 0, .int .i64 0] 60)) w.heap.size _ (sedA ak an nt nm) 60 (0, 0) x1
  have ba : Below w.heap.size w (w.alloc (.cells #[.int .i64 0, .int .i64 0, .int .i64 0, .int .i64 0, .int .i64 0, .string ⟨#[]⟩, .slice none 0 0, .int .i64 0, .int .i64 0, .int .i64 0, .int .i64 0, .int .i64 0, .string ⟨#[]⟩, .slice none 0 0, .bool false, .string ⟨#[]⟩, .string ⟨#[]⟩, .int .i64 0, .int .i64 0, .int .i64 0, .string ⟨#[]⟩, .slice none 0 0, .bool false, .bool false, .int .i64 0, .int .i64 0] 60)) := more (Below.refl _ _) _
  have b2 : Below w.heap.size w ((w.alloc (.cells #[.int .i64 0, .int .i64 0, .int .i64 0, .int .i64 0, .int .i64 0, .string ⟨#[]⟩, .slice none 0 0, .int .i64 0, .int .i64 0, .int .i64 0, .int .i64 0, .int .i64 0, .string ⟨#[]⟩, .slice none 0 0, .bool false, .string ⟨#[]⟩, .string ⟨#[]⟩, .int .i64 0, .int .i64 0, .int .i64 0, .string ⟨#[]⟩, .slice none 0 0, .bool false, .bool false, .int .i64 0, .int .i64 0] 60)).setRow w.heap.size (sedA ak an nt nm)) := ⟨ba.os, ba.tape, ba.output, by simp [World.setRow], fun j hj => (setRow_other _ _ _ _ (by omega)).trans (ba.block j hj)⟩
  obtain ⟨W2, hW2⟩ : ∃ W2, (w.alloc (.cells #[.int .i64 0, .int .i64 0, .int .i64 0, .int .i64 0, .int .i64 0, .string ⟨#[]⟩, .slice none 0 0, .int .i64 0, .int .i64 0, .int .i64 0, .int .i64 0, .int .i64 0, .string ⟨#[]⟩, .slice none 0 0, .bool false, .string ⟨#[]⟩, .string ⟨#[]⟩, .int .i64 0, .int .i64 0, .int .i64 0, .string ⟨#[]⟩, .slice none 0 0, .bool false, .bool false, .int .i64 0, .int .i64 0] 60)).setRow w.heap.size (sedA ak an nt nm) = W2 := ⟨_, rfl⟩
  rw [hW2] at x2 hst b2
  have c15 : W2.cell? ⟨w.heap.size, 15, none⟩ = some (.string nm) := cell_of x2 rfl
  have h2 : Rn base d W2 u S := h.grow (h.ru.below b2) (grown_of b2) rfl h.kp h.ks
  have HT : Hid (Calls Tryz.prog 131 #[.pointer (some ⟨d, 0, none⟩), .agg (sedA ak an nt nm)] W2 fun e w' => e = .returned (.tuple #[]) ∧ Hid ((∃ v, Rn base d w' { u with sd := v } (S ++ joinL [u.pat])) ∧ KP base d w w')) := by
    rw [hnm]
    refine (tell_p h2 hsz ak an nt).mono ?_
    rintro e w' ⟨rfl, h3, k3⟩
    exact ⟨rfl, h3, (KP.grown (grown_of b2) h.bz).trans k3⟩
  have HX2 := hide x2
  have hkI : (k : Int) < (n : Int) := by omega
  clear h hl hc x1 x2 ba b2 h2 hW2 hnm hls
  go_enter Tryz.func97, Tryz.ntmps97
  go_wp2_with (first
    | (refine wpList_load_at rfl _ _ rfl g (k * 26) rfl (sedA ak an nt nm) _ HR.out Tryz.underlying60 rfl (size60 _ _ _ _) ?_)
    | (refine wpList_load_row rfl _ _ rfl w.heap.size rfl 60 _ (0, 0) _ HX2.out Tryz.underlying60 rfl (size60 _ _ _ _) ?_)
    | (go_at_call 131; refine HT.out.mono ?_; rintro e w' ⟨rfl, HF⟩))
  go_ret
  exact ⟨rfl, HF.out⟩
end Go.Proofs.YtdhachmelgdknaaGreatDoor.run
