/- A disk whose writes are pieces of one row: marked, held. -/
import Derived.Test.YtipcdioolafkpafPieceMarks
namespace Go.Proofs.Ytipcdioolafkpaf.piecedisk
open Go.ChangeShapes Go.WideShapes Go.ChangeAt Go.RowKit
open Go.Proofs.Ytipcdioolafkpaf.bytes Go.Proofs.Ytipcdioolafkpaf.pile Go.Proofs.Ytipcdioolafkpaf.reader Go.Proofs.Ytipcdioolafkpaf.lists Go.Proofs.Ytipcdioolafkpaf.sizes Go.Proofs.Ytipcdioolafkpaf.marked Go.Proofs.Ytipcdioolafkpaf.disks Go.Proofs.Ytipcdioolafkpaf.crashes Go.Proofs.Ytipcdioolafkpaf.acts Go.Proofs.Ytipcdioolafkpaf.diskof Go.Proofs.Ytipcdioolafkpaf.beside Go.Proofs.Ytipcdioolafkpaf.doside Go.Proofs.Ytipcdioolafkpaf.implrun Go.Proofs.Ytipcdioolafkpaf.pieces Go.Proofs.Ytipcdioolafkpaf.piecemarks
set_option linter.unusedVariables false

theorem drop_next (cs : List (List Int)) {k : Nat} (h : k < cs.length) : (cs.drop k).flatten = cs.getD k [] ++ (cs.drop (k + 1)).flatten := by
  have e : cs.getD k [] = cs[k] := by simp [List.getD_eq_getElem?_getD, h]
  rw [List.drop_eq_getElem_cons h, List.flatten_cons, e]
theorem piece_get (ao : Option Addr) (n : Nat) (cs : List (List Int)) {k : Nat} (h : k < cs.length) : (piecesV ao n cs cs.length).getD k (.slice none 0 0) = pieceV ao (n + sizeTo cs k) (n + sizeTo cs (k + 1)) := by simp [piecesV, List.getD_eq_getElem?_getD, h]
theorem row_rd {w : World} {base : Nat} {v : Value} {us : List Value} {n : Nat} (h : w.ownsRow base 22 1 v n us) (hn : us.length = n) : RdS w v us := by
  subst hn
  exact row_rdS h

set_option maxHeartbeats 1000000 in
theorem marksPieces (w : World) (base : Nat) (ao : Option Addr) (ca n : Nat) (pv : Value) (cs : List (List Int)) (q : Int) (h0 : 0 ≤ q) (hq : q + n + cs.flatten.length ≤ 4611686018427387904)
    (hp : w.ownsRow base 22 1 pv cs.length (piecesV ao n cs cs.length)) (ha : Own w base (.slice ao (n + cs.flatten.length) ca) (marks q n ++ cs.flatten)) :
    Calls Try.prog 20 #[pv, .int .i64 (q + n)] w fun e w' => e = .returned (.int .i64 (q + n + cs.flatten.length)) ∧ Own w' base (.slice ao (n + cs.flatten.length) ca) (marks q (n + cs.flatten.length)) ∧ w'.ownsRow base 22 1 pv cs.length (piecesV ao n cs cs.length) ∧ w.grownBy w' (Value.slice ao (n + cs.flatten.length) ca).ownBlock := by
  have HP : Hid (w.ownsRow base 22 1 pv cs.length (piecesV ao n cs cs.length)) := hp
  obtain ⟨T, hT⟩ : ∃ T, T = cs.flatten.length := ⟨_, rfl⟩
  have HT : Hid (T = cs.flatten.length) := hT
  rw [← hT] at hq ha ⊢
  have HA : Hid (Own w base (.slice ao (n + T) ca) (marks q n ++ cs.flatten)) := ha
  obtain ⟨po, pc, hpv, hp1, hp2, hp3⟩ := row_rd hp (piecesV_length _ _ _ _)
  rw [piecesV_length] at hpv hp1 hp3
  subst hpv
  unfold maxLen at hp2
  clear hp ha hT
  go_enter Try.func20, Try.ntmps20
  go_wp2
  go_loopw [1, 5] (fun q' i wr => ∃ k : Nat, k ≤ cs.length ∧ i = .int .i64 k ∧ q' = .int .i64 (q + n + sizeTo cs k) ∧ Hid (Own wr base (.slice ao (n + T) ca) (marks q (n + sizeTo cs k) ++ (cs.drop k).flatten) ∧ wr.ownsRow base 22 1 (.slice po cs.length pc) cs.length (piecesV ao n cs cs.length) ∧ w.grownBy wr (Value.slice ao (n + T) ca).ownBlock)) (fun _ i _ => cs.length - (intOf i).toNat)
  case atStart => exact ⟨0, by omega, rfl, by simp [sizeTo], hide ⟨by simpa [sizeTo] using HA.out, HP.out, World.grownBy.refl _ _⟩⟩
  case round =>
    obtain ⟨k, hk, rfl, rfl, HR⟩ := hrel
    by_cases hlt : k < cs.length
    · obtain ⟨pb, poff, hpo, _⟩ := hp3 (by omega)
      have hrow := HR.out.2.1
      obtain ⟨po2, pc2, e2, _, _, h5⟩ := row_rd hrow (piecesV_length _ _ _ _)
      rw [piecesV_length] at e2 h5
      simp only [Value.slice.injEq, true_and] at e2
      obtain ⟨rfl, rfl⟩ := e2
      obtain ⟨pb2, poff2, hpo2, hcc⟩ := h5 (by omega)
      rw [hpo] at hpo2
      simp only [Option.some.injEq, Addr.mk.injEq, and_true] at hpo2
      obtain ⟨rfl, rfl⟩ := hpo2
      subst hpo
      have hc := hcc k hlt
      rw [piece_get ao n cs hlt] at hc
      have hs1 := sizeTo_succ (xss := cs) (k := k) hlt
      have hs2 := sizeTo_le cs (k + 1)
      rw [← HT.out] at hs2
      have hEq : marks q (n + sizeTo cs k) ++ (cs.drop k).flatten = marks q (n + sizeTo cs k) ++ cs.getD k [] ++ (cs.drop (k + 1)).flatten := by rw [drop_next cs hlt, List.append_assoc]
      have hO := HR.out.1
      rw [hEq] at hO
      have hLn : (marks q (n + sizeTo cs k) ++ cs.getD k [] ++ (cs.drop (k + 1)).flatten).length = n + T := by
        obtain ⟨_, _, e, _⟩ := hO.rd
        simp only [Value.slice.injEq] at e
        exact e.2.1.symm
      rw [← hLn] at hO
      have hbd : q + (n : Int) + (sizeTo cs k : Nat) + (cs.getD k []).length ≤ 4611686018427387904 := by omega
      have hM := markPart wr base ao ca (q + n + (sizeTo cs k : Nat)) (marks q (n + sizeTo cs k)) (cs.getD k []) (cs.drop (k + 1)).flatten (by omega) hbd hO
      rw [hLn, marks_length, show n + sizeTo cs k + (cs.getD k []).length = n + sizeTo cs (k + 1) by omega, show q + (n : Int) + (sizeTo cs k : Nat) = q + ((n + sizeTo cs k : Nat) : Int) by omega, marks_append, show n + sizeTo cs k + (cs.getD k []).length = n + sizeTo cs (k + 1) by omega] at hM
      have HNext : Hid (∀ w2, Own w2 base (.slice ao (n + T) ca) (marks q (n + sizeTo cs (k + 1)) ++ (cs.drop (k + 1)).flatten) → wr.grownBy w2 (Value.slice ao (n + T) ca).ownBlock → Own w2 base (.slice ao (n + T) ca) (marks q (n + sizeTo cs (k + 1)) ++ (cs.drop (k + 1)).flatten) ∧ w2.ownsRow base 22 1 (.slice (some ⟨pb, poff, none⟩) cs.length pc) cs.length (piecesV ao n cs cs.length) ∧ w.grownBy w2 (Value.slice ao (n + T) ca).ownBlock) := fun w2 hO2 hg2 => by
        have hO' := HR.out.1
        exact ⟨hO2, World.ownsRow.kept HR.out.2.1 hg2 (row_ne' hO' HR.out.2.1), grown_trans HR.out.2.2 hg2⟩
      have HM := hide hM
      have HS1 : Hid (sizeTo cs (k + 1) = sizeTo cs k + (cs.getD k []).length) := hs1
      clear hM hO hLn hEq hcc h5 hrow HR hp3
      generalize (cs.getD k []).length = L at HM HS1 hbd hs1
      obtain ⟨S, hS⟩ : ∃ S, S = sizeTo cs k := ⟨_, rfl⟩
      obtain ⟨S1, hS1⟩ : ∃ S1, S1 = sizeTo cs (k + 1) := ⟨_, rfl⟩
      rw [← hS1] at hc HM HNext HS1 hs2
      rw [← hS] at hc HM HS1 hbd ⊢
      have HSS : Hid (S1 = sizeTo cs (k + 1)) := hS1
      clear hS hS1 hs1
      have hcast : q + ((n + S : Nat) : Int) = q + (n : Int) + (S : Int) := by omega
      rw [hcast] at HM
      clear hcast
      obtain ⟨pvk, hpvk⟩ : ∃ x, x = pieceV ao (n + S) (n + S1) := ⟨_, rfl⟩
      rw [← hpvk] at hc HM
      clear hpvk
      go_wp2_with fail
      refine HM.out.mono ?_
      rintro e w2 ⟨rfl, O2, g2⟩
      have HN := hide (HNext.out w2 O2 g2)
      clear O2 g2 HM HNext hc
      go_wp2
      go_roundw
      case rel => exact ⟨k + 1, by omega, by go_num, by rw [← HSS.out]; have := HS1.out; first | rfl | (congr 1; omega), by rw [← HSS.out]; exact HN⟩
      case measure => simp [intOf]; omega
    · obtain rfl : k = cs.length := by omega
      have hST : sizeTo cs cs.length = T := by rw [HT.out]; unfold sizeTo; rw [List.take_length]
      rw [hST]
      have HF := HR.out
      rw [hST, List.drop_length, List.flatten_nil, List.append_nil] at HF
      have HF' := hide HF
      clear HF HR hST
      go_wp2
      go_ret
      exact ⟨rfl, HF'.out⟩

set_option maxHeartbeats 1000000 in
theorem heldsPieces (w : World) (ao : Option Addr) (ca n : Nat) (pv : Value) (cs : List (List Int)) (q : Int) (h0 : 0 ≤ q) (hq : q + n + cs.flatten.length ≤ 4611686018427387904)
    (hp : RdS w pv (piecesV ao n cs cs.length)) (ha : RdA w (.slice ao (n + cs.flatten.length) ca) (marks q (n + cs.flatten.length))) :
    Calls Try.prog 21 #[pv, .int .i64 (q + n)] w fun e w' => e = .returned (.int .i64 (q + n + cs.flatten.length)) ∧ w' = w := by
  obtain ⟨T, hT⟩ : ∃ T, T = cs.flatten.length := ⟨_, rfl⟩
  have HT : Hid (T = cs.flatten.length) := hT
  rw [← hT] at hq ha ⊢
  have HA : Hid (RdA w (.slice ao (n + T) ca) (marks q (n + T))) := ha
  obtain ⟨po, pc, hpv, hp1, hp2, hp3⟩ := hp
  rw [piecesV_length] at hpv hp1 hp3
  subst hpv
  unfold maxLen at hp2
  clear ha hT
  go_enter Try.func21, Try.ntmps21
  go_wp2
  go_loop [1, 5] (fun q' i => ∃ k : Nat, k ≤ cs.length ∧ i = .int .i64 k ∧ q' = .int .i64 (q + n + sizeTo cs k)) (fun _ i => cs.length - (intOf i).toNat)
  case atStart => exact ⟨0, by omega, rfl, by simp [sizeTo]⟩
  case round =>
    obtain ⟨k, hk, rfl, rfl⟩ := hrel
    by_cases hlt : k < cs.length
    · obtain ⟨pb, poff, rfl, hcc⟩ := hp3 (by omega)
      have hc := hcc k hlt
      rw [piece_get ao n cs hlt] at hc
      have hs1 := sizeTo_succ (xss := cs) (k := k) hlt
      have hs2 := sizeTo_le cs (k + 1)
      rw [← HT.out] at hs2
      have hA : RdA w (.slice ao (marks q (n + T)).length ca) (marks q (n + T)) := by rw [marks_length]; exact HA.out
      have hP := piece_rd hA (b := n + sizeTo cs k) (e := n + sizeTo cs (k + 1)) (by omega) (by rw [marks_length]; omega)
      rw [marks_cut q (n + T) (n + sizeTo cs k) (n + sizeTo cs (k + 1)) (by omega) (by omega), show n + sizeTo cs (k + 1) - (n + sizeTo cs k) = (cs.getD k []).length by omega] at hP
      have HM := hide (held_same w _ (q + ((n + sizeTo cs k : Nat) : Int)) (cs.getD k []).length (by omega) (by omega) hP.1)
      have HS1 : Hid (sizeTo cs (k + 1) = sizeTo cs k + (cs.getD k []).length) := hs1
      have hbd : q + (n : Int) + (sizeTo cs k : Nat) + (cs.getD k []).length ≤ 4611686018427387904 := by omega
      clear hA hP hcc hp3
      generalize (cs.getD k []).length = L at HM HS1 hbd hs1
      obtain ⟨S, hS⟩ : ∃ S, S = sizeTo cs k := ⟨_, rfl⟩
      obtain ⟨S1, hS1⟩ : ∃ S1, S1 = sizeTo cs (k + 1) := ⟨_, rfl⟩
      rw [← hS1] at hc HM HS1 hs2
      rw [← hS] at hc HM HS1 hbd ⊢
      have HSS : Hid (S1 = sizeTo cs (k + 1)) := hS1
      clear hS hS1 hs1
      have hcast : q + ((n + S : Nat) : Int) = q + (n : Int) + (S : Int) := by omega
      rw [hcast] at HM
      clear hcast
      have hneg : ¬ q + (n : Int) + (S : Int) + (L : Int) < 0 := by omega
      obtain ⟨pvk, hpvk⟩ : ∃ x, x = pieceV ao (n + S) (n + S1) := ⟨_, rfl⟩
      rw [← hpvk] at hc HM
      clear hpvk
      go_wp2_with fail
      refine HM.out.mono ?_
      rintro e w2 ⟨rfl, rfl⟩
      go_wp2
      go_round
      case rel => exact ⟨k + 1, by omega, by go_num, by rw [← HSS.out]; have := HS1.out; first | rfl | (congr 1; omega)⟩
      case measure => simp [intOf]; omega
    · obtain rfl : k = cs.length := by omega
      have hST : sizeTo cs cs.length = T := by rw [HT.out]; unfold sizeTo; rw [List.take_length]
      rw [hST]
      go_wp2
      go_ret
      exact ⟨rfl, rfl⟩
end Go.Proofs.Ytipcdioolafkpaf.piecedisk
