/- A leader commits. -/
import Derived.Test.YtklkglbimjajnaaLookc
namespace Go.Proofs.Ytklkglbimjajnaa.commit
open Go.ChangeShapes Go.WideShapes Go.ChangeAt Go.RowKit
open Go.Proofs.Ytklkglbimjajnaa.Raft Go.Proofs.Ytklkglbimjajnaa.mem Go.Proofs.Ytklkglbimjajnaa.grp Go.Proofs.Ytklkglbimjajnaa.look Go.Proofs.Ytklkglbimjajnaa.ndw Go.Proofs.Ytklkglbimjajnaa.grant Go.Proofs.Ytklkglbimjajnaa.post Go.Proofs.Ytklkglbimjajnaa.postb Go.Proofs.Ytklkglbimjajnaa.lookb Go.Proofs.Ytklkglbimjajnaa.lookc
set_option linter.unusedVariables false

theorem LDid.did {M : Fz} {O : Lb} {w w' : World} {d : Nat} {nb : List Nat} {c' : Cl} (h : LDid M O w d nb c' w') : Did M O w d nb c' w' := by
  obtain ⟨M', O', a, g⟩ := h
  exact ⟨M', O', a.mono (fun _ _ => trivial), g⟩
theorem put_at (c : Cl) (k : Nat) (h : k < c.peers.length) : c.put k (c.at k) = c := by
  have e : c.peers[k]? = some (c.at k) := by rw [Cl.at, List.getD_eq_getElem?_getD, List.getElem?_eq_getElem h]; rfl
  unfold Cl.put
  rw [show c.peers.set k (c.at k) = c.peers from by
    apply List.ext_getElem?
    intro i
    by_cases hi : i = k
    · subst hi; rw [List.getElem?_set_self h, e]
    · rw [List.getElem?_set_ne (Ne.symm hi)]]
theorem reach_le (p : Peer) (n : Nat) (h : p.commit ≤ p.log.length) : reach p n p.log.length ≤ p.log.length := by
  rcases reach_spec p n p.log.length with h1 | h1
  · omega
  · exact h1.2.1

set_option maxRecDepth 20000 in
set_option maxHeartbeats 1000000 in
theorem commits_any (w : World) (M : Fz) (O : Lb) (d : Nat) (nb : List Nat) (c : Cl) (h : G w M O d nb c) (k b : Nat) (hb : nb[k]? = some b) (h1 : 1 ≤ c.peers.length) (h7 : c.peers.length ≤ 7) (hm7 : (c.at k).mat.length ≤ 7) (hcm : (c.at k).commit ≤ (c.at k).log.length) (hl : (c.at k).log.length ≤ 1000) (hch : c.chosen.length ≤ 1000) :
    Calls Try.prog 140 #[.pointer (some ⟨d, 0, none⟩), .pointer (some ⟨b, 0, none⟩)] w fun r w' => r = .returned (.tuple #[]) ∧ Did M O w d nb (c.commits k) w' := by
  have st := h.sta
  have hkl : k < c.peers.length := by have := (List.getElem?_eq_some_iff.1 hb).1; have := h.len; omega
  have hnode := h.at hb
  obtain ⟨us, lv, vv, nv, mv, hn⟩ := id hnode
  obtain ⟨⟨c0, _, _, _, _, c5, _⟩, ⟨_, _, _, _, _, f5, _⟩⟩ := Nd.cs hn
  obtain ⟨p, hp⟩ : ∃ p, p = c.at k := ⟨_, rfl⟩
  rw [← hp] at hnode hn c0 c5 hm7 hcm hl
  obtain ⟨R, hR⟩ : ∃ R, R = reach p c.peers.length p.log.length := ⟨_, rfl⟩
  have hRl : R ≤ p.log.length := by rw [hR]; exact reach_le p _ hcm
  obtain ⟨c1, hc1⟩ : ∃ c1, c1 = c.put k { p with commit := R } := ⟨_, rfl⟩
  have hcc : c.commits k = c1.note k := by rw [hc1]; unfold Cl.commits; simp only [← hp, ← hR]
  rw [hcc]
  have hc1k : c1.at k = { p with commit := R } := by rw [hc1]; exact at_put c k _ hkl
  have HLast := hide (last_any w M O b k p hnode)
  have HT : Hid (∀ (wx : World) (i : Nat), Below w.heap.size w wx → i ≤ p.log.length → Calls Try.prog 148 #[.pointer (some ⟨b, 0, none⟩), .int .i64 i] wx fun r w' => r = .returned (.int .i64 (termAt p.log i : Nat)) ∧ w' = wx) := fun wx i hx hi => term_any _ M O b k p (Nod.below st hnode hx) i hi
  have HRc : Hid (∀ (wx : World) (i : Nat), Below w.heap.size w wx → Calls Try.prog 154 #[.pointer (some ⟨b, 0, none⟩), .int .i64 i] wx fun r w' => r = .returned (.int .i64 (p.mat.countP (fun m => decide (i ≤ m)) : Nat)) ∧ w' = wx) := fun wx i hx => reaching_any _ M O b k p (Nod.below st hnode hx) hm7 i
  have HMo : Hid (∀ (wx : World), Below w.heap.size w wx → Calls Try.prog 152 #[.pointer (some ⟨d, 0, none⟩)] wx fun r w' => r = .returned (.int .i64 (most c.peers.length : Nat)) ∧ w' = wx) := fun wx hx => most_any _ M O d nb c (h.below hx) h1 h7
  have HLk : Hid (∀ wx, Did M O w d nb c1 wx → Calls Try.prog 147 #[.pointer (some ⟨d, 0, none⟩), .pointer (some ⟨b, 0, none⟩)] wx fun r w' => r = .returned (.tuple #[]) ∧ Did M O w d nb (c1.note k) w') := fun wx hx => by
    obtain ⟨M', O', a, g⟩ := hx
    refine (look_any wx M' O' d nb c1 g k b hb (by rw [hc1k]; exact hRl) (by rw [hc1k]; exact hl) (by rw [hc1]; exact hch)).mono ?_
    rintro r w' ⟨rfl, hd⟩
    exact ⟨rfl, Did.trans a (LDid.did hd)⟩
  have HSame : Hid (R = p.commit → ∀ wx, Below w.heap.size w wx → Did M O w d nb c1 wx) := fun e wx hx => by
    have e1 : c1 = c := by rw [hc1, e]; show c.put k p = c; rw [hp]; exact put_at c k hkl
    rw [e1]
    exact ⟨M, O, (Aft.refl _ st).below hx, h.below hx⟩
  have HSet : Hid (∀ wx, Below w.heap.size w wx → Did M O w d nb c1 (wx.setCell ⟨b, 5, none⟩ (.int .i64 R))) := fun wx hx => by
    have h2 := NDid.sets st hn hx [(5, .int .i64 R)] { p with commit := R } vv nv mv rfl rfl (.inl ⟨rfl, rfl⟩) (.inl ⟨rfl, rfl⟩) (.inl ⟨rfl, rfl⟩)
    have h3 := NDid.lift h2 h hb
    rw [← hc1] at h3
    exact h3
  have HCs : Hid (∀ wx, Below w.heap.size w wx → wx.cell? ⟨b, 0, none⟩ = some (.int .i64 p.term) ∧ wx.cell? ⟨b, 5, none⟩ = some (.int .i64 p.commit) ∧ wx.frozen? ⟨b, 5, none⟩ = false) := fun wx hx => by
    obtain ⟨_, _, _, _, _, hn'⟩ := Nod.below st hnode hx
    exact ⟨(Nd.cs hn').1.1, (Nd.cs hn').1.2.2.2.2.2.1, (Nd.cs hn').2.2.2.2.2.2.1⟩
  have HR0 : Hid (reach p c.peers.length p.log.length = R) := hR.symm
  obtain ⟨L, hL⟩ : ∃ L, L = p.log.length := ⟨_, rfl⟩
  rw [← hL] at HLast HT hl hcm HR0
  have hLI : (L : Int) ≤ 1000 := by omega
  have hcmI : (p.commit : Int) ≤ L := by omega
  clear c0 c5 f5 hn hnode st h hc1k hcc hc1 hRl hR hp hL hm7
  obtain ⟨c0, c5, f5⟩ := HCs.out w (Below.refl _ _)
  go_enter Try.func140, Try.ntmps140
  go_wp2_with (go_at_call 138; refine HLast.out.mono ?_; rintro rr w' ⟨rfl, hw'⟩; have hw2 := hw'.symm; subst hw2; clear hw')
  go_loopw [4] (fun iv wr => ∃ i : Nat, i ≤ L ∧ iv = .int .i64 i ∧ Hid (Below w.heap.size w wr) ∧ Hid (reach p c.peers.length i = R)) (fun iv _ => (intOf iv).toNat)
  case atStart => exact ⟨L, Nat.le_refl _, rfl, hide (Below.refl _ _), HR0⟩
  case round =>
    obtain ⟨i, hi, rfl, HBr, HI⟩ := hrel
    obtain ⟨x0, x5, y5⟩ := HCs.out wr HBr.out
    have HBq : Hid (∀ m, Below w.heap.size w (wr.drewN m)) := fun m => ⟨HBr.out.os, HBr.out.tape, HBr.out.output, HBr.out.size, HBr.out.block⟩
    by_cases hgt : p.commit < i
    · have hgtI : (p.commit : Int) < i := by omega
      obtain ⟨j, rfl⟩ : ∃ j, i = j + 1 := ⟨i - 1, by omega⟩
      have hst : reach p c.peers.length (j + 1) = if most c.peers.length ≤ p.mat.countP (fun m => decide (j + 1 ≤ m)) ∧ termAt p.log (j + 1) = p.term then j + 1 else reach p c.peers.length j := by
        rw [reach, if_neg (by omega)]
      have HTj : Hid (∀ m, Calls Try.prog 148 #[.pointer (some ⟨b, 0, none⟩), .int .i64 ((j : Int) + 1)] (wr.drewN m) fun r w' => r = .returned (.int .i64 (termAt p.log (j + 1) : Nat)) ∧ w' = wr.drewN m) := fun m => HT.out _ (j + 1) (HBq.out m) hi
      have HRj : Hid (∀ m, Calls Try.prog 154 #[.pointer (some ⟨b, 0, none⟩), .int .i64 ((j : Int) + 1)] (wr.drewN m) fun r w' => r = .returned (.int .i64 (p.mat.countP (fun m => decide (j + 1 ≤ m)) : Nat)) ∧ w' = wr.drewN m) := fun m => HRc.out _ (j + 1) (HBq.out m)
      have HMj : Hid (∀ m, Calls Try.prog 152 #[.pointer (some ⟨d, 0, none⟩)] (wr.drewN m) fun r w' => r = .returned (.int .i64 (most c.peers.length : Nat)) ∧ w' = wr.drewN m) := fun m => HMo.out _ (HBq.out m)
      have HRs : Hid (reach p c.peers.length (j + 1) = R) := HI
      generalize hTT : termAt p.log (j + 1) = T at *
      generalize hCC : p.mat.countP (fun m => decide (j + 1 ≤ m)) = K at *
      generalize hMM : most c.peers.length = mo at *
      have hrw : ((j + 1 : Nat) : Int) = (j : Int) + 1 := by omega
      rw [hrw] at hgtI ⊢
      by_cases ht : T = p.term
      · by_cases hk : mo ≤ K
        · have e1 : ((T : Int) == (p.term : Int)) = true := by simp; omega
          have hkI : (mo : Int) ≤ K := by omega
          have hRe : j + 1 = R := by rw [← HRs.out, hst, if_pos ⟨hk, ht⟩]
          have HLq := hide (fun m => HLk.out _ (HSet.out (wr.drewN m) (HBq.out m)))
          rw [← hRe] at HLq
          clear HI hst HRs ht hk
          go_wp2
          go_quiet (first | (go_at_call 148; with_reducible (refine Calls.quiet_of_same (HTj.out _))) | (go_at_call 154; with_reducible (refine Calls.quiet_of_same (HRj.out _))) | (go_at_call 152; with_reducible (refine Calls.quiet_of_same (HMj.out _))))
          go_wp2_with (go_at_call 147; refine (HLq.out _).mono ?_; rintro rr w2 ⟨rfl, hd2⟩; have HD2 := hide hd2; clear hd2)
          go_end0
          exact ⟨rfl, HD2.out⟩
        · have e1 : ((T : Int) == (p.term : Int)) = true := by simp; omega
          have hkI : ¬ (mo : Int) ≤ K := by omega
          have HRe : Hid (reach p c.peers.length j = R) := by
            unfold Hid
            rw [← HRs.out, hst, if_neg (fun h => hk h.1)]
          clear HI hst HRs ht hk
          go_wp2
          go_quiet (first | (go_at_call 148; with_reducible (refine Calls.quiet_of_same (HTj.out _))) | (go_at_call 154; with_reducible (refine Calls.quiet_of_same (HRj.out _))) | (go_at_call 152; with_reducible (refine Calls.quiet_of_same (HMj.out _))))
          go_wp2
          go_roundw
          case rel => exact ⟨j, by omega, by first | rfl | go_num, hide (HBq.out _), HRe⟩
          case measure => (simp [intOf]; try omega)
      · have e1 : ((T : Int) == (p.term : Int)) = false := by simp; omega
        have HRe : Hid (reach p c.peers.length j = R) := by
          unfold Hid
          rw [← HRs.out, hst, if_neg (fun h => ht h.2)]
        clear HI hst HRs ht
        go_wp2
        go_quiet (first | (go_at_call 148; with_reducible (refine Calls.quiet_of_same (HTj.out _))) | (go_at_call 154; with_reducible (refine Calls.quiet_of_same (HRj.out _))) | (go_at_call 152; with_reducible (refine Calls.quiet_of_same (HMj.out _))))
        go_wp2
        go_roundw
        case rel => exact ⟨j, by omega, by first | rfl | go_num, hide (HBq.out _), HRe⟩
        case measure => (simp [intOf]; try omega)
    · have hgtI : ¬ (p.commit : Int) < i := by omega
      have hRe : R = p.commit := by
        have := HI.out
        cases i with
        | zero => exact this.symm
        | succ i => rw [reach, if_pos (by omega)] at this; exact this.symm
      have HLq := hide (HLk.out _ (HSame.out hRe wr HBr.out))
      clear HI
      go_wp2_with (go_at_call 147; refine HLq.out.mono ?_; rintro rr w2 ⟨rfl, hd2⟩; have HD2 := hide hd2; clear hd2)
      go_end0
      exact ⟨rfl, HD2.out⟩
end Go.Proofs.Ytklkglbimjajnaa.commit
