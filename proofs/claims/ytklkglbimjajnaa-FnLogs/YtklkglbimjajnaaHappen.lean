/- An event happens. -/
import Derived.Test.YtklkglbimjajnaaOnmsg
import Derived.Test.YtklkglbimjajnaaOnpeer
namespace Go.Proofs.Ytklkglbimjajnaa.happen
open Go.ChangeShapes Go.WideShapes Go.ChangeAt Go.RowKit
open Go.Proofs.Ytklkglbimjajnaa.Raft Go.Proofs.Ytklkglbimjajnaa.mem Go.Proofs.Ytklkglbimjajnaa.grp Go.Proofs.Ytklkglbimjajnaa.look Go.Proofs.Ytklkglbimjajnaa.ndw Go.Proofs.Ytklkglbimjajnaa.grant Go.Proofs.Ytklkglbimjajnaa.stand Go.Proofs.Ytklkglbimjajnaa.lead Go.Proofs.Ytklkglbimjajnaa.rows2 Go.Proofs.Ytklkglbimjajnaa.post Go.Proofs.Ytklkglbimjajnaa.postb Go.Proofs.Ytklkglbimjajnaa.say Go.Proofs.Ytklkglbimjajnaa.lookb Go.Proofs.Ytklkglbimjajnaa.lookc Go.Proofs.Ytklkglbimjajnaa.commit Go.Proofs.Ytklkglbimjajnaa.too Go.Proofs.Ytklkglbimjajnaa.elect Go.Proofs.Ytklkglbimjajnaa.tick Go.Proofs.Ytklkglbimjajnaa.vote Go.Proofs.Ytklkglbimjajnaa.arrive Go.Proofs.Ytklkglbimjajnaa.deliv Go.Proofs.Ytklkglbimjajnaa.prop Go.Proofs.Ytklkglbimjajnaa.onmsg Go.Proofs.Ytklkglbimjajnaa.onpeer
set_option linter.unusedVariables false

theorem msg_any (w : World) (M : Fz) (O : Lb) (d : Nat) (nb : List Nat) (c : Cl) (h : G w M O d nb c) (n : Nat) (h1 : 1 ≤ n) (h7 : n ≤ 7) (hg : Go.Proofs.Ytklkglbimjajnaa.Raft.Good n c) (e : Ev) (hk : e.kind = 2 ∨ e.kind = 3 ∨ e.kind = 4) (eo : Option Addr) (el ec : Nat) :
    Calls Try.prog 44 #[.pointer (some ⟨d, 0, none⟩), .agg #[.int .i64 e.kind, .int .i64 e.n, .slice eo el ec]] w fun r w' => r = .returned (.int .i64 (c.event e).2) ∧ Did M O w d nb (c.event e).1 w' := by
  obtain ⟨hB, hC, s, hR⟩ := hg
  unfold Cl.event
  rw [if_pos hk]
  by_cases hN : e.n < 0 ∨ (c.net.length : Int) ≤ e.n
  · rw [if_pos hN]
    exact onMsg_none w M O d nb c h e.kind e.n hN eo el ec
  · rw [if_neg hN]
    obtain ⟨N, hN2⟩ : ∃ N : Nat, e.n = (N : Int) := ⟨e.n.toNat, by omega⟩
    have hlt : N < c.net.length := by omega
    obtain ⟨m, hm⟩ : ∃ m, c.net[N]? = some m := ⟨_, List.getElem?_eq_getElem hlt⟩
    have ht : e.n.toNat = N := by omega
    rw [ht, hm, hN2]
    dsimp only
    rcases hk with hk | hk | hk
    · rw [if_pos hk, hk]
      exact onMsg_2 w M O d nb c h n h1 h7 s hR hC hB N m hm eo el ec
    · rw [if_neg (by omega), if_pos hk, hk]
      exact onMsg_3 w M O d nb c h hB N m hm eo el ec
    · rw [if_neg (by omega), if_neg (by omega), hk]
      exact onMsg_4 w M O d nb c h hB N m hm eo el ec

theorem peer_any (w : World) (M : Fz) (O : Lb) (d : Nat) (nb : List Nat) (c : Cl) (h : G w M O d nb c) (n : Nat) (h1 : 1 ≤ n) (h7 : n ≤ 7) (hg : Go.Proofs.Ytklkglbimjajnaa.Raft.Good n c) (e : Ev) (hk : e.kind = 1 ∨ e.kind = 5 ∨ e.kind = 6 ∨ e.kind = 7) (eo : Option Addr) (el ec : Nat) (hd : BytesM M (.slice eo el ec) e.data) :
    Calls Try.prog 45 #[.pointer (some ⟨d, 0, none⟩), .agg #[.int .i64 e.kind, .int .i64 e.n, .slice eo el ec]] w fun r w' => r = .returned (.int .i64 (c.event e).2) ∧ Did M O w d nb (c.event e).1 w' := by
  obtain ⟨hB, hC, s, hR⟩ := hg
  unfold Cl.event
  rw [if_neg (by omega), if_pos hk]
  by_cases hN : e.n < 0 ∨ (c.peers.length : Int) ≤ e.n
  · rw [if_pos hN]
    exact onPeer_none w M O d nb c h e.kind e.n hN eo el ec
  · rw [if_neg hN]
    obtain ⟨N, hN2⟩ : ∃ N : Nat, e.n = (N : Int) := ⟨e.n.toNat, by omega⟩
    have hlt : N < c.peers.length := by omega
    have ht : e.n.toNat = N := by omega
    rw [ht, hN2]
    dsimp only
    obtain ⟨b, hb⟩ : ∃ b, nb[N]? = some b := ⟨_, List.getElem?_eq_getElem (by rw [h.len]; exact hlt)⟩
    have hF : Fine c.peers.length (c.at N) := by rw [hR.len]; exact fine hR hB (by rw [← hR.len]; exact hlt)
    have hch : c.chosen.length ≤ 1000 := by have := hB.chosen; omega
    have p1 : 1 ≤ c.peers.length := by rw [hR.len]; exact h1
    have p7 : c.peers.length ≤ 7 := by rw [hR.len]; exact h7
    by_cases h6 : e.kind = 6
    · cases hup : (c.at N).up with
      | true =>
        rw [if_pos (by simp [h6]), h6]
        exact onPeer_on w M O d nb c h N b hb hup eo el ec
      | false =>
        rw [if_neg (by simp [h6]), if_neg (by omega), if_neg (by omega), if_pos h6, h6]
        exact onPeer_6 w M O d nb c h N b hb hup eo el ec
    · cases hup : (c.at N).up with
      | false =>
        rw [if_pos (by simp [h6])]
        exact onPeer_off w M O d nb c h N b hb e.kind (by simp [h6]) hup eo el ec
      | true =>
        rw [if_neg (by simp [h6])]
        rcases hk with hk | hk | hk | hk
        · rw [if_pos hk, hk]
          exact onPeer_1 w M O d nb c h N b hb p1 p7 hF hch hup eo el ec
        · rw [if_neg (by omega), if_pos hk, hk]
          exact onPeer_5 w M O d nb c h N b hb hup eo el ec
        · exact absurd hk h6
        · rw [if_neg (by omega), if_neg (by omega), if_neg (by omega), hk]
          by_cases hr : (c.at N).role = 2
          · rw [if_neg (by omega)]
            by_cases hs : 1000 < e.data.length ∨ (c.at N).log.length = 100
            · rw [if_pos hs]
              exact onPeer_7z w M O d nb c h N b hb p1 p7 hF hch hup eo el ec e.data hd hr hs
            · rw [if_neg hs]
              have hx := onPeer_7 w M O d nb c h N b hb p1 p7 hF hch hup eo el ec e.data hd hr hs
              dsimp only at hx
              rw [hup] at hx
              exact hx
          · rw [if_pos hr]
            exact onPeer_7s w M O d nb c h N b hb p1 p7 hF hch hup eo el ec e.data hd hr

set_option maxHeartbeats 2000000 in
theorem happen_any (w : World) (M : Fz) (O : Lb) (d : Nat) (nb : List Nat) (c : Cl) (h : G w M O d nb c) (n : Nat) (h1 : 1 ≤ n) (h7 : n ≤ 7) (hg : Go.Proofs.Ytklkglbimjajnaa.Raft.Good n c) (e : Ev) (eo : Option Addr) (el ec : Nat) (hd : BytesM M (.slice eo el ec) e.data) :
    Calls Try.prog 20 #[.pointer (some ⟨d, 0, none⟩), .agg #[.int .i64 e.kind, .int .i64 e.n, .slice eo el ec]] w fun r w' => r = .returned (.int .i64 (c.event e).2) ∧ Did M O w d nb (c.event e).1 w' := by
  have st := h.sta
  obtain ⟨W, hW⟩ : ∃ W, w.alloc (.cells #[.int .i64 e.kind, .int .i64 e.n, .slice eo el ec] 58) = W := ⟨_, rfl⟩
  have bW : Below w.heap.size w W := by rw [← hW]; exact more (Below.refl _ _) _
  have hbox : W.heap[w.heap.size]? = some (.cells #[.int .i64 e.kind, .int .i64 e.n, .slice eo el ec] 58 (0, 0)) := by rw [← hW]; exact heap_alloc_new w _
  have hGW := h.below bW
  have m0 := cell_of (i := 0) hbox (v := .int .i64 e.kind) rfl
  have m1 := cell_of (i := 1) hbox (v := .int .i64 e.n) rfl
  have m2 := cell_of (i := 2) hbox (v := .slice eo el ec) rfl
  obtain ⟨R, hRr⟩ : ∃ R, R = (c.event e).2 := ⟨_, rfl⟩
  obtain ⟨C, hCc⟩ : ∃ C, C = (c.event e).1 := ⟨_, rfl⟩
  have HM : Hid (e.kind = 2 ∨ e.kind = 3 ∨ e.kind = 4 → Calls Try.prog 44 #[.pointer (some ⟨d, 0, none⟩), .agg #[.int .i64 e.kind, .int .i64 e.n, .slice eo el ec]] W fun r w' => r = .returned (.int .i64 R) ∧ Did M O w d nb C w') := fun hk => by
    refine (msg_any W M O d nb c hGW n h1 h7 hg e hk eo el ec).mono ?_
    rintro r w' ⟨rfl, hd⟩
    rw [hRr, hCc]
    exact ⟨rfl, Did.from st bW hd⟩
  have HP : Hid (e.kind = 1 ∨ e.kind = 5 ∨ e.kind = 6 ∨ e.kind = 7 → Calls Try.prog 45 #[.pointer (some ⟨d, 0, none⟩), .agg #[.int .i64 e.kind, .int .i64 e.n, .slice eo el ec]] W fun r w' => r = .returned (.int .i64 R) ∧ Did M O w d nb C w') := fun hk => by
    refine (peer_any W M O d nb c hGW n h1 h7 hg e hk eo el ec hd).mono ?_
    rintro r w' ⟨rfl, hd⟩
    rw [hRr, hCc]
    exact ⟨rfl, Did.from st bW hd⟩
  have HN : Hid (¬ (e.kind = 2 ∨ e.kind = 3 ∨ e.kind = 4) → ¬ (e.kind = 1 ∨ e.kind = 5 ∨ e.kind = 6 ∨ e.kind = 7) → R = 3 ∧ Did M O w d nb C W) := fun g1 g2 => by
    have e1 : c.event e = (c, 3) := by unfold Cl.event; rw [if_neg g1, if_neg g2]
    rw [hRr, hCc, e1]
    exact ⟨rfl, M, O, (Aft.refl _ st).below bW, hGW⟩
  rw [← hRr, ← hCc]
  generalize e.kind = K at *
  generalize e.n = N at *
  clear hbox hGW bW h st hRr hCc hd hg h1 h7
  by_cases g1 : K = 2 ∨ K = 3 ∨ K = 4
  · rcases g1 with rfl | rfl | rfl
    all_goals
      go_enter Try.func20, Try.ntmps20
      go_wp2_with (go_at_call 44; refine (HM.out (by simp)).mono ?_; rintro rr w5 ⟨rfl, hd5⟩; have HD5 := hide hd5; clear hd5)
      go_ret
      exact ⟨rfl, HD5.out⟩
  · by_cases g2 : K = 1 ∨ K = 5 ∨ K = 6 ∨ K = 7
    · rcases g2 with rfl | rfl | rfl | rfl
      all_goals
        go_enter Try.func20, Try.ntmps20
        go_wp2_with (go_at_call 45; refine (HP.out (by simp)).mono ?_; rintro rr w5 ⟨rfl, hd5⟩; have HD5 := hide hd5; clear hd5)
        go_ret
        exact ⟨rfl, HD5.out⟩
    · obtain ⟨rfl, hd5⟩ := HN.out g1 g2
      have HD5 := hide hd5
      have k2 : (K == 2) = false := by simp; omega
      have k3 : (K == 3) = false := by simp; omega
      have k4 : (K == 4) = false := by simp; omega
      have k1 : (K == 1) = false := by simp; omega
      have k5 : (K == 5) = false := by simp; omega
      have k6 : (K == 6) = false := by simp; omega
      have k7 : (K == 7) = false := by simp; omega
      clear hd5 g1 g2 HM HP HN
      go_enter Try.func20, Try.ntmps20
      go_wp2
      go_ret
      exact ⟨rfl, HD5.out⟩
end Go.Proofs.Ytklkglbimjajnaa.happen
