import Derived.Test.YtklkglbimjajnaaQ10
import Derived.Laws.EntriesVeiled
import Derived.Test.YtklkglbimjajnaaQ05
import Derived.Test.YtklkglbimjajnaaQ02
set_option linter.unusedVariables false
open Go.ChangeShapes Go.WideShapes Go.ChangeAt Go.RowKit
namespace Go.Proofs.Ytklkglbimjajnaa.onpeer
open Raft mem grp Ytklkglbimjajnaa.look ndw grant stand lead rows2 post postb say lookb lookc commit too elect tick vote arrive deliv prop
theorem below3 (W : World) (a b c : Nat) : Below W.heap.size W (((W.drewN a).drewN b).drewN c) :=
  ((drewN_below W a).trans ((drewN_below (W.drewN a) b).mono (drewN_below W a).size)).trans ((drewN_below _ c).mono ((drewN_below W a).trans ((drewN_below (W.drewN a) b).mono (drewN_below W a).size)).size)
theorem G.row {w : World} {M : Fz} {O : Lb} {d : Nat} {nb : List Nat} {c : Cl} (h : G w M O d nb c) : ∃ o cp, w.cell? ⟨d, 2, none⟩ = some (.slice o c.peers.length cp) := by
  obtain ⟨hd, pv, cv, bs, us, cs, hg⟩ := h
  obtain ⟨o, cp, rfl, _, _⟩ := Gr.pvs hg
  exact ⟨o, cp, (Gr.ca hg).1.2.2.1⟩
set_option maxHeartbeats 1000000 in
theorem onPeer_none (w : World) (M : Fz) (O : Lb) (d : Nat) (nb : List Nat) (c : Cl) (h : G w M O d nb c) (K N : Int) (hN : N < 0 ∨ (c.peers.length : Int) ≤ N) (eo : Option Addr) (el ec : Nat) :
    Calls Try.prog 45 #[.pointer (some ⟨d, 0, none⟩), .agg #[.int .i64 K, .int .i64 N, .slice eo el ec]] w fun r w' => r = .returned (.int .i64 6) ∧ Did M O w d nb c w' := by
  have st := h.sta
  obtain ⟨W, hW⟩ : ∃ W, w.alloc (.cells #[.int .i64 K, .int .i64 N, .slice eo el ec] 58) = W := ⟨_, rfl⟩
  have bW : Below w.heap.size w W := by rw [← hW]; exact more (Below.refl _ _) _
  have hbox : W.heap[w.heap.size]? = some (.cells #[.int .i64 K, .int .i64 N, .slice eo el ec] 58 (0, 0)) := by rw [← hW]; exact heap_alloc_new w _
  have hGW := h.below bW
  have m0 := cell_of (i := 0) hbox (v := .int .i64 K) rfl
  have m1 := cell_of (i := 1) hbox (v := .int .i64 N) rfl
  have m2 := cell_of (i := 2) hbox (v := .slice eo el ec) rfl
  obtain ⟨o, cp, p2⟩ := G.row hGW
  have HF : Hid (∀ q, Did M O w d nb c (W.drewN q)) := fun q => ⟨M, O, ((Aft.refl _ st).below bW).below (drewN_below W q), hGW.below (drewN_below W q)⟩
  generalize c.peers.length = NL at *
  clear hbox hGW bW h st
  by_cases hneg : N < 0
  · go_enter Try.func45, Try.ntmps45
    go_wp2
    go_quiet (fail)
    go_wp2
    go_ret
    exact ⟨rfl, HF.out _⟩
  · have hge : (NL : Int) ≤ N := by omega
    clear hN
    go_enter Try.func45, Try.ntmps45
    go_wp2
    go_quiet (fail)
    go_wp2
    go_ret
    exact ⟨rfl, HF.out _⟩
set_option maxRecDepth 20000 in
set_option maxHeartbeats 2000000 in
theorem onPeer_off (w : World) (M : Fz) (O : Lb) (d : Nat) (nb : List Nat) (c : Cl) (h : G w M O d nb c) (N b : Nat) (hb : nb[N]? = some b) (K : Int) (hK : (K == 6) = false) (hup : (c.at N).up = false) (eo : Option Addr) (el ec : Nat) :
    Calls Try.prog 45 #[.pointer (some ⟨d, 0, none⟩), .agg #[.int .i64 K, .int .i64 (N : Nat), .slice eo el ec]] w fun r w' => r = .returned (.int .i64 15) ∧ Did M O w d nb (c) w' := by
  have st := h.sta
  obtain ⟨W, hW⟩ : ∃ W, w.alloc (.cells #[.int .i64 K, .int .i64 N, .slice eo el ec] 58) = W := ⟨_, rfl⟩
  have bW : Below w.heap.size w W := by rw [← hW]; exact more (Below.refl _ _) _
  have hbox : W.heap[w.heap.size]? = some (.cells #[.int .i64 K, .int .i64 N, .slice eo el ec] 58 (0, 0)) := by rw [← hW]; exact heap_alloc_new w _
  have hGW := h.below bW
  have m0 := cell_of (i := 0) hbox (v := .int .i64 K) rfl
  have m1 := cell_of (i := 1) hbox (v := .int .i64 N) rfl
  have m2 := cell_of (i := 2) hbox (v := .slice eo el ec) rfl
  obtain ⟨us, lv, vv, nv, mv, hn⟩ := hGW.at hb
  have c4 := (Nd.cs hn).1.2.2.2.2.1
  have c0 := (Nd.cs hn).1.1
  rw [hup] at c4
  obtain ⟨g, off, cp, p2, pg, hcp, hcp2, hkl2⟩ := G.peer hGW hb
  have hkI : (N : Int) < c.peers.length := by omega
  have HG : Hid (∀ wx, Below W.heap.size W wx → Did M O w d nb c wx) := fun wx hx => ⟨M, O, ((Aft.refl _ st).below bW).below hx, hGW.below hx⟩
  generalize c.peers.length = NP at *
  clear hbox hGW bW h st hn
  go_enter Try.func45, Try.ntmps45
  go_wp2
  go_quiet (fail)
  go_wp2
  go_quiet (fail)
  go_wp2
  go_quiet (fail)
  go_wp2
  go_ret
  exact ⟨rfl, HG.out _ (by first | exact drewN_below W _ | exact below3 W _ _ _)⟩
set_option maxRecDepth 20000 in
set_option maxHeartbeats 2000000 in
theorem onPeer_on (w : World) (M : Fz) (O : Lb) (d : Nat) (nb : List Nat) (c : Cl) (h : G w M O d nb c) (N b : Nat) (hb : nb[N]? = some b) (hup : (c.at N).up = true) (eo : Option Addr) (el ec : Nat) :
    Calls Try.prog 45 #[.pointer (some ⟨d, 0, none⟩), .agg #[.int .i64 6, .int .i64 (N : Nat), .slice eo el ec]] w fun r w' => r = .returned (.int .i64 15) ∧ Did M O w d nb (c) w' := by
  have st := h.sta
  obtain ⟨W, hW⟩ : ∃ W, w.alloc (.cells #[.int .i64 6, .int .i64 N, .slice eo el ec] 58) = W := ⟨_, rfl⟩
  have bW : Below w.heap.size w W := by rw [← hW]; exact more (Below.refl _ _) _
  have hbox : W.heap[w.heap.size]? = some (.cells #[.int .i64 6, .int .i64 N, .slice eo el ec] 58 (0, 0)) := by rw [← hW]; exact heap_alloc_new w _
  have hGW := h.below bW
  have m0 := cell_of (i := 0) hbox (v := .int .i64 6) rfl
  have m1 := cell_of (i := 1) hbox (v := .int .i64 N) rfl
  have m2 := cell_of (i := 2) hbox (v := .slice eo el ec) rfl
  obtain ⟨us, lv, vv, nv, mv, hn⟩ := hGW.at hb
  have c4 := (Nd.cs hn).1.2.2.2.2.1
  have c0 := (Nd.cs hn).1.1
  rw [hup] at c4
  obtain ⟨g, off, cp, p2, pg, hcp, hcp2, hkl2⟩ := G.peer hGW hb
  have hkI : (N : Int) < c.peers.length := by omega
  have HG : Hid (∀ wx, Below W.heap.size W wx → Did M O w d nb c wx) := fun wx hx => ⟨M, O, ((Aft.refl _ st).below bW).below hx, hGW.below hx⟩
  generalize c.peers.length = NP at *
  clear hbox hGW bW h st hn
  go_enter Try.func45, Try.ntmps45
  go_wp2
  go_quiet (fail)
  go_wp2
  go_quiet (fail)
  go_wp2
  go_quiet (fail)
  go_wp2
  go_ret
  exact ⟨rfl, HG.out _ (by first | exact drewN_below W _ | exact below3 W _ _ _)⟩
set_option maxRecDepth 20000 in
set_option maxHeartbeats 2000000 in
theorem onPeer_1 (w : World) (M : Fz) (O : Lb) (d : Nat) (nb : List Nat) (c : Cl) (h : G w M O d nb c) (N b : Nat) (hb : nb[N]? = some b) (h1 : 1 ≤ c.peers.length) (h7 : c.peers.length ≤ 7) (hF : Fine c.peers.length (c.at N)) (hch : c.chosen.length ≤ 1000) (hup : (c.at N).up = true) (eo : Option Addr) (el ec : Nat) :
    Calls Try.prog 45 #[.pointer (some ⟨d, 0, none⟩), .agg #[.int .i64 1, .int .i64 (N : Nat), .slice eo el ec]] w fun r w' => r = .returned (.int .i64 0) ∧ Did M O w d nb (c.tick N) w' := by
  have st := h.sta
  obtain ⟨W, hW⟩ : ∃ W, w.alloc (.cells #[.int .i64 1, .int .i64 N, .slice eo el ec] 58) = W := ⟨_, rfl⟩
  have bW : Below w.heap.size w W := by rw [← hW]; exact more (Below.refl _ _) _
  have hbox : W.heap[w.heap.size]? = some (.cells #[.int .i64 1, .int .i64 N, .slice eo el ec] 58 (0, 0)) := by rw [← hW]; exact heap_alloc_new w _
  have hGW := h.below bW
  have m0 := cell_of (i := 0) hbox (v := .int .i64 1) rfl
  have m1 := cell_of (i := 1) hbox (v := .int .i64 N) rfl
  have m2 := cell_of (i := 2) hbox (v := .slice eo el ec) rfl
  obtain ⟨us, lv, vv, nv, mv, hn⟩ := hGW.at hb
  have c4 := (Nd.cs hn).1.2.2.2.2.1
  have c0 := (Nd.cs hn).1.1
  rw [hup] at c4
  obtain ⟨g, off, cp, p2, pg, hcp, hcp2, hkl2⟩ := G.peer hGW hb
  have hkI : (N : Int) < c.peers.length := by omega
  have HT : Hid (∀ wx, Below W.heap.size W wx → Calls Try.prog 94 #[.pointer (some ⟨d, 0, none⟩), .pointer (some ⟨b, 0, none⟩)] wx fun r w' => r = .returned (.tuple #[]) ∧ Did M O w d nb (c.tick N) w') := fun wx hx => by
    refine (tick_any wx M O d nb c (hGW.below hx) N b hb h1 h7 hF hch).mono ?_
    rintro r w' ⟨rfl, hd⟩
    exact ⟨rfl, Did.trans (((Aft.refl _ st).below bW).below hx) hd⟩
  clear hF hch h1 h7
  generalize c.peers.length = NP at *
  clear hbox hGW bW h st hn
  go_enter Try.func45, Try.ntmps45
  go_wp2
  go_quiet (fail)
  go_wp2
  go_quiet (fail)
  go_wp2
  go_quiet (fail)
  go_wp2_with (go_at_call 94; refine (HT.out _ (by exact drewN_below W _)).mono ?_; rintro rr w5 ⟨rfl, hd5⟩; have HD5 := hide hd5; clear hd5)
  go_ret
  exact ⟨rfl, HD5.out⟩
set_option maxRecDepth 20000 in
set_option maxHeartbeats 2000000 in
theorem onPeer_5 (w : World) (M : Fz) (O : Lb) (d : Nat) (nb : List Nat) (c : Cl) (h : G w M O d nb c) (N b : Nat) (hb : nb[N]? = some b) (hup : (c.at N).up = true) (eo : Option Addr) (el ec : Nat) :
    Calls Try.prog 45 #[.pointer (some ⟨d, 0, none⟩), .agg #[.int .i64 5, .int .i64 (N : Nat), .slice eo el ec]] w fun r w' => r = .returned (.int .i64 0) ∧ Did M O w d nb (c.put N (crashP (c.at N))) w' := by
  have st := h.sta
  obtain ⟨W, hW⟩ : ∃ W, w.alloc (.cells #[.int .i64 5, .int .i64 N, .slice eo el ec] 58) = W := ⟨_, rfl⟩
  have bW : Below w.heap.size w W := by rw [← hW]; exact more (Below.refl _ _) _
  have hbox : W.heap[w.heap.size]? = some (.cells #[.int .i64 5, .int .i64 N, .slice eo el ec] 58 (0, 0)) := by rw [← hW]; exact heap_alloc_new w _
  have hGW := h.below bW
  have m0 := cell_of (i := 0) hbox (v := .int .i64 5) rfl
  have m1 := cell_of (i := 1) hbox (v := .int .i64 N) rfl
  have m2 := cell_of (i := 2) hbox (v := .slice eo el ec) rfl
  obtain ⟨us, lv, vv, nv, mv, hn⟩ := hGW.at hb
  have c4 := (Nd.cs hn).1.2.2.2.2.1
  have c0 := (Nd.cs hn).1.1
  rw [hup] at c4
  obtain ⟨g, off, cp, p2, pg, hcp, hcp2, hkl2⟩ := G.peer hGW hb
  have hkI : (N : Int) < c.peers.length := by omega
  have HT : Hid (∀ wx, Below W.heap.size W wx → Calls Try.prog 95 #[.pointer (some ⟨b, 0, none⟩)] wx fun r w' => r = .returned (.tuple #[]) ∧ Did M O w d nb (c.put N (crashP (c.at N))) w') := fun wx hx => by
    have hg := hGW.below hx
    refine (crash_any wx M O b N _ hg.sta (hg.at hb)).mono ?_
    rintro r w' ⟨rfl, hd⟩
    exact ⟨rfl, Did.trans (((Aft.refl _ st).below bW).below hx) (NDid.lift hd hg hb)⟩
  generalize c.peers.length = NP at *
  clear hbox hGW bW h st hn
  go_enter Try.func45, Try.ntmps45
  go_wp2
  go_quiet (fail)
  go_wp2
  go_quiet (fail)
  go_wp2
  go_quiet (fail)
  go_wp2_with (go_at_call 95; refine (HT.out _ (by exact drewN_below W _)).mono ?_; rintro rr w5 ⟨rfl, hd5⟩; have HD5 := hide hd5; clear hd5)
  go_ret
  exact ⟨rfl, HD5.out⟩
set_option maxRecDepth 20000 in
set_option maxHeartbeats 2000000 in
theorem onPeer_6 (w : World) (M : Fz) (O : Lb) (d : Nat) (nb : List Nat) (c : Cl) (h : G w M O d nb c) (N b : Nat) (hb : nb[N]? = some b) (hup : (c.at N).up = false) (eo : Option Addr) (el ec : Nat) :
    Calls Try.prog 45 #[.pointer (some ⟨d, 0, none⟩), .agg #[.int .i64 6, .int .i64 (N : Nat), .slice eo el ec]] w fun r w' => r = .returned (.int .i64 0) ∧ Did M O w d nb (c.put N { c.at N with up := true }) w' := by
  have st := h.sta
  obtain ⟨W, hW⟩ : ∃ W, w.alloc (.cells #[.int .i64 6, .int .i64 N, .slice eo el ec] 58) = W := ⟨_, rfl⟩
  have bW : Below w.heap.size w W := by rw [← hW]; exact more (Below.refl _ _) _
  have hbox : W.heap[w.heap.size]? = some (.cells #[.int .i64 6, .int .i64 N, .slice eo el ec] 58 (0, 0)) := by rw [← hW]; exact heap_alloc_new w _
  have hGW := h.below bW
  have m0 := cell_of (i := 0) hbox (v := .int .i64 6) rfl
  have m1 := cell_of (i := 1) hbox (v := .int .i64 N) rfl
  have m2 := cell_of (i := 2) hbox (v := .slice eo el ec) rfl
  obtain ⟨us, lv, vv, nv, mv, hn⟩ := hGW.at hb
  have c4 := (Nd.cs hn).1.2.2.2.2.1
  have c0 := (Nd.cs hn).1.1
  rw [hup] at c4
  obtain ⟨g, off, cp, p2, pg, hcp, hcp2, hkl2⟩ := G.peer hGW hb
  have hkI : (N : Int) < c.peers.length := by omega
  have f4 := (Nd.cs hn).2.2.2.2.2.1
  have HF : Hid (∀ q, Did M O w d nb (c.put N { c.at N with up := true }) ((W.drewN q).setCell ⟨b, 4, none⟩ (.bool true))) := fun q => by
    have h2 : NDid M O W b N { c.at N with up := true } (sets (W.drewN q) b [(4, .bool true)]) := by
      refine NDid.sets hGW.sta hn (drewN_below W q) _ _ vv nv mv ?_ rfl (.inl ⟨rfl, rfl⟩) (.inl ⟨rfl, rfl⟩) (.inl ⟨rfl, rfl⟩)
      simp [setsA]
    exact Did.trans ((Aft.refl _ st).below bW) (NDid.lift h2 hGW hb)
  generalize c.peers.length = NP at *
  clear hbox hGW bW h st hn
  go_enter Try.func45, Try.ntmps45
  go_wp2
  go_quiet (fail)
  go_wp2
  go_quiet (fail)
  go_wp2
  go_quiet (fail)
  go_wp2
  go_ret
  exact ⟨rfl, HF.out _⟩
set_option maxRecDepth 20000 in
set_option maxHeartbeats 2000000 in
theorem onPeer_7s (w : World) (M : Fz) (O : Lb) (d : Nat) (nb : List Nat) (c : Cl) (h : G w M O d nb c) (N b : Nat) (hb : nb[N]? = some b) (h1 : 1 ≤ c.peers.length) (h7 : c.peers.length ≤ 7) (hF : Fine c.peers.length (c.at N)) (hch : c.chosen.length ≤ 1000) (hup : (c.at N).up = true) (eo : Option Addr) (el ec : Nat) (xs : List Int) (hd : BytesM M (.slice eo el ec) xs) (hr : (c.at N).role ≠ 2) :
    Calls Try.prog 45 #[.pointer (some ⟨d, 0, none⟩), .agg #[.int .i64 7, .int .i64 (N : Nat), .slice eo el ec]] w fun r w' => r = .returned (.int .i64 15) ∧ Did M O w d nb (c) w' := by
  have st := h.sta
  obtain ⟨W, hW⟩ : ∃ W, w.alloc (.cells #[.int .i64 7, .int .i64 N, .slice eo el ec] 58) = W := ⟨_, rfl⟩
  have bW : Below w.heap.size w W := by rw [← hW]; exact more (Below.refl _ _) _
  have hbox : W.heap[w.heap.size]? = some (.cells #[.int .i64 7, .int .i64 N, .slice eo el ec] 58 (0, 0)) := by rw [← hW]; exact heap_alloc_new w _
  have hGW := h.below bW
  have m0 := cell_of (i := 0) hbox (v := .int .i64 7) rfl
  have m1 := cell_of (i := 1) hbox (v := .int .i64 N) rfl
  have m2 := cell_of (i := 2) hbox (v := .slice eo el ec) rfl
  obtain ⟨us, lv, vv, nv, mv, hn⟩ := hGW.at hb
  have c4 := (Nd.cs hn).1.2.2.2.2.1
  have c0 := (Nd.cs hn).1.1
  rw [hup] at c4
  obtain ⟨g, off, cp, p2, pg, hcp, hcp2, hkl2⟩ := G.peer hGW hb
  have hkI : (N : Int) < c.peers.length := by omega
  have HT : Hid (∀ wx, Below W.heap.size W wx → Calls Try.prog 96 #[.pointer (some ⟨d, 0, none⟩), .pointer (some ⟨b, 0, none⟩), .slice eo el ec] wx fun r w' => r = .returned (.int .i64 15) ∧ Did M O w d nb (c) w') := fun wx hx => by
    have hg := hGW.below hx
    refine (prop_stale wx M O d nb c hg N b hb (.slice eo el ec) hr).mono ?_
    rintro r w' ⟨rfl, hw⟩
    have hw2 := hw.symm
    subst hw2
    exact ⟨rfl, M, O, ((Aft.refl _ st).below bW).below hx, hg⟩
  clear hF hch h1 h7 hd
  generalize c.peers.length = NP at *
  clear hbox hGW bW h st hn
  go_enter Try.func45, Try.ntmps45
  go_wp2
  go_quiet (fail)
  go_wp2
  go_quiet (fail)
  go_wp2
  go_quiet (fail)
  go_wp2_with (go_at_call 96; refine (HT.out _ (by exact drewN_below W _)).mono ?_; rintro rr w5 ⟨rfl, hd5⟩; have HD5 := hide hd5; clear hd5)
  go_ret
  exact ⟨rfl, HD5.out⟩
set_option maxRecDepth 20000 in
set_option maxHeartbeats 2000000 in
theorem onPeer_7z (w : World) (M : Fz) (O : Lb) (d : Nat) (nb : List Nat) (c : Cl) (h : G w M O d nb c) (N b : Nat) (hb : nb[N]? = some b) (h1 : 1 ≤ c.peers.length) (h7 : c.peers.length ≤ 7) (hF : Fine c.peers.length (c.at N)) (hch : c.chosen.length ≤ 1000) (hup : (c.at N).up = true) (eo : Option Addr) (el ec : Nat) (xs : List Int) (hd : BytesM M (.slice eo el ec) xs) (hr : (c.at N).role = 2) (hs : 1000 < xs.length ∨ (c.at N).log.length = 100) :
    Calls Try.prog 45 #[.pointer (some ⟨d, 0, none⟩), .agg #[.int .i64 7, .int .i64 (N : Nat), .slice eo el ec]] w fun r w' => r = .returned (.int .i64 14) ∧ Did M O w d nb (c) w' := by
  have st := h.sta
  obtain ⟨W, hW⟩ : ∃ W, w.alloc (.cells #[.int .i64 7, .int .i64 N, .slice eo el ec] 58) = W := ⟨_, rfl⟩
  have bW : Below w.heap.size w W := by rw [← hW]; exact more (Below.refl _ _) _
  have hbox : W.heap[w.heap.size]? = some (.cells #[.int .i64 7, .int .i64 N, .slice eo el ec] 58 (0, 0)) := by rw [← hW]; exact heap_alloc_new w _
  have hGW := h.below bW
  have m0 := cell_of (i := 0) hbox (v := .int .i64 7) rfl
  have m1 := cell_of (i := 1) hbox (v := .int .i64 N) rfl
  have m2 := cell_of (i := 2) hbox (v := .slice eo el ec) rfl
  obtain ⟨us, lv, vv, nv, mv, hn⟩ := hGW.at hb
  have c4 := (Nd.cs hn).1.2.2.2.2.1
  have c0 := (Nd.cs hn).1.1
  rw [hup] at c4
  obtain ⟨g, off, cp, p2, pg, hcp, hcp2, hkl2⟩ := G.peer hGW hb
  have hkI : (N : Int) < c.peers.length := by omega
  have HT : Hid (∀ wx, Below W.heap.size W wx → Calls Try.prog 96 #[.pointer (some ⟨d, 0, none⟩), .pointer (some ⟨b, 0, none⟩), .slice eo el ec] wx fun r w' => r = .returned (.int .i64 14) ∧ Did M O w d nb (c) w') := fun wx hx => by
    have hg := hGW.below hx
    refine (prop_size wx M O d nb c hg N b hb xs eo el ec hd hr hs).mono ?_
    rintro r w' ⟨rfl, hw⟩
    have hw2 := hw.symm
    subst hw2
    exact ⟨rfl, M, O, ((Aft.refl _ st).below bW).below hx, hg⟩
  clear hF hch h1 h7 hd
  generalize c.peers.length = NP at *
  clear hbox hGW bW h st hn
  go_enter Try.func45, Try.ntmps45
  go_wp2
  go_quiet (fail)
  go_wp2
  go_quiet (fail)
  go_wp2
  go_quiet (fail)
  go_wp2_with (go_at_call 96; refine (HT.out _ (by exact drewN_below W _)).mono ?_; rintro rr w5 ⟨rfl, hd5⟩; have HD5 := hide hd5; clear hd5)
  go_ret
  exact ⟨rfl, HD5.out⟩
set_option maxRecDepth 20000 in
set_option maxHeartbeats 2000000 in
theorem onPeer_7 (w : World) (M : Fz) (O : Lb) (d : Nat) (nb : List Nat) (c : Cl) (h : G w M O d nb c) (N b : Nat) (hb : nb[N]? = some b) (h1 : 1 ≤ c.peers.length) (h7 : c.peers.length ≤ 7) (hF : Fine c.peers.length (c.at N)) (hch : c.chosen.length ≤ 1000) (hup : (c.at N).up = true) (eo : Option Addr) (el ec : Nat) (xs : List Int) (hd : BytesM M (.slice eo el ec) xs) (hr : (c.at N).role = 2) (hs : ¬ (1000 < xs.length ∨ (c.at N).log.length = 100)) :
    Calls Try.prog 45 #[.pointer (some ⟨d, 0, none⟩), .agg #[.int .i64 7, .int .i64 (N : Nat), .slice eo el ec]] w fun r w' => r = .returned (.int .i64 0) ∧ Did M O w d nb ((c.put N { c.at N with log := (c.at N).log ++ [⟨(c.at N).term, (c.at N).log.length + 1, xs⟩], mat := (c.at N).mat.set N ((c.at N).log.length + 1) }).commits N) w' := by
  have st := h.sta
  obtain ⟨W, hW⟩ : ∃ W, w.alloc (.cells #[.int .i64 7, .int .i64 N, .slice eo el ec] 58) = W := ⟨_, rfl⟩
  have bW : Below w.heap.size w W := by rw [← hW]; exact more (Below.refl _ _) _
  have hbox : W.heap[w.heap.size]? = some (.cells #[.int .i64 7, .int .i64 N, .slice eo el ec] 58 (0, 0)) := by rw [← hW]; exact heap_alloc_new w _
  have hGW := h.below bW
  have m0 := cell_of (i := 0) hbox (v := .int .i64 7) rfl
  have m1 := cell_of (i := 1) hbox (v := .int .i64 N) rfl
  have m2 := cell_of (i := 2) hbox (v := .slice eo el ec) rfl
  obtain ⟨us, lv, vv, nv, mv, hn⟩ := hGW.at hb
  have c4 := (Nd.cs hn).1.2.2.2.2.1
  have c0 := (Nd.cs hn).1.1
  rw [hup] at c4
  obtain ⟨g, off, cp, p2, pg, hcp, hcp2, hkl2⟩ := G.peer hGW hb
  have hkI : (N : Int) < c.peers.length := by omega
  have HT : Hid (∀ wx, Below W.heap.size W wx → Calls Try.prog 96 #[.pointer (some ⟨d, 0, none⟩), .pointer (some ⟨b, 0, none⟩), .slice eo el ec] wx fun r w' => r = .returned (.int .i64 0) ∧ Did M O w d nb ((c.put N { c.at N with log := (c.at N).log ++ [⟨(c.at N).term, (c.at N).log.length + 1, xs⟩], mat := (c.at N).mat.set N ((c.at N).log.length + 1) }).commits N) w') := fun wx hx => by
    have hg := hGW.below hx
    refine (prop_ok wx M O d nb c hg N b hb xs eo el ec hd h1 h7 hF hch hr hs).mono ?_
    rintro r w' ⟨rfl, hd⟩
    exact ⟨rfl, Did.trans (((Aft.refl _ st).below bW).below hx) hd⟩
  clear hF hch h1 h7 hd
  generalize c.peers.length = NP at *
  clear hbox hGW bW h st hn
  go_enter Try.func45, Try.ntmps45
  go_wp2
  go_quiet (fail)
  go_wp2
  go_quiet (fail)
  go_wp2
  go_quiet (fail)
  go_wp2_with (go_at_call 96; refine (HT.out _ (by exact drewN_below W _)).mono ?_; rintro rr w5 ⟨rfl, hd5⟩; have HD5 := hide hd5; clear hd5)
  go_ret
  exact ⟨rfl, HD5.out⟩
end Go.Proofs.Ytklkglbimjajnaa.onpeer
namespace Go.Proofs.Ytklkglbimjajnaa.happen
open Raft mem grp Ytklkglbimjajnaa.look ndw grant stand lead rows2 post postb say lookb lookc commit too elect tick vote arrive deliv prop onmsg onpeer
theorem msg_any (w : World) (M : Fz) (O : Lb) (d : Nat) (nb : List Nat) (c : Cl) (h : G w M O d nb c) (n : Nat) (h1 : 1 ≤ n) (h7 : n ≤ 7) (hg : Go.Proofs.Ytklkglbimjajnaa.Raft.Good n c) (e : Ev) (hk : e.kind = 2 ∨ e.kind = 3 ∨ e.kind = 4) (eo : Option Addr) (el ec : Nat) :
    Calls Try.prog 44 #[.pointer (some ⟨d, 0, none⟩), .agg #[.int .i64 e.kind, .int .i64 e.n, .slice eo el ec]] w fun r w' => r = .returned (.int .i64 (c.event e).2) ∧ Did M O w d nb (c.event e).1 w' := by
  obtain ⟨hB, hC, s, hR⟩ := hg
  unfold Cl.event
  rw [if_pos hk]
  by_cases hN : e.n < 0 ∨ (c.net.length : Int) ≤ e.n
  · rw [if_pos hN]
    exact onMsg_none w M O d nb c h e.kind e.n hN eo el ec
  · rw [if_neg hN]
    obtain ⟨N, hN2⟩ : ∃ N : Nat, e.n = (N : Int) := ⟨e.n.toNat, by omega⟩
    have hlt : N < c.net.length := by omega
    obtain ⟨m, hm⟩ : ∃ m, c.net[N]? = some m := ⟨_, List.getElem?_eq_getElem hlt⟩
    have ht : e.n.toNat = N := by omega
    rw [ht, hm, hN2]
    dsimp only
    rcases hk with hk | hk | hk
    · rw [if_pos hk, hk]
      exact onMsg_2 w M O d nb c h n h1 h7 s hR hC hB N m hm eo el ec
    · rw [if_neg (by omega), if_pos hk, hk]
      exact onMsg_3 w M O d nb c h hB N m hm eo el ec
    · rw [if_neg (by omega), if_neg (by omega), hk]
      exact onMsg_4 w M O d nb c h hB N m hm eo el ec
theorem peer_any (w : World) (M : Fz) (O : Lb) (d : Nat) (nb : List Nat) (c : Cl) (h : G w M O d nb c) (n : Nat) (h1 : 1 ≤ n) (h7 : n ≤ 7) (hg : Go.Proofs.Ytklkglbimjajnaa.Raft.Good n c) (e : Ev) (hk : e.kind = 1 ∨ e.kind = 5 ∨ e.kind = 6 ∨ e.kind = 7) (eo : Option Addr) (el ec : Nat) (hd : BytesM M (.slice eo el ec) e.data) :
    Calls Try.prog 45 #[.pointer (some ⟨d, 0, none⟩), .agg #[.int .i64 e.kind, .int .i64 e.n, .slice eo el ec]] w fun r w' => r = .returned (.int .i64 (c.event e).2) ∧ Did M O w d nb (c.event e).1 w' := by
  obtain ⟨hB, hC, s, hR⟩ := hg
  unfold Cl.event
  rw [if_neg (by omega), if_pos hk]
  by_cases hN : e.n < 0 ∨ (c.peers.length : Int) ≤ e.n
  · rw [if_pos hN]
    exact onPeer_none w M O d nb c h e.kind e.n hN eo el ec
  · rw [if_neg hN]
    obtain ⟨N, hN2⟩ : ∃ N : Nat, e.n = (N : Int) := ⟨e.n.toNat, by omega⟩
    have hlt : N < c.peers.length := by omega
    have ht : e.n.toNat = N := by omega
    rw [ht, hN2]
    dsimp only
    obtain ⟨b, hb⟩ : ∃ b, nb[N]? = some b := ⟨_, List.getElem?_eq_getElem (by rw [h.len]; exact hlt)⟩
    have hF : Fine c.peers.length (c.at N) := by rw [hR.len]; exact fine hR hB (by rw [← hR.len]; exact hlt)
    have hch : c.chosen.length ≤ 1000 := by have := hB.chosen; omega
    have p1 : 1 ≤ c.peers.length := by rw [hR.len]; exact h1
    have p7 : c.peers.length ≤ 7 := by rw [hR.len]; exact h7
    by_cases h6 : e.kind = 6
    · cases hup : (c.at N).up with
      | true =>
        rw [if_pos (by simp [h6]), h6]
        exact onPeer_on w M O d nb c h N b hb hup eo el ec
      | false =>
        rw [if_neg (by simp [h6]), if_neg (by omega), if_neg (by omega), if_pos h6, h6]
        exact onPeer_6 w M O d nb c h N b hb hup eo el ec
    · cases hup : (c.at N).up with
      | false =>
        rw [if_pos (by simp [h6])]
        exact onPeer_off w M O d nb c h N b hb e.kind (by simp [h6]) hup eo el ec
      | true =>
        rw [if_neg (by simp [h6])]
        rcases hk with hk | hk | hk | hk
        · rw [if_pos hk, hk]
          exact onPeer_1 w M O d nb c h N b hb p1 p7 hF hch hup eo el ec
        · rw [if_neg (by omega), if_pos hk, hk]
          exact onPeer_5 w M O d nb c h N b hb hup eo el ec
        · exact absurd hk h6
        · rw [if_neg (by omega), if_neg (by omega), if_neg (by omega), hk]
          by_cases hr : (c.at N).role = 2
          · rw [if_neg (by omega)]
            by_cases hs : 1000 < e.data.length ∨ (c.at N).log.length = 100
            · rw [if_pos hs]
              exact onPeer_7z w M O d nb c h N b hb p1 p7 hF hch hup eo el ec e.data hd hr hs
            · rw [if_neg hs]
              have hx := onPeer_7 w M O d nb c h N b hb p1 p7 hF hch hup eo el ec e.data hd hr hs
              dsimp only at hx
              rw [hup] at hx
              exact hx
          · rw [if_pos hr]
            exact onPeer_7s w M O d nb c h N b hb p1 p7 hF hch hup eo el ec e.data hd hr
set_option maxHeartbeats 2000000 in
theorem happen_any (w : World) (M : Fz) (O : Lb) (d : Nat) (nb : List Nat) (c : Cl) (h : G w M O d nb c) (n : Nat) (h1 : 1 ≤ n) (h7 : n ≤ 7) (hg : Go.Proofs.Ytklkglbimjajnaa.Raft.Good n c) (e : Ev) (eo : Option Addr) (el ec : Nat) (hd : BytesM M (.slice eo el ec) e.data) :
    Calls Try.prog 20 #[.pointer (some ⟨d, 0, none⟩), .agg #[.int .i64 e.kind, .int .i64 e.n, .slice eo el ec]] w fun r w' => r = .returned (.int .i64 (c.event e).2) ∧ Did M O w d nb (c.event e).1 w' := by
  have st := h.sta
  obtain ⟨W, hW⟩ : ∃ W, w.alloc (.cells #[.int .i64 e.kind, .int .i64 e.n, .slice eo el ec] 58) = W := ⟨_, rfl⟩
  have bW : Below w.heap.size w W := by rw [← hW]; exact more (Below.refl _ _) _
  have hbox : W.heap[w.heap.size]? = some (.cells #[.int .i64 e.kind, .int .i64 e.n, .slice eo el ec] 58 (0, 0)) := by rw [← hW]; exact heap_alloc_new w _
  have hGW := h.below bW
  have m0 := cell_of (i := 0) hbox (v := .int .i64 e.kind) rfl
  have m1 := cell_of (i := 1) hbox (v := .int .i64 e.n) rfl
  have m2 := cell_of (i := 2) hbox (v := .slice eo el ec) rfl
  obtain ⟨R, hRr⟩ : ∃ R, R = (c.event e).2 := ⟨_, rfl⟩
  obtain ⟨C, hCc⟩ : ∃ C, C = (c.event e).1 := ⟨_, rfl⟩
  have HM : Hid (e.kind = 2 ∨ e.kind = 3 ∨ e.kind = 4 → Calls Try.prog 44 #[.pointer (some ⟨d, 0, none⟩), .agg #[.int .i64 e.kind, .int .i64 e.n, .slice eo el ec]] W fun r w' => r = .returned (.int .i64 R) ∧ Did M O w d nb C w') := fun hk => by
    refine (msg_any W M O d nb c hGW n h1 h7 hg e hk eo el ec).mono ?_
    rintro r w' ⟨rfl, hd⟩
    rw [hRr, hCc]
    exact ⟨rfl, Did.from st bW hd⟩
  have HP : Hid (e.kind = 1 ∨ e.kind = 5 ∨ e.kind = 6 ∨ e.kind = 7 → Calls Try.prog 45 #[.pointer (some ⟨d, 0, none⟩), .agg #[.int .i64 e.kind, .int .i64 e.n, .slice eo el ec]] W fun r w' => r = .returned (.int .i64 R) ∧ Did M O w d nb C w') := fun hk => by
    refine (peer_any W M O d nb c hGW n h1 h7 hg e hk eo el ec hd).mono ?_
    rintro r w' ⟨rfl, hd⟩
    rw [hRr, hCc]
    exact ⟨rfl, Did.from st bW hd⟩
  have HN : Hid (¬ (e.kind = 2 ∨ e.kind = 3 ∨ e.kind = 4) → ¬ (e.kind = 1 ∨ e.kind = 5 ∨ e.kind = 6 ∨ e.kind = 7) → R = 3 ∧ Did M O w d nb C W) := fun g1 g2 => by
    have e1 : c.event e = (c, 3) := by unfold Cl.event; rw [if_neg g1, if_neg g2]
    rw [hRr, hCc, e1]
    exact ⟨rfl, M, O, (Aft.refl _ st).below bW, hGW⟩
  rw [← hRr, ← hCc]
  generalize e.kind = K at *
  generalize e.n = N at *
  clear hbox hGW bW h st hRr hCc hd hg h1 h7
  by_cases g1 : K = 2 ∨ K = 3 ∨ K = 4
  · rcases g1 with rfl | rfl | rfl
    all_goals
      go_enter Try.func20, Try.ntmps20
      go_wp2_with (go_at_call 44; refine (HM.out (by simp)).mono ?_; rintro rr w5 ⟨rfl, hd5⟩; have HD5 := hide hd5; clear hd5)
      go_ret
      exact ⟨rfl, HD5.out⟩
  · by_cases g2 : K = 1 ∨ K = 5 ∨ K = 6 ∨ K = 7
    · rcases g2 with rfl | rfl | rfl | rfl
      all_goals
        go_enter Try.func20, Try.ntmps20
        go_wp2_with (go_at_call 45; refine (HP.out (by simp)).mono ?_; rintro rr w5 ⟨rfl, hd5⟩; have HD5 := hide hd5; clear hd5)
        go_ret
        exact ⟨rfl, HD5.out⟩
    · obtain ⟨rfl, hd5⟩ := HN.out g1 g2
      have HD5 := hide hd5
      have k2 : (K == 2) = false := by simp; omega
      have k3 : (K == 3) = false := by simp; omega
      have k4 : (K == 4) = false := by simp; omega
      have k1 : (K == 1) = false := by simp; omega
      have k5 : (K == 5) = false := by simp; omega
      have k6 : (K == 6) = false := by simp; omega
      have k7 : (K == 7) = false := by simp; omega
      clear hd5 g1 g2 HM HP HN
      go_enter Try.func20, Try.ntmps20
      go_wp2
      go_ret
      exact ⟨rfl, HD5.out⟩
end Go.Proofs.Ytklkglbimjajnaa.happen
namespace Go.Proofs.Ytklkglbimjajnaa.crun
open Raft mem grp Ytklkglbimjajnaa.look ndw grant stand rows2 clone behind post copy msgs postb ntold gtold gt8 new happen
theorem info3 : (Try.prog.info? 3).map (fun i => (i.zero, i.size, i.bytes)) = some (some (.int .i64 0), 1, 8) := by kernel_rfl
structure EV where
  e : Ev
  dv : Value
def evCells (x : EV) : List Value := [.int .i64 x.e.kind, .int .i64 x.e.n, x.dv]
def EvsV (M : Fz) (v : Value) (us : List EV) : Prop := RowM M v us.length 3 (us.flatMap evCells) ∧ ∀ x ∈ us, BytesM M x.dv x.e.data
def ints (l : List Int) : List Value := l.map (fun i => Value.int .i64 i)
theorem run_snoc : ∀ (es : List Ev) (e : Ev) (c : Cl), c.run (es ++ [e]) = (((c.run es).1.event e).1, (c.run es).2 ++ [((c.run es).1.event e).2])
  | [], e, c => by simp [Cl.run]
  | a :: es, e, c => by simp [Cl.run, run_snoc es e]
theorem run_len : ∀ (es : List Ev) (c : Cl), (c.run es).2.length = es.length
  | [], c => rfl
  | a :: es, c => by simp [Cl.run, run_len es]
theorem run_take (es : List Ev) (k : Nat) (e : Ev) (h : es[k]? = some e) (c : Cl) : c.run (es.take (k + 1)) = (((c.run (es.take k)).1.event e).1, (c.run (es.take k)).2 ++ [((c.run (es.take k)).1.event e).2]) := by
  rw [List.take_add_one, h]
  exact run_snoc _ _ _
theorem good_run {n : Nat} : ∀ (es : List Ev) (c : Cl), Raft.Good n c → Raft.Good n (c.run es).1
  | [], _, h => h
  | e :: es, _, h => good_run es _ (h.event e)
theorem lb_run {n : Nat} : ∀ (es : List Ev) (c : Cl), LB n c → LB n (c.run es).1
  | [], _, h => h
  | e :: es, _, h => lb_run es _ (h.event e)
theorem G.grown {w w' : World} {M : Fz} {O : Lb} {d : Nat} {nb : List Nat} {c : Cl} {row : Option Nat} (h : G w M O d nb c) (p : w.grownBy w' row) (hr : ∀ g, row = some g → O g = none ∧ M g = none) : G w' M O d nb c := by
  obtain ⟨hd, pv, cv, bs, us, cs, h⟩ := h
  have hk : ∀ l x, O x = some l → w'.heap[x]? = w.heap[x]? := fun l x hx => p.block x (h.st.ok x l hx).2 (fun e => by have := (hr x e.symm).1; rw [hx] at this; cases this)
  exact ⟨hd, pv, cv, bs, us, cs,
    { st := ⟨h.st.inn.grown p (fun k e => (hr k e).2), fun b l hb => ⟨(h.st.ok b l hb).1, Nat.lt_of_lt_of_le (h.st.ok b l hb).2 p.size⟩⟩
      blk := (hk _ d h.own).trans h.blk
      own := h.own
      peers := h.peers
      len := h.len
      nodes := fun j b p' hb hp => by
        obtain ⟨us', lv, vv, nv, mv, hnd⟩ := h.nodes j b p' hb hp
        exact ⟨us', lv, vv, nv, mv, hnd.keep (fun x hx => hk _ x hx) (Le.refl _) (fun _ hx => hx)⟩
      post := h.post.keep (fun x hx => hk _ x hx) (Le.refl _) (fun _ hx => hx)
      nets := h.nets
      chos := h.chos.keep (fun x hx => hk _ x hx) (Le.refl _) (fun _ hx => hx)
      chosen := h.chosen }⟩
def noLb : Lb := fun _ => none
theorem noSta {M : Fz} {w : World} (h : In M w) : Sta M noLb w := ⟨h, fun b l hb => by cases hb⟩
theorem aft_below {M M' : Fz} {O' : Lb} {w w' : World} (h : Aft (fun _ => True) M noLb w M' O' w') : Below w.heap.size w w' := ⟨h.os, h.tape, h.output, h.size, fun k hk => h.keep k hk (fun l hl => by cases hl)⟩
def CI (W : World) (M : Fz) (d : Nat) (c : Cl) (ks : List Int) (k : Nat) (v : Value) (wr : World) : Prop := ∃ M' O' nb, Aft (fun _ => True) M noLb W M' O' wr ∧ G wr M' O' d nb c ∧ wr.ownsRow W.heap.size 3 1 v k (ints ks) ∧ ∀ g, v.ownBlock = some g → O' g = none ∧ M' g = none
theorem CI.below {W : World} {M : Fz} {d : Nat} {c : Cl} {ks : List Int} {k : Nat} {v : Value} {wr : World} (h : CI W M d c ks k v wr) : Below W.heap.size W wr := by
  obtain ⟨M', O', nb, a, _⟩ := h
  exact aft_below a
theorem CI.step {W : World} {M : Fz} {d : Nat} {c : Cl} {ks : List Int} {k : Nat} {so : Option Addr} {sn sc : Nat} {wr : World} (h : CI W M d c ks k (.slice so sn sc) wr) {n : Nat} (h1 : 1 ≤ n) (h7 : n ≤ 7) (hg : Raft.Good n c) (e : Ev) (eo : Option Addr) (el ec : Nat) (hd : BytesM M (.slice eo el ec) e.data) {X : World} (hX : wr.alloc (.cells #[.int .i64 e.kind, .int .i64 e.n, .slice eo el ec] 58) = X) :
    Calls Try.prog 20 #[.pointer (some ⟨d, 0, none⟩), .agg #[.int .i64 e.kind, .int .i64 e.n, .slice eo el ec]] X fun r w5 => ∃ Y, r = .returned (.int .i64 (c.event e).2) ∧ w5.alloc (.cells #[.int .i64 (c.event e).2] 3) = Y ∧
      Hid (∃ ys, Y.ownsRow W.heap.size 3 1 (.slice so sn sc) k ys ∧ (∀ j u, ([.int .i64 (c.event e).2] : List Value)[j]? = some u → Y.cell? ((⟨w5.heap.size, 0, none⟩ : Addr).add j) = some u) ∧ W.heap.size ≤ Y.heap.size ∧
        ∀ g cap w', w'.ownsRow W.heap.size 3 1 (.slice (some ⟨g, 0, none⟩) (k + 1) cap) (k + 1) (ys ++ [.int .i64 (c.event e).2]) → Y.grownBy w' (Value.slice so sn sc).ownBlock → ((Value.slice so sn sc).ownBlock = some g ∨ g = Y.heap.size) → CI W M d (c.event e).1 (ks ++ [(c.event e).2]) (k + 1) (.slice (some ⟨g, 0, none⟩) (k + 1) cap) w') := by
  obtain ⟨M', O', nb, a, hG, hr, hf⟩ := h
  have bX : Below wr.heap.size wr X := by rw [← hX]; exact more (Below.refl _ _) _
  have aX := a.below bX
  refine (happen_any X M' O' d nb c (hG.below bX) n h1 h7 hg e eo el ec (hd.le a.le)).mono ?_
  rintro r w5 ⟨rfl, M2, O2, a5, hG5⟩
  obtain ⟨Y, hY⟩ : ∃ Y, w5.alloc (.cells #[.int .i64 (c.event e).2] 3) = Y := ⟨_, rfl⟩
  have bY : Below w5.heap.size w5 Y := by rw [← hY]; exact more (Below.refl _ _) _
  have hBY : Y.heap[w5.heap.size]? = some (.cells #[.int .i64 (c.event e).2] 3 (0, 0)) := by rw [← hY]; exact heap_alloc_new w5 _
  have aY := (aX.trans a5).below bY
  have old : ∀ g, (Value.slice so sn sc).ownBlock = some g → g < X.heap.size ∧ O2 g = none ∧ M2 g = none ∧ Y.heap[g]? = wr.heap[g]? := fun g hg' => by
    have hl := (row_lt hr hg').2
    have hlX : g < X.heap.size := Nat.lt_of_lt_of_le hl bX.size
    obtain ⟨o1, m1⟩ := hf g hg'
    refine ⟨hlX, (a5.lab g hlX).trans o1, ?_, ?_⟩
    · cases em : M2 g with
      | none => rfl
      | some o =>
        rcases a5.newM g (by rw [em]; simp) with g' | g'
        · exact absurd m1 g'
        · omega
    · exact (bY.block g (Nat.lt_of_lt_of_le hlX a5.size)).trans ((a5.keep g hlX (fun l hl' => by rw [o1] at hl'; cases hl')).trans (bX.block g hl))
  refine ⟨Y, rfl, hY, ints ks, row_kept hr (fun g hg' => (old g hg').2.2.2), ?_, aY.size, ?_⟩
  · intro j u hu
    rw [pile.add_at, Nat.zero_add]
    exact cell_of hBY (by simpa using hu)
  · intro g cap w' p1 p2 p3
    have hfr : ∀ x, (Value.slice so sn sc).ownBlock = some x → O2 x = none ∧ M2 x = none := fun x hx => ⟨(old x hx).2.1, (old x hx).2.2.1⟩
    refine ⟨M2, O2, nb, new.Aft.grownNew aY p2 (fun x hx => ⟨(row_lt hr hx).1, (hfr x hx).2⟩), crun.G.grown (hG5.below bY) p2 hfr, by simpa [ints] using p1, ?_⟩
    intro g' hg'
    obtain rfl : g = g' := by simpa [Value.ownBlock] using hg'
    rcases p3 with p3 | p3
    · exact hfr g p3
    · refine ⟨?_, aY.inn.fresh (by omega)⟩
      cases eo2 : O2 g with
      | none => rfl
      | some l => have := (aY.ok g l eo2).2; omega
def RunE (w : World) (M : Fz) (c : Cl) (ks : List Int) (r : Ending) (w' : World) : Prop :=
  ∃ (p1 : Option Addr) (p2 p3 : Nat) (n1 : Option Addr) (n2 n3 : Nat) (c1 : Option Addr) (c2 c3 : Nat) (k1 : Option Addr) (k3 : Nat), r = .returned (.tuple #[.agg #[.slice p1 p2 p3, .slice n1 n2 n3, .slice c1 c2 c3, .bool c.conflict], .slice k1 ks.length k3, .int .i64 0]) ∧ ∃ M', FP w M w' M' ∧ CluV M' c (.slice p1 p2 p3) (.slice n1 n2 n3) (.slice c1 c2 c3) ∧ RowM M' (.slice k1 ks.length k3) ks.length 1 (ints ks)
set_option maxRecDepth 20000 in
set_option maxHeartbeats 2000000 in
theorem crun_good (w : World) (M : Fz) (hI : In M w) (n : Nat) (h1 : 1 ≤ n) (h7 : n ≤ 7) (vo : Option Addr) (vn vc : Nat) (us : List EV) (hv : EvsV M (.slice vo vn vc) us) (hl : us.length ≤ 300) :
    Calls Try.prog 8 #[.int .i64 n, .slice vo vn vc] w fun r w' => RunE w M ((Cl.begin n).run (us.map (·.e))).1 ((Cl.begin n).run (us.map (·.e))).2 r w' := by
  obtain ⟨W, hW⟩ : ∃ W, w.alloc (.cells #[.slice none 0 0, .slice none 0 0, .slice none 0 0, .bool false] 30) = W := ⟨_, rfl⟩
  have bW : Below w.heap.size w W := by rw [← hW]; exact more (Below.refl _ _) _
  have sW : W.heap.size = w.heap.size + 1 := by rw [← hW]; exact World.size_alloc ..
  have hbx : W.heap[w.heap.size]? = some (.cells #[.slice none 0 0, .slice none 0 0, .slice none 0 0, .bool false] 30 (0, 0)) := by rw [← hW]; exact heap_alloc_new w _
  have hIW : In M W := hI.below bW
  obtain ⟨⟨vo', vc', ev, hvc1, hvc2, hvl, hvn, hve⟩, hvb⟩ := hv
  obtain ⟨rfl, rfl, rfl⟩ : vo' = vo ∧ us.length = vn ∧ vc' = vc := by simp only [Value.slice.injEq] at ev; exact ⟨ev.1.symm, ev.2.1.symm, ev.2.2.symm⟩
  obtain ⟨L, eL⟩ : ∃ L, us.length = L := ⟨_, rfl⟩
  obtain ⟨es, ees⟩ : ∃ es, us.map (·.e) = es := ⟨_, rfl⟩
  have eLs : es.length = L := by rw [← ees, List.length_map, eL]
  rw [eL, ees]
  have HNew : Hid (∀ wx, Below W.heap.size W wx → Calls Try.prog 19 #[.int .i64 n] wx fun r w' => ∃ d, r = .returned (.pointer (some ⟨d, 0, none⟩)) ∧ Hid (CI W M d (Cl.begin n) [] 0 (.slice none 0 0) w')) := fun wx hx => by
    refine (newGroup_any wx M noLb (noSta (hIW.below hx)) n h7).mono ?_
    rintro r w' ⟨d, nb, M', O', rfl, a, hG⟩
    have b9 := aft_below a
    have a9 : Aft (fun _ => True) M noLb W M' O' w' :=
      { os := a.os.trans hx.os, tape := a.tape.trans hx.tape, output := a.output.trans hx.output, size := Nat.le_trans hx.size a.size, le := a.le, inn := a.inn,
        lab := fun b hb => a.lab b (Nat.lt_of_lt_of_le hb hx.size), ok := a.ok, newM := fun b hb => (a.newM b hb).imp id (fun h => Nat.le_trans hx.size h), newL := fun _ _ _ _ => trivial, keep := fun b hb hk => (a.keep b (Nat.lt_of_lt_of_le hb hx.size) hk).trans (hx.block b hb) }
    exact ⟨d, rfl, M', O', nb, a9, hG, World.ownsRow_nil _ _ _ _, by simp [Value.ownBlock]⟩
  have HCell : Hid (∀ k, k < L → ∃ eb off x eo el ec, vo' = some ⟨eb, off, none⟩ ∧ us[k]? = some x ∧ x.dv = .slice eo el ec ∧ BytesM M (.slice eo el ec) x.e.data ∧ es[k]? = some x.e ∧ ∀ wr, Below W.heap.size W wr → (wr.cell? ⟨eb, off + k * 3, none⟩ = some (.int .i64 x.e.kind) ∧ wr.cell? ⟨eb, off + k * 3 + 1, none⟩ = some (.int .i64 x.e.n) ∧ wr.cell? ⟨eb, off + k * 3 + 2, none⟩ = some (.slice eo el ec))) := fun k hk => by
    obtain ⟨x, hx⟩ : ∃ x, us[k]? = some x := ⟨_, List.getElem?_eq_getElem (by omega)⟩
    have hbx := hvb x (List.mem_of_getElem? hx)
    obtain ⟨eb, off, rfl, hc⟩ := hve (by omega)
    obtain ⟨⟨eo, ec, edv, _⟩, _⟩ := id hbx
    have hf := fun i hi => flat_get evCells 3 (fun _ => rfl) us k i x hx hi
    have z0 := hc (k * 3 + 0) (.int .i64 x.e.kind) (by rw [hf 0 (by decide)]; rfl)
    have z1 := hc (k * 3 + 1) (.int .i64 x.e.n) (by rw [hf 1 (by decide)]; rfl)
    have z2 := hc (k * 3 + 2) x.dv (by rw [hf 2 (by decide)]; rfl)
    rw [edv] at z2
    exact ⟨eb, off, x, eo, _, ec, rfl, hx, edv, edv ▸ hbx, by rw [← ees, List.getElem?_map, hx]; rfl, fun wr hb => ⟨(hIW.below hb).cell z0, (hIW.below hb).cell z1, (hIW.below hb).cell z2⟩⟩
  have HG : Hid (∀ k, Raft.Good n ((Cl.begin n).run (es.take k)).1) := fun k => good_run _ _ (Raft.Good.begin n)
  have HTk : Hid (∀ k e, es[k]? = some e → (Cl.begin n).run (es.take (k + 1)) = ((((Cl.begin n).run (es.take k)).1.event e).1, ((Cl.begin n).run (es.take k)).2 ++ [(((Cl.begin n).run (es.take k)).1.event e).2])) := fun k e h => run_take es k e h _
  have HB : Hid (Bd ((Cl.begin n).run es).1 ∧ LB n ((Cl.begin n).run es).1) := ⟨(good_run _ _ (Raft.Good.begin n)).1, lb_run _ _ (LB.begin n)⟩
  obtain ⟨C, eC⟩ : ∃ C, ((Cl.begin n).run es).1 = C := ⟨_, rfl⟩
  obtain ⟨K, eK⟩ : ∃ K, ((Cl.begin n).run es).2 = K := ⟨_, rfl⟩
  have hKL : K.length = L := by rw [← eK, run_len, eLs]
  have HEnd : Hid (∀ d v wr, CI W M d ((Cl.begin n).run (es.take L)).1 ((Cl.begin n).run (es.take L)).2 L v wr → CI W M d C K L v wr) := fun d v wr h => by rw [← eLs, List.take_length, eC, eK, eLs] at h; exact h
  rw [eC] at HB
  rw [eC, eK]
  have HTold : Hid (∀ d so sc wr, CI W M d C K L (.slice so L sc) wr → Calls Try.prog 21 #[.pointer (some ⟨d, 0, none⟩)] wr fun r w5 => ∃ (p1 : Option Addr) (p2 p3 : Nat) (n1 : Option Addr) (n2 n3 : Nat) (c1 : Option Addr) (c2 c3 : Nat), r = .returned (.agg #[.slice p1 p2 p3, .slice n1 n2 n3, .slice c1 c2 c3, .bool C.conflict]) ∧ w5.heap[w.heap.size]? = some (.cells #[.slice none 0 0, .slice none 0 0, .slice none 0 0, .bool false] 30 (0, 0)) ∧ Hid (RunE w M C K (.returned (.tuple #[.agg #[.slice p1 p2 p3, .slice n1 n2 n3, .slice c1 c2 c3, .bool C.conflict], .slice so L sc, .int .i64 0])) (sets w5 w.heap.size [(0, .slice p1 p2 p3), (1, .slice n1 n2 n3), (2, .slice c1 c2 c3), (3, .bool C.conflict)]))) := fun d so sc wr h => by
    obtain ⟨M', O', nb, a, hG, hr, hf⟩ := h
    refine (gtold_any wr M' O' d nb C hG HB.out.1 n h1 h7 HB.out.2).mono ?_
    rintro r w5 ⟨p1, p2, p3, n1, n2, n3, c1, c2, c3, rfl, M2, f5, hC⟩
    have b5 : Below W.heap.size W w5 := (aft_below a).trans (f5.below.mono a.size)
    have hr5 : w5.ownsRow W.heap.size 3 1 (.slice so L sc) L (ints K) := row_kept hr (fun g hg => f5.below.block g (row_lt hr hg).2)
    obtain ⟨M3, q1, q2, q3, q4⟩ := RowM.freeze hr5 f5.inn (fun g hg => by
      cases em : M2 g with
      | none => rfl
      | some o =>
        rcases f5.new g (by rw [em]; simp) with g' | g'
        · exact absurd (hf g hg).2 g'
        · have := (row_lt hr hg).2; omega)
    have hw9 : w5.heap[w.heap.size]? = some (.cells #[.slice none 0 0, .slice none 0 0, .slice none 0 0, .bool false] 30 (0, 0)) := (b5.block _ (by omega)).trans hbx
    have hnew : ∀ b, M3 b ≠ none → M b ≠ none ∨ W.heap.size ≤ b := fun b hb => by
      rcases q4 b hb with g | g
      · rcases f5.new b g with g' | g'
        · exact a.newM b g'
        · exact .inr (Nat.le_trans a.size g')
      · exact .inr (row_lt hr5 g).1
    refine ⟨p1, p2, p3, n1, n2, n3, c1, c2, c3, rfl, hw9, p1, p2, p3, n1, n2, n3, c1, c2, c3, so, sc, by rw [hKL], M3, ⟨(a.le.trans f5.le).trans q1, ?_, sets_belowB (Nat.le_refl _) _ _ (bW.trans (b5.mono bW.size)), fun b hb => (hnew b hb).imp id (fun h => by omega)⟩, ?_, by rw [hKL]; exact q3⟩
    · intro x o hx
      refine (sets_ne _ w5 ?_).trans (q2 x o hx)
      rintro rfl
      rcases hnew _ (by rw [hx]; simp) with g' | g'
      · exact g' (hI.fresh (Nat.le_refl _))
      · omega
    · obtain ⟨ps, us2, e1, e2, e3, e4, e5⟩ := hC
      exact ⟨ps, us2, e1, ⟨e2.1.le q1, fun x hx => PeerM.le (e2.2 x hx) q1⟩, e3, e4.le q1, e5.le q1⟩
  obtain ⟨i0, hii, hz0, hz1, hz2⟩ := info_parts info3
  have HI3 : Hid (Try.prog.info? 3 = some i0 ∧ i0.zero = some (.int .i64 0) ∧ i0.size = 1 ∧ i0.bytes = 8) := ⟨hii, hz0, hz1, hz2⟩
  have hL1 : ¬ ((4096 : Int) < L) := by omega
  have hL2 : ¬ ((300 : Int) < L) := by omega
  have hn1 : ¬ ((n : Int) < 1) := by omega
  have hn2 : ¬ ((7 : Int) < n) := by omega
  clear hii hz0 hz1 hz2 hve hvb hvn hvl hvc1 hIW hI ees eLs eC eK hKL HB hl ev eL bW sW hbx
  go_enter Try.func8, Try.ntmps8
  go_wp2_with (go_at_call 19; refine (HNew.out _ (Below.refl _ _)).mono ?_; rintro rr w1 ⟨d, rfl, HC1⟩)
  go_loopw [8, 30] (fun v i wr => ∃ (k : Nat) (so : Option Addr) (sc : Nat), k ≤ L ∧ v = .slice so k sc ∧ i = .int .i64 k ∧ Hid (CI W M d ((Cl.begin n).run (es.take k)).1 ((Cl.begin n).run (es.take k)).2 k v wr)) (fun _ i _ => L - (intOf i).toNat)
  case atStart => exact ⟨0, none, 0, Nat.zero_le _, rfl, rfl, HC1⟩
  case round =>
    obtain ⟨k, so, sc, hk, rfl, rfl, HR⟩ := hrel
    by_cases hlt : k < L
    · have hltI : (k : Int) < L := by omega
      obtain ⟨eb, off, x, eo, el, ec, rfl, hx, edv, hbt, hxe, hfar⟩ := HCell.out k hlt
      obtain ⟨q0, q1, q2⟩ := hfar wr HR.out.below
      obtain ⟨X, hX⟩ : ∃ X, wr.alloc (.cells #[.int .i64 x.e.kind, .int .i64 x.e.n, .slice eo el ec] 58) = X := ⟨_, rfl⟩
      have HJ := hide (CI.step HR.out h1 h7 (HG.out k) x.e eo el ec hbt hX)
      have hbox : X.heap[wr.heap.size]? = some (.cells #[.int .i64 x.e.kind, .int .i64 x.e.n, .slice eo el ec] 58 (0, 0)) := by rw [← hX]; exact heap_alloc_new wr _
      have s0 := cell_of (i := 0) hbox (v := .int .i64 x.e.kind) rfl
      have s1 := cell_of (i := 1) hbox (v := .int .i64 x.e.n) rfl
      have s2 := cell_of (i := 2) hbox (v := .slice eo el ec) rfl
      have HK1 := hide (HTk.out k x.e hxe)
      obtain ⟨CD, eCD⟩ : ∃ CD, (((Cl.begin n).run (es.take k)).1.event x.e).2 = CD := ⟨_, rfl⟩
      rw [eCD] at HJ HK1
      clear hx edv hbt hxe hfar hbox HCell HNew HG HTk HEnd HTold eCD
      go_wp2_with (first
        | (go_at_call 20; refine HJ.out.mono ?_; rintro rr w5 ⟨Y, rfl, hY, HE⟩)
        | (at_builtin; obtain ⟨ys, y1, y2, y3, y4⟩ := HE.out; refine wpList_append_lies _ rfl _ _ 31 rfl W.heap.size 3 i0 (.int .i64 0) 1 8 Try.underlying31 HI3.out.1 HI3.out.2.1 HI3.out.2.2.1 HI3.out.2.2.2 rfl (by decide) _ k ys rfl y1 ⟨w5.heap.size, 0, none⟩ 1 1 [.int .i64 CD] rfl rfl y2 (fun u' hu' => by simp only [List.mem_cons, List.not_mem_nil, or_false] at hu'; rcases hu' with rfl; rfl) (by decide) (by unfold maxLen; omega) (by omega) y3 _ rfl ?_; intro g2 cap2 w2 z1 z2 z3 z4; have HN := hide (y4 g2 cap2 w2 z1 z2 z3); clear z1 z2 z3 z4 y1 y2 y3 y4))
      go_roundw
      case rel => exact ⟨k + 1, _, _, by omega, rfl, by go_num, by rw [HK1.out]; exact HN⟩
      case measure => simp [intOf]; omega
    · have hlt2 : ¬ (k : Int) < L := by omega
      obtain rfl : k = L := by omega
      have HE0 := hide (HTold.out d so sc wr (HEnd.out _ _ _ HR.out))
      clear HCell HNew HG HTk HEnd HTold
      go_wp2_with (go_at_call 21; refine HE0.out.mono ?_; rintro rr w5 ⟨p1, p2, p3, n1, n2, n3, c1, c2, c3, rfl, hw9, HE⟩; have z0 := cell_of (i := 0) hw9 (v := .slice none 0 0) rfl; have z1 := cell_of (i := 1) hw9 (v := .slice none 0 0) rfl; have z2 := cell_of (i := 2) hw9 (v := .slice none 0 0) rfl; have z3 := cell_of (i := 3) hw9 (v := .bool false) rfl; have f0 := frozen_of hw9 0; have f1 := frozen_of hw9 1; have f2 := frozen_of hw9 2; have f3 := frozen_of hw9 3; have HW9 := hide hw9; clear hw9)
      obtain ⟨WF, hWF⟩ : ∃ WF, sets w5 w.heap.size [(0, .slice p1 p2 p3), (1, .slice n1 n2 n3), (2, .slice c1 c2 c3), (3, .bool C.conflict)] = WF := ⟨_, rfl⟩
      have hblk : WF.heap[w.heap.size]? = some (.cells #[.slice p1 p2 p3, .slice n1 n2 n3, .slice c1 c2 c3, .bool C.conflict] 30 (0, 0)) := by
        rw [← hWF]
        have q2 := sets_at [(0, .slice p1 p2 p3), (1, .slice n1 n2 n3), (2, .slice c1 c2 c3), (3, .bool C.conflict)] HW9.out
        have e : setsA #[.slice none 0 0, .slice none 0 0, .slice none 0 0, .bool false] [(0, .slice p1 p2 p3), (1, .slice n1 n2 n3), (2, .slice c1 c2 c3), (3, .bool C.conflict)] = #[.slice p1 p2 p3, .slice n1 n2 n3, .slice c1 c2 c3, .bool C.conflict] := by simp [setsA]
        rw [e] at q2
        exact q2
      have k0 := cell_of (i := 0) hblk (v := .slice p1 p2 p3) rfl
      have k1 := cell_of (i := 1) hblk (v := .slice n1 n2 n3) rfl
      have k2 := cell_of (i := 2) hblk (v := .slice c1 c2 c3) rfl
      have k3 := cell_of (i := 3) hblk (v := .bool C.conflict) rfl
      have HT2 := HE.out
      rw [hWF] at HT2
      simp only [sets] at hWF
      rw [hWF]
      refine bodyPost_ret (v := .tuple #[.agg #[.slice p1 p2 p3, .slice n1 n2 n3, .slice c1 c2 c3, .bool C.conflict], .slice so k sc, .int .i64 0]) ?_ rfl HT2
      simp [results, Try.results8, go_sem, k0, k1, k2, k3]
end Go.Proofs.Ytklkglbimjajnaa.crun
namespace Go.Proofs.Ytklkglbimjajnaa.evd
open Raft mem grp ndw src drb crun
theorem info58 : (Try.prog.info? 58).map (fun i => (i.zero, i.size, i.bytes)) = some (some (.agg #[.int .i64 0, .int .i64 0, .slice none 0 0]), 3, 40) := by kernel_rfl
theorem bytesM_nil (M : Fz) : BytesM M (.slice none 0 0) [] := ⟨RowM.nil _ _, by simp⟩
def EP (w : World) (M : Fz) (d q n : Nat) (v dv : Value) (wr : World) : Prop := ∃ (us : List EV) (M' : Fz) (ys : List Int), us.length = n ∧ Mk 58 3 w M d q n (us.flatMap evCells) v wr M' ∧ (∀ x ∈ us, BytesM M' x.dv x.e.data) ∧ BytesM M' dv ys
def EI (w : World) (M : Fz) (d q n : Nat) (v : Value) (wr : World) : Prop := EP w M d q n v (.slice none 0 0) wr
section
variable {w wr w1 : World} {M : Fz} {d q n : Nat} {v dv : Value}
theorem EP.below (h : EP w M d q n v dv wr) (hb : Below wr.heap.size wr w1) : EP w M d q n v dv w1 := by
  obtain ⟨us, M', ys, hl, hm, hd, hy⟩ := h
  exact ⟨us, M', ys, hl, hm.below hb, hd, hy⟩
theorem EP.more (h : EP w M d q n v dv wr) {p : Nat} (hp : q ≤ p) : EP w M d p n v dv wr := by
  obtain ⟨us, M', ys, hl, hm, hd, hy⟩ := h
  exact ⟨us, M', ys, hl, hm.more hp, hd, hy⟩
theorem EP.next (h : EP w M d q n v dv wr) (hq : q ≤ 1000000000) (m : Int) (hm : m ≤ 256) : Calls Try.prog 85 #[.pointer (some ⟨d, 0, none⟩), .int .i64 m] wr fun e w1 => ∃ r : Nat, e = .returned (.int .i64 (r : Int)) ∧ ((r : Int) < m ∨ r = 0) ∧ wr.grownBy w1 (some d) ∧ Hid (EP w M d (q + 1) n v dv w1) := by
  obtain ⟨us, M', ys, hl, hk, hd, hy⟩ := h
  refine (next_any wr M' d q m hm hk.src (by omega)).mono ?_
  rintro e w1 ⟨r, rfl, ⟨r0, r2, r1⟩, s1, g1⟩
  exact ⟨r.toNat, by rw [Int.toNat_of_nonneg r0], by omega, g1, us, M', ys, hl, hk.draw s1 (Dr.of s1 g1), hd, hy⟩
theorem EP.chance (h : EP w M d q n v dv wr) (hq : q ≤ 1000000000) (m : Int) (h1 : 1 ≤ m) (hm : m ≤ 256) : Calls Try.prog 41 #[.pointer (some ⟨d, 0, none⟩), .int .i64 m] wr fun e w1 => ∃ r : Bool, e = .returned (.bool r) ∧ Hid (EP w M d (q + 1) n v dv w1) := by
  obtain ⟨us, M', ys, hl, hk, hd, hy⟩ := h
  refine (chance_any wr M' d q m h1 hm hk.src (by omega)).mono ?_
  rintro e w1 ⟨r, rfl, s1, g1⟩
  exact ⟨r, rfl, us, M', ys, hl, hk.draw s1 (Dr.of s1 g1), hd, hy⟩
theorem EP.bytes (h : EP w M d q n v dv wr) (hq : q ≤ 1000000000) : Calls Try.prog 124 #[.pointer (some ⟨d, 0, none⟩), .int .i64 3] wr fun e w1 => ∃ (o : Option Addr) (l c : Nat), e = .returned (.slice o l c) ∧ Hid (EP w M d (q + 256) n v (.slice o l c) w1) := by
  obtain ⟨us, M', ys, hl, hk, hd, hy⟩ := h
  refine (bytes_any wr M' d q hk.src (by omega) 3 (by omega) (by omega)).mono ?_
  rintro e w1 ⟨o, l, c, zs, M2, rfl, h1, h2, s2, d2⟩
  exact ⟨o, l, c, rfl, us, M2, zs, hl, hk.draw s2 d2, fun x hx => (hd x hx).le d2.le, h1⟩
end
theorem EP.lit {w wr X : World} {M : Fz} {d q n : Nat} {so : Option Addr} {sn sc : Nat} {dv : Value} (h : EP w M d q n (.slice so sn sc) dv wr) (k m : Int) (hX : wr.alloc (.cells #[.int .i64 k, .int .i64 m, dv] 58) = X) :
    ∃ ys, X.ownsRow w.heap.size 58 3 (.slice so sn sc) n ys ∧ (∀ j u, ([.int .i64 k, .int .i64 m, dv] : List Value)[j]? = some u → X.cell? ((⟨wr.heap.size, 0, none⟩ : Addr).add j) = some u) ∧ w.heap.size ≤ X.heap.size ∧
      ∀ g cap w', w'.ownsRow w.heap.size 58 3 (.slice (some ⟨g, 0, none⟩) (n + 1) cap) (n + 1) (ys ++ [.int .i64 k, .int .i64 m, dv]) → X.grownBy w' (Value.slice so sn sc).ownBlock → ((Value.slice so sn sc).ownBlock = some g ∨ g = X.heap.size) → EI w M d q (n + 1) (.slice (some ⟨g, 0, none⟩) (n + 1) cap) w' := by
  obtain ⟨us, M', ys, hl, hk, hd, hy⟩ := h
  have bX : Below wr.heap.size wr X := by rw [← hX]; exact grp.more (Below.refl _ _) _
  have hB : X.heap[wr.heap.size]? = some (.cells #[.int .i64 k, .int .i64 m, dv] 58 (0, 0)) := by rw [← hX]; exact heap_alloc_new wr _
  have hm1 := hk.below bX
  refine ⟨_, hm1.row, ?_, hm1.dr.grown.size, ?_⟩
  · intro j u hu
    rw [pile.add_at, Nat.zero_add]
    exact cell_of hB (by simpa using hu)
  · intro g cap w' p1 p2 p3
    refine ⟨us ++ [⟨⟨k, m, ys⟩, dv⟩], M', [], by simp [hl], hm1.push (by simpa [evCells] using p1) p2 p3, ?_, bytesM_nil _⟩
    intro x hx
    rcases List.mem_append.1 hx with h' | h'
    · exact hd x h'
    · rw [List.mem_singleton.1 h']; exact hy
theorem EP.lit2 {w wr X : World} {M : Fz} {d q n : Nat} {so : Option Addr} {sn sc : Nat} {dv : Value} (h : EP w M d q n (.slice so sn sc) dv wr) (k m k2 m2 : Int) (hX : wr.alloc (.cells #[.int .i64 k, .int .i64 m, dv, .int .i64 k2, .int .i64 m2, .slice none 0 0] 58) = X) :
    ∃ ys, X.ownsRow w.heap.size 58 3 (.slice so sn sc) n ys ∧ (∀ j u, ([.int .i64 k, .int .i64 m, dv, .int .i64 k2, .int .i64 m2, .slice none 0 0] : List Value)[j]? = some u → X.cell? ((⟨wr.heap.size, 0, none⟩ : Addr).add j) = some u) ∧ w.heap.size ≤ X.heap.size ∧
      ∀ g cap w', w'.ownsRow w.heap.size 58 3 (.slice (some ⟨g, 0, none⟩) (n + 2) cap) (n + 2) (ys ++ [.int .i64 k, .int .i64 m, dv, .int .i64 k2, .int .i64 m2, .slice none 0 0]) → X.grownBy w' (Value.slice so sn sc).ownBlock → ((Value.slice so sn sc).ownBlock = some g ∨ g = X.heap.size) → EI w M d q (n + 2) (.slice (some ⟨g, 0, none⟩) (n + 2) cap) w' := by
  obtain ⟨us, M', ys, hl, hk, hd, hy⟩ := h
  have bX : Below wr.heap.size wr X := by rw [← hX]; exact grp.more (Below.refl _ _) _
  have hB : X.heap[wr.heap.size]? = some (.cells #[.int .i64 k, .int .i64 m, dv, .int .i64 k2, .int .i64 m2, .slice none 0 0] 58 (0, 0)) := by rw [← hX]; exact heap_alloc_new wr _
  have hm1 := hk.below bX
  refine ⟨_, hm1.row, ?_, hm1.dr.grown.size, ?_⟩
  · intro j u hu
    rw [pile.add_at, Nat.zero_add]
    exact cell_of hB (by simpa using hu)
  · intro g cap w' p1 p2 p3
    refine ⟨us ++ [⟨⟨k, m, ys⟩, dv⟩, ⟨⟨k2, m2, []⟩, .slice none 0 0⟩], M', [], by simp [hl], hm1.push (by simpa [evCells] using p1) p2 p3, ?_, bytesM_nil _⟩
    intro x hx
    simp only [List.mem_append, List.mem_cons, List.not_mem_nil, or_false] at hx
    rcases hx with h' | rfl | rfl
    · exact hd x h'
    · exact hy
    · exact bytesM_nil _
theorem EI.first {w X : World} {M : Fz} {d q : Nat} (h : Src w M d q) (k m : Int) (hX : w.alloc (.cells #[.int .i64 k, .int .i64 m, .slice none 0 0] 58) = X) : EI w M d q 1 (.slice (some ⟨w.heap.size, 0, none⟩) 1 1) X := by
  have bX : Below w.heap.size w X := by rw [← hX]; exact grp.more (Below.refl _ _) _
  have hB : X.heap[w.heap.size]? = some (.cells #[.int .i64 k, .int .i64 m, .slice none 0 0] 58 (0, 0)) := by rw [← hX]; exact heap_alloc_new w _
  refine ⟨[⟨⟨k, m, []⟩, .slice none 0 0⟩], M, [], rfl, ⟨⟨by simp [evCells], .inr ⟨w.heap.size, 1, _, rfl, Nat.le_refl _, hB, Nat.le_refl _, by simp [maxLen], by simp, by simp [evCells]⟩⟩, h.below bX, Dr.of (h.below bX) (below_grown bX _), fun g hg => ?_, h.lt⟩, ?_, bytesM_nil _⟩
  · obtain rfl : w.heap.size = g := by simpa [Value.ownBlock] using hg
    exact h.inn.fresh (Nat.le_refl _)
  · intro x hx
    rw [List.mem_singleton.1 hx]; exact bytesM_nil _
theorem EI.none {w X : World} {M : Fz} {d q : Nat} (h : Src w M d q) (hX : w.alloc (.cells #[] 58) = X) : EI w M d q 0 (.slice (some ⟨w.heap.size, 0, none⟩) 0 0) X := ⟨[], M, [], rfl, Mk.first h 58 3 hX, by simp, bytesM_nil _⟩
theorem EP.base {w w1 wr : World} {M : Fz} {d q n p : Nat} {v dv : Value} (h : EP w1 M d q n v dv wr) (hs : Src w M d p) (g : w.grownBy w1 (some d)) : EP w M d q n v dv wr := by
  obtain ⟨us, M', ys, hl, hk, hd, hy⟩ := h
  have hsz := g.size
  have hlt := hs.lt
  refine ⟨us, M', ys, hl, ⟨?_, hk.src, ⟨hk.dr.le, hk.dr.inn, grown_trans g hk.dr.grown, fun b hb => (hk.dr.new b hb).imp id (fun h => by omega)⟩, hk.free, hlt⟩, hd, hy⟩
  obtain ⟨h1, h2⟩ := hk.row
  refine ⟨h1, ?_⟩
  rcases h2 with h2 | ⟨gg, cap, cur, e1, e2, e3⟩
  · exact .inl h2
  · exact .inr ⟨gg, cap, cur, e1, by omega, e3⟩
def EvsE (w : World) (M : Fz) (d q L : Nat) (e : Ending) (w' : World) : Prop := ∃ (o : Option Addr) (n c : Nat), e = .returned (.slice o n c) ∧ n ≤ L ∧ Hid (EI w M d q n (.slice o n c) w')
set_option maxRecDepth 20000 in
set_option maxHeartbeats 2000000 in
theorem calm_any (w : World) (M : Fz) (d q : Nat) (h : Src w M d q) (hq : q ≤ 100000000) (n : Nat) (h1 : 1 ≤ n) (h7 : n ≤ 7) :
    Calls Try.prog 83 #[.pointer (some ⟨d, 0, none⟩), .int .i64 n] w fun e w' => EvsE w M d (q + 2000) 130 e w' := by
  have HC0 : Hid (Calls Try.prog 85 #[.pointer (some ⟨d, 0, none⟩), .int .i64 n] w fun e w1 => ∃ (r : Nat) (X : World), e = .returned (.int .i64 (r : Int)) ∧ w1.alloc (.cells #[.int .i64 1, .int .i64 r, .slice none 0 0] 58) = X ∧ Hid (EI w M d (q + 1) 1 (.slice (some ⟨w1.heap.size, 0, none⟩) 1 1) X)) := by
    refine (next_any w M d q n (by omega) h (by omega)).mono ?_
    rintro e w1 ⟨r, rfl, ⟨r0, r2, r1⟩, s1, g1⟩
    exact ⟨r.toNat, _, by rw [Int.toNat_of_nonneg r0], rfl, EP.base (EI.first s1 1 _ rfl) h g1⟩
  obtain ⟨i0, hii, hz0, hz1, hz2⟩ := info_parts info58
  have HI3 : Hid (Try.prog.info? 58 = some i0 ∧ i0.zero = some (.agg #[.int .i64 0, .int .i64 0, .slice none 0 0]) ∧ i0.size = 3 ∧ i0.bytes = 40) := ⟨hii, hz0, hz1, hz2⟩
  clear hii hz0 hz1 hz2 h
  go_enter Try.func83, Try.ntmps83
  go_wp2_with fail
  refine HC0.out.mono ?_
  rintro e w1 ⟨r, X, rfl, hX, H1⟩
  have HC1 := hide (EP.next H1.out (by omega) 4 (by omega))
  clear HC0
  go_wp2_with (go_at_call 85; refine HC1.out.mono ?_; rintro e w2 ⟨t, rfl, ht, g2, H2⟩; have a2 : IntKind.i64.wrap (2 + (t : Int)) = 2 + (t : Int) := (by rw [IntKind.wrap_i64]; omega))
  clear HC1 H1 hX
  go_loopw [6, 7, 8] (fun v i j wr => ∃ (k l s : Nat) (so : Option Addr) (sc : Nat), k + l = 2 + t ∧ s ≤ 1 + k * 23 ∧ v = .slice so s sc ∧ i = .int .i64 l ∧ Hid (EI w M d (q + 2 + k * 256) s v wr)) (fun _ i _ _ => (intOf i).toNat)
  case atStart => exact ⟨0, 2 + t, 1, _, _, by omega, by omega, rfl, by go_num, H2⟩
  case round =>
    clear H2
    obtain ⟨k, l, s, so, sc, hkl, hs, rfl, rfl, HR⟩ := hrel
    by_cases hlt : 0 < l
    · have hltI : (0 : Int) < l := by omega
      have a3 : IntKind.i64.wrap (3 * (n : Int)) = 3 * (n : Int) := by rw [IntKind.wrap_i64]; omega
      go_wp2
      go_loopw [6, 8] (fun v j wr => ∃ (a b : Nat) (so : Option Addr) (sc : Nat), a + b = 3 * n ∧ v = .slice so (s + a) sc ∧ j = .int .i64 b ∧ Hid (EI w M d (q + 2 + k * 256) (s + a) v wr)) (fun _ j _ => (intOf j).toNat)
      case atStart => exact ⟨0, 3 * n, _, _, by omega, rfl, by go_num, HR⟩
      case round =>
        clear HR
        obtain ⟨a, b, so, sc, hab, rfl, rfl, HR⟩ := hrel
        by_cases hlt2 : 0 < b
        · have hlt2I : (0 : Int) < b := by omega
          obtain ⟨X, hX⟩ : ∃ X, wr.alloc (.cells #[.int .i64 2, .int .i64 0, .slice none 0 0] 58) = X := ⟨_, rfl⟩
          have HJ1 := hide (EP.lit HR.out 2 0 hX)
          go_wp2_with (at_builtin; obtain ⟨ys, y1, y2, y3, y4⟩ := HJ1.out; refine wpList_append_lies _ rfl _ _ 24 rfl w.heap.size 58 i0 (.agg #[.int .i64 0, .int .i64 0, .slice none 0 0]) 3 40 Try.underlying24 HI3.out.1 HI3.out.2.1 HI3.out.2.2.1 HI3.out.2.2.2 rfl (by decide) _ (s + a) ys rfl y1 ⟨wr.heap.size, 0, none⟩ 1 1 [.int .i64 2, .int .i64 0, .slice none 0 0] rfl rfl y2 (fun u' hu' => by simp only [List.mem_cons, List.not_mem_nil, or_false] at hu'; rcases hu' with rfl | rfl | rfl <;> rfl) (by decide) (by unfold maxLen; omega) (by omega) y3 _ rfl ?_; intro g2 cap2 wn z1 z2 z3 z4; have HN := hide (y4 g2 cap2 wn z1 z2 z3); clear z1 z2 z3 z4 y1 y2 y3 y4)
          go_roundw
          case rel => exact ⟨a + 1, b - 1, some ⟨g2, 0, none⟩, cap2, by omega, congrArg (fun n => Value.slice (some ⟨g2, 0, none⟩) n cap2) (by omega), by go_num, HN⟩
          case measure => simp [intOf]; omega
        · have hlt3 : ¬ (0 : Int) < b := by omega
          have HB := hide (EP.bytes HR.out (by omega))
          clear HR
          go_wp2_with (first
            | (go_at_call 124; refine HB.out.mono ?_; rintro e w3 ⟨o3, l3, c3, rfl, H3⟩; obtain ⟨X, hX⟩ : ∃ X, w3.alloc (.cells #[.int .i64 7, .int .i64 r, .slice o3 l3 c3, .int .i64 1, .int .i64 r, .slice none 0 0] 58) = X := ⟨_, rfl⟩; have HJ2 := hide (EP.lit2 H3.out 7 r 1 r hX))
            | (at_builtin; obtain ⟨ys, y1, y2, y3, y4⟩ := HJ2.out; refine wpList_append_lies _ rfl _ _ 24 rfl w.heap.size 58 i0 (.agg #[.int .i64 0, .int .i64 0, .slice none 0 0]) 3 40 Try.underlying24 HI3.out.1 HI3.out.2.1 HI3.out.2.2.1 HI3.out.2.2.2 rfl (by decide) _ (s + a) ys rfl y1 ⟨w3.heap.size, 0, none⟩ 2 2 [.int .i64 7, .int .i64 r, .slice o3 l3 c3, .int .i64 1, .int .i64 r, .slice none 0 0] rfl rfl y2 (fun u' hu' => by simp only [List.mem_cons, List.not_mem_nil, or_false] at hu'; rcases hu' with rfl | rfl | rfl | rfl | rfl | rfl <;> rfl) (by decide) (by unfold maxLen; omega) (by omega) y3 _ rfl ?_; intro g2 cap2 wn z1 z2 z3 z4; have HN := hide (y4 g2 cap2 wn z1 z2 z3); clear z1 z2 z3 z4 y1 y2 y3 y4))
          go_roundw
          case rel => exact ⟨k + 1, l - 1, s + a + 2, some ⟨g2, 0, none⟩, cap2, by omega, by omega, rfl, by go_num, EP.more HN.out (by omega)⟩
          case measure => simp [intOf]; omega
    · have hlt2 : ¬ (0 : Int) < l := by omega
      go_wp2
      go_ret
      exact ⟨so, s, sc, rfl, by omega, EP.more HR.out (by omega)⟩
end Go.Proofs.Ytklkglbimjajnaa.evd
