/- A proposal. -/
import Derived.Test.YtklkglbimjajnaaAdd
import Derived.Test.YtklkglbimjajnaaTick
namespace Go.Proofs.Ytklkglbimjajnaa.prop
open Go.ChangeShapes Go.WideShapes Go.ChangeAt Go.RowKit
open Go.Proofs.Ytklkglbimjajnaa.Raft Go.Proofs.Ytklkglbimjajnaa.mem Go.Proofs.Ytklkglbimjajnaa.grp Go.Proofs.Ytklkglbimjajnaa.look Go.Proofs.Ytklkglbimjajnaa.ndw Go.Proofs.Ytklkglbimjajnaa.grant Go.Proofs.Ytklkglbimjajnaa.stand Go.Proofs.Ytklkglbimjajnaa.lead Go.Proofs.Ytklkglbimjajnaa.rows2 Go.Proofs.Ytklkglbimjajnaa.post Go.Proofs.Ytklkglbimjajnaa.postb Go.Proofs.Ytklkglbimjajnaa.say Go.Proofs.Ytklkglbimjajnaa.lookb Go.Proofs.Ytklkglbimjajnaa.lookc Go.Proofs.Ytklkglbimjajnaa.commit Go.Proofs.Ytklkglbimjajnaa.too Go.Proofs.Ytklkglbimjajnaa.elect Go.Proofs.Ytklkglbimjajnaa.tick Go.Proofs.Ytklkglbimjajnaa.add
set_option linter.unusedVariables false

theorem bytes_len {M : Fz} {o : Option Addr} {n lc : Nat} {xs : List Int} (h : BytesM M (.slice o n lc) xs) : n = xs.length ∧ lc ≤ 9223372036854775807 ∧ n ≤ lc := by
  obtain ⟨⟨ao, cap, e, e1, e2, _⟩, _⟩ := h
  simp only [Value.slice.injEq] at e
  obtain ⟨_, rfl, rfl⟩ := e
  unfold maxLen at e2
  exact ⟨rfl, by omega, e1⟩

set_option maxHeartbeats 1000000 in
theorem prop_stale (w : World) (M : Fz) (O : Lb) (d : Nat) (nb : List Nat) (c : Cl) (h : G w M O d nb c) (k b : Nat) (hb : nb[k]? = some b) (dv : Value) (hr : (c.at k).role ≠ 2) :
    Calls Try.prog 96 #[.pointer (some ⟨d, 0, none⟩), .pointer (some ⟨b, 0, none⟩), dv] w fun r w' => r = .returned (.int .i64 15) ∧ w' = w := by
  obtain ⟨us, lv, vv, nv, mv, hn⟩ := h.at hb
  have c6 := (Nd.cs hn).1.2.2.2.2.2.2.1
  have e1 : (((c.at k).role : Int) != 2) = true := by simp; omega
  generalize (c.at k).role = R at *
  clear hn h hr
  go_enter Try.func96, Try.ntmps96
  go_wp2
  go_ret
  exact ⟨rfl, rfl⟩
set_option maxHeartbeats 1000000 in
theorem prop_size (w : World) (M : Fz) (O : Lb) (d : Nat) (nb : List Nat) (c : Cl) (h : G w M O d nb c) (k b : Nat) (hb : nb[k]? = some b) (xs : List Int) (o : Option Addr) (n lc : Nat) (hd : BytesM M (.slice o n lc) xs) (hr : (c.at k).role = 2) (hs : 1000 < xs.length ∨ (c.at k).log.length = 100) :
    Calls Try.prog 96 #[.pointer (some ⟨d, 0, none⟩), .pointer (some ⟨b, 0, none⟩), .slice o n lc] w fun r w' => r = .returned (.int .i64 14) ∧ w' = w := by
  have HL := hide (last_any w M O b k _ (h.at hb))
  obtain ⟨us, lv, vv, nv, mv, hn⟩ := h.at hb
  have c6 := (Nd.cs hn).1.2.2.2.2.2.2.1
  have e1 : (((c.at k).role : Int) != 2) = false := by simp; omega
  obtain ⟨hnl, hlc, _⟩ := bytes_len hd
  rw [← hnl] at hs
  by_cases hx : 1000 < n
  · have hxI : (1000 : Int) < n := by omega
    generalize (c.at k).role = R at *
    clear hn h hr hnl hd hs
    go_enter Try.func96, Try.ntmps96
    go_wp2
    go_ret
    exact ⟨rfl, rfl⟩
  · have hxI : ¬ (1000 : Int) < n := by omega
    have hL : (c.at k).log.length = 100 := by omega
    rw [hL] at HL
    generalize (c.at k).role = R at *
    clear hn h hr hnl hd hs hL
    go_enter Try.func96, Try.ntmps96
    go_wp2_with (go_at_call 138; refine HL.out.mono ?_; rintro rr w1 ⟨rfl, hw1⟩; have hw2 := hw1.symm; subst hw2; clear hw1)
    go_ret
    exact ⟨rfl, rfl⟩
set_option maxHeartbeats 2000000 in
theorem prop_ok (w : World) (M : Fz) (O : Lb) (d : Nat) (nb : List Nat) (c : Cl) (h : G w M O d nb c) (k b : Nat) (hb : nb[k]? = some b) (xs : List Int) (o : Option Addr) (n lc : Nat) (hd : BytesM M (.slice o n lc) xs) (h1 : 1 ≤ c.peers.length) (h7 : c.peers.length ≤ 7) (hF : Fine c.peers.length (c.at k)) (hch : c.chosen.length ≤ 1000) (hr : (c.at k).role = 2) (hs : ¬ (1000 < xs.length ∨ (c.at k).log.length = 100)) :
    Calls Try.prog 96 #[.pointer (some ⟨d, 0, none⟩), .pointer (some ⟨b, 0, none⟩), .slice o n lc] w fun r w' => r = .returned (.int .i64 0) ∧ Did M O w d nb ((c.put k { c.at k with log := (c.at k).log ++ [⟨(c.at k).term, (c.at k).log.length + 1, xs⟩], mat := (c.at k).mat.set k ((c.at k).log.length + 1) }).commits k) w' := by
  have st := h.sta
  have hkl : k < c.peers.length := by have := (List.getElem?_eq_some_iff.1 hb).1; have := h.len; omega
  have HL := hide (last_any w M O b k _ (h.at hb))
  obtain ⟨us, lv, vv, nv, mv, hn⟩ := h.at hb
  have c6 := (Nd.cs hn).1.2.2.2.2.2.2.1
  have e1 : (((c.at k).role : Int) != 2) = false := by simp; omega
  obtain ⟨hnl, hlc, _⟩ := bytes_len hd
  have hxI : ¬ (1000 : Int) < n := by omega
  have hll := hF.log
  obtain ⟨q1, q2, q3⟩ := hF.lists hr
  obtain ⟨c1, hc1⟩ : ∃ c1, c1 = c.put k { c.at k with log := (c.at k).log ++ [⟨(c.at k).term, (c.at k).log.length + 1, xs⟩] } := ⟨_, rfl⟩
  have hc1k : c1.at k = { c.at k with log := (c.at k).log ++ [⟨(c.at k).term, (c.at k).log.length + 1, xs⟩] } := by rw [hc1]; exact at_put c k _ hkl
  have hc1n : c1.peers.length = c.peers.length := by rw [hc1]; exact put_len _ _ _
  obtain ⟨c2, hc2⟩ : ∃ c2, c2 = c.put k { c.at k with log := (c.at k).log ++ [⟨(c.at k).term, (c.at k).log.length + 1, xs⟩], mat := (c.at k).mat.set k ((c.at k).log.length + 1) } := ⟨_, rfl⟩
  have hc2k : c2.at k = { c.at k with log := (c.at k).log ++ [⟨(c.at k).term, (c.at k).log.length + 1, xs⟩], mat := (c.at k).mat.set k ((c.at k).log.length + 1) } := by rw [hc2]; exact at_put c k _ hkl
  rw [← hc2]
  have HAd : Hid (Calls Try.prog 139 #[.pointer (some ⟨b, 0, none⟩), .slice o n lc] w fun r w' => r = .returned (.tuple #[]) ∧ Did M O w d nb c1 w') := by
    refine (add_any w M O b k _ st (h.at hb) xs o n lc hd (by omega) (by omega)).mono ?_
    rintro r w' ⟨rfl, h2⟩
    rw [hc1]
    exact ⟨rfl, NDid.lift h2 h hb⟩
  obtain ⟨V, hV⟩ : ∃ V, V = (c.at k).log.length + 1 := ⟨_, rfl⟩
  have HSt : Hid (∀ wx, Did M O w d nb c1 wx → ∃ g cap ML, (wx.cell? ⟨b, 9, none⟩ = some (.slice (some ⟨g, 0, none⟩) ML cap) ∧ wx.cell? ⟨b, 3, none⟩ = some (.int .i64 k) ∧ (∃ z : Int, wx.cell? ⟨g, k, none⟩ = some (.int .i64 z)) ∧ wx.frozen? ⟨g, k, none⟩ = false) ∧ k < ML ∧ Hid (∀ q, Did M O w d nb c2 ((wx.drewN q).setCell ⟨g, k, none⟩ (.int .i64 V))) ∧ Hid (∀ q, Calls Try.prog 138 #[.pointer (some ⟨b, 0, none⟩)] (wx.drewN q) fun r w' => r = .returned (.int .i64 (V : Nat)) ∧ w' = wx.drewN q)) := fun wx hx => by
    obtain ⟨M1, O1, a1, g1⟩ := hx
    obtain ⟨us1, lv1, vv1, nv1, mv1, hn1⟩ := g1.at hb
    have hml : (c1.at k).mat.length = c.peers.length := by rw [hc1k]; exact q2
    obtain ⟨g, cap, rfl, hg1, hg2, hcells, hfz⟩ := own_at hn1.mat (by omega)
    have hcs := Nd.cs hn1
    refine ⟨g, cap, _, ⟨hcs.1.2.2.2.2.2.2.2.2.2, hcs.1.2.2.2.1, ⟨_, hcells k _ (by rw [List.getElem?_map, getD_get (by omega)]; rfl)⟩, hfz k⟩, by omega, fun q => ?_, fun q => ?_⟩
    · have hGq := g1.below (drewN_below wx q)
      have h2 := NDid.lift (NDid.setMat hGq.sta (hn1.keep (w' := wx.drewN q) (fun _ _ => rfl) (Le.refl _) (fun _ h => h)) k V) hGq hb
      have e9 : c1.put k { c1.at k with mat := (c1.at k).mat.set k V } = c2 := by
        rw [hc1k, hc1, hc2, hV]
        simp [Cl.put, List.set_set]
      rw [e9] at h2
      exact Did.trans (a1.below (drewN_below wx q)) h2
    · have h9 := last_any (wx.drewN q) M1 O1 b k _ ((g1.below (drewN_below wx q)).at hb)
      rw [hc1k] at h9
      have e9 : ({ c.at k with log := (c.at k).log ++ [⟨(c.at k).term, (c.at k).log.length + 1, xs⟩] } : Peer).log.length = V := by simp [hV]
      rw [e9] at h9
      exact h9
  have HCm : Hid (∀ wx, Did M O w d nb c2 wx → Calls Try.prog 140 #[.pointer (some ⟨d, 0, none⟩), .pointer (some ⟨b, 0, none⟩)] wx fun r w' => r = .returned (.tuple #[]) ∧ Did M O w d nb (c2.commits k) w') := fun wx hx => by
    obtain ⟨M1, O1, a1, g1⟩ := hx
    have hn2 : c2.peers.length = c.peers.length := by rw [hc2]; exact put_len _ _ _
    refine (commits_any wx M1 O1 d nb c2 g1 k b hb (by omega) (by omega) (by rw [hc2k]; simp; omega) (by rw [hc2k]; have := hF.commit; simp; omega) (by rw [hc2k]; simp; omega) (by rw [hc2]; exact hch)).mono ?_
    rintro r w' ⟨rfl, h2⟩
    exact ⟨rfl, Did.trans a1 h2⟩
  have hLI : (((c.at k).log.length : Int) == 100) = false := by simp; omega
  generalize (c.at k).role = R at *
  generalize (c.at k).log.length = L at *
  clear hn h hr hnl hd hs q1 q2 q3 st hc1 hc1k hc2 hc2k hF hV
  go_enter Try.func96, Try.ntmps96
  go_wp2_with (first
    | (go_at_call 138; refine HL.out.mono ?_; rintro rr w1 ⟨rfl, hw1⟩; have hw2 := hw1.symm; subst hw2; clear hw1)
    | (go_at_call 139; refine HAd.out.mono ?_; rintro rr w3 ⟨rfl, hd3⟩; have HD3 := hide hd3; clear hd3))
  obtain ⟨g, cap, ML, ⟨x9, x3, ⟨z, xg⟩, fg⟩, hkM, HS3, HL3⟩ := HSt.out _ HD3.out
  have hkMI : (k : Int) < ML := by omega
  go_region_law (first | (go_simp; go_at_call 138; refine (HL3.out 1).mono ?_; rintro rr w9 ⟨rfl, hw9⟩; have hw2 := hw9.symm; subst hw2; clear hw9))
  all_goals
    go_wp2_with (go_at_call 140; refine (HCm.out _ (by first | exact HS3.out _ | exact (HS3.out 0).drew)).mono ?_; rintro rr w5 ⟨rfl, hd5⟩; have HD5 := hide hd5; clear hd5)
    go_ret
    exact ⟨rfl, HD5.out⟩
end Go.Proofs.Ytklkglbimjajnaa.prop
