/- A vote is granted, or not. -/
import Derived.Test.YtklkglbimjajnaaNdw
namespace Go.Proofs.Ytklkglbimjajnaa.grant
open Go.ChangeShapes Go.WideShapes Go.ChangeAt Go.RowKit
open Go.Proofs.Ytklkglbimjajnaa.Raft Go.Proofs.Ytklkglbimjajnaa.mem Go.Proofs.Ytklkglbimjajnaa.grp Go.Proofs.Ytklkglbimjajnaa.look Go.Proofs.Ytklkglbimjajnaa.ndw
set_option linter.unusedVariables false

theorem Nod.below {w w' : World} {M : Fz} {O : Lb} {b k : Nat} {p : Peer} (st : Sta M O w) (h : Nod w M O b k p) (hb : Below w.heap.size w w') : Nod w' M O b k p := by
  obtain ⟨us, lv, vv, nv, mv, hn⟩ := h
  exact ⟨us, lv, vv, nv, mv, hn.keep (fun x hx => hb.block x (st.ok x _ hx).2) (Le.refl _) (fun _ hx => hx)⟩
theorem NDid.same {w w' : World} {M : Fz} {O : Lb} {b k : Nat} {p : Peer} (st : Sta M O w) (h : Nod w M O b k p) (hb : Below w.heap.size w w') : NDid M O w b k p w' :=
  ⟨M, O, (Aft.refl _ st).below hb, Nod.below st h hb⟩

/-- Behind a vote that was asked for. -/
def GrantE (w : World) (b frm term pt pv : Nat) (ahd : Bool) (r : Ending) (w' : World) : Prop :=
  (r = .returned (.bool true) ∧ term = pt ∧ (pv = 0 ∨ pv = frm + 1) ∧ ahd = true ∧ ∃ ob q, w' = (sets (w.alloc ob) b [(1, .int .i64 ((frm + 1 : Nat) : Int))]).drewN q) ∨
  (r = .returned (.bool false) ∧ ¬ (term = pt ∧ (pv = 0 ∨ pv = frm + 1) ∧ ahd = true) ∧ ∃ ob q, w' = (w.alloc ob).drewN q)
set_option maxHeartbeats 1600000 in
/-- The walk, of plain numbers. -/
theorem grants_core (w : World) (b kind frm to term a b2 c2 pt pv : Nat) (ok ahd : Bool) (o : Option Addr) (n c : Nat) (hf : frm ≤ 1000)
    (c0 : ∀ ob, (w.alloc ob).cell? ⟨b, 0, none⟩ = some (.int .i64 pt)) (c1 : ∀ ob, (w.alloc ob).cell? ⟨b, 1, none⟩ = some (.int .i64 pv)) (f1 : ∀ ob, (w.alloc ob).frozen? ⟨b, 1, none⟩ = false)
    (HA : Hid (∀ ob q, Calls Try.prog 155 #[.pointer (some ⟨b, 0, none⟩), .int .i64 a, .int .i64 b2] ((w.alloc ob).drewN q) fun r w' => r = .returned (.bool ahd) ∧ w' = (w.alloc ob).drewN q)) :
    Calls Try.prog 143 #[.pointer (some ⟨b, 0, none⟩), .agg #[.int .i64 kind, .int .i64 frm, .int .i64 to, .int .i64 term, .int .i64 a, .int .i64 b2, .int .i64 c2, .bool ok, .slice o n c]] w fun r w' => GrantE w b frm term pt pv ahd r w' := by
  have HV : Hid (∀ ob, Calls Try.prog 150 #[.int .i64 frm] (w.alloc ob) fun r w' => r = .returned (.int .i64 ((frm + 1 : Nat) : Int)) ∧ w' = w.alloc ob) := fun ob => voteFor_any _ frm hf
  by_cases h1 : term = pt
  · subst h1
    by_cases h2 : pv = 0
    · subst h2
      cases ahd
      · skip
        go_enter Try.func143, Try.ntmps143
        go_wp2_with (refine (HV.out _).mono ?_; rintro e w' ⟨rfl, rfl⟩)
        go_quiet (first | (go_at_call 155; refine Calls.quiet_of_same (HA.out _ _)))
        go_wp2
        go_ret
        exact .inr ⟨rfl, by simp, _, _, rfl⟩
      · skip
        go_enter Try.func143, Try.ntmps143
        go_wp2_with (refine (HV.out _).mono ?_; rintro e w' ⟨rfl, rfl⟩)
        go_quiet (first | (go_at_call 155; refine Calls.quiet_of_same (HA.out _ _)))
        go_wp2
        go_ret
        exact .inl ⟨rfl, rfl, .inl rfl, rfl, _, _, rfl⟩
    · by_cases h3 : pv = frm + 1
      · subst h3
        have e3 : ¬ ((frm : Int) + 1 = 0) := by omega
        cases ahd
        · skip
          go_enter Try.func143, Try.ntmps143
          go_wp2_with (refine (HV.out _).mono ?_; rintro e w' ⟨rfl, rfl⟩)
          go_quiet (first | (go_at_call 155; refine Calls.quiet_of_same (HA.out _ _)))
          go_wp2
          go_ret
          exact .inr ⟨rfl, by simp, _, _, rfl⟩
        · skip
          go_enter Try.func143, Try.ntmps143
          go_wp2_with (refine (HV.out _).mono ?_; rintro e w' ⟨rfl, rfl⟩)
          go_quiet (first | (go_at_call 155; refine Calls.quiet_of_same (HA.out _ _)))
          go_wp2
          go_ret
          exact .inl ⟨rfl, rfl, .inr rfl, rfl, _, _, rfl⟩
      · have e2 : ((pv : Int) == 0) = false := by simp; omega
        have e3 : ((pv : Int) == (frm : Int) + 1) = false := by simp; omega
        go_enter Try.func143, Try.ntmps143
        go_wp2_with (refine (HV.out _).mono ?_; rintro e w' ⟨rfl, rfl⟩)
        go_quiet (first | (go_at_call 155; refine Calls.quiet_of_same (HA.out _ _)))
        go_wp2
        go_ret
        exact .inr ⟨rfl, (fun h => by rcases h.2.1 with h | h <;> omega), _, _, rfl⟩
  · have e1 : ((term : Int) != (pt : Int)) = true := by simp; omega
    cases hd : ((pv : Int) == 0)
    · cases hd2 : ((pv : Int) == (frm : Int) + 1)
      · skip
        go_enter Try.func143, Try.ntmps143
        go_wp2_with (refine (HV.out _).mono ?_; rintro e w' ⟨rfl, rfl⟩)
        go_quiet (first | (go_at_call 155; refine Calls.quiet_of_same (HA.out _ _)))
        go_wp2
        go_ret
        exact .inr ⟨rfl, (fun h => h1 h.1), _, _, rfl⟩
      · skip
        go_enter Try.func143, Try.ntmps143
        go_wp2_with (refine (HV.out _).mono ?_; rintro e w' ⟨rfl, rfl⟩)
        go_quiet (first | (go_at_call 155; refine Calls.quiet_of_same (HA.out _ _)))
        go_wp2
        go_ret
        exact .inr ⟨rfl, (fun h => h1 h.1), _, _, rfl⟩
    · skip
      go_enter Try.func143, Try.ntmps143
      go_wp2_with (refine (HV.out _).mono ?_; rintro e w' ⟨rfl, rfl⟩)
      go_quiet (first | (go_at_call 155; refine Calls.quiet_of_same (HA.out _ _)))
      go_wp2
      go_ret
      exact .inr ⟨rfl, (fun h => h1 h.1), _, _, rfl⟩

theorem grants_any (w : World) (M : Fz) (O : Lb) (b k : Nat) (p : Peer) (st : Sta M O w) (h : Nod w M O b k p) (m : Msg) (o : Option Addr) (n c : Nat) (hf : m.frm ≤ 1000) :
    Calls Try.prog 143 #[.pointer (some ⟨b, 0, none⟩), .agg (msgA m (.slice o n c))] w fun r w' => r = .returned (.bool (okV p m)) ∧ NDid M O w b k (grantP p m.frm (okV p m)) w' := by
  have hal : ∀ ob, Below w.heap.size w (w.alloc ob) := fun ob => more (Below.refl _ _) _
  obtain ⟨us, lv, vv, nv, mv, hn⟩ := id h
  have hN : ∀ ob, Nd (w.alloc ob) M O b k p us lv vv nv mv := fun ob => hn.keep (fun x hx => (hal ob).block x (st.ok x _ hx).2) (Le.refl _) (fun _ hx => hx)
  refine (grants_core w b m.kind m.frm m.to m.term m.a m.b m.c p.term p.vote m.ok (decide (lastTerm p.log < m.b ∨ m.b = lastTerm p.log ∧ p.log.length ≤ m.a)) o n c hf (fun ob => (Nd.cs (hN ob)).1.1) (fun ob => (Nd.cs (hN ob)).1.2.1) (fun ob => (Nd.cs (hN ob)).2.2.1)
    (fun ob q => notAhead_any _ M O b k p (Nod.below (st.below (hal ob)) ⟨us, lv, vv, nv, mv, hN ob⟩ (drewN_below _ q)) m.a m.b)).mono ?_
  rintro r w' (⟨rfl, h1, h2, h3, ob, q, rfl⟩ | ⟨rfl, h1, ob, q, rfl⟩)
  · have e : okV p m = true := by unfold okV; simp only [decide_eq_true_eq] at h3 ⊢; exact ⟨h1, h2, h3⟩
    rw [e]
    refine ⟨rfl, NDid.below ?_ (drewN_below _ q)⟩
    obtain ⟨M', O', a, h4⟩ := NDid.sets (st.below (hal ob)) (hN ob) (Below.refl _ _) [(1, .int .i64 ((m.frm + 1 : Nat) : Int))] { p with vote := m.frm + 1 } vv nv mv rfl rfl (.inl ⟨rfl, rfl⟩) (.inl ⟨rfl, rfl⟩) (.inl ⟨rfl, rfl⟩)
    exact ⟨M', O', ((Aft.refl _ st).below (hal ob)).trans a, h4⟩
  · have e : okV p m = false := by
      unfold okV
      simp only [decide_eq_false_iff_not]
      simp only [decide_eq_true_eq] at h1
      exact h1
    rw [e]
    exact ⟨rfl, NDid.same st h ((hal ob).trans ((drewN_below _ q).mono (hal ob).size))⟩
end Go.Proofs.Ytklkglbimjajnaa.grant
