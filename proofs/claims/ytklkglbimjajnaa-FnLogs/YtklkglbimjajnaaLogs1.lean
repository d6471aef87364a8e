/- What comes in as a slice of bytes, or as a slice of these, reads as bytes, or as lists of bytes. -/
import Derived.Test.YtklkglbimjajnaaEve
import Derived.Laws.AppendOwnNone
import Derived.Maps.AppendAt
import Derived.Test.YtklkglbimjajnaaDraws
import Derived.Test.YtklkglbimjajnaaSame
import Derived.Test.YtklkglbimjajnaaPile
import Derived.OpenShut
import Derived.ShutString
import Derived.ChangeOld
/- Rows of events that are drawn, put together. -/
namespace Go.Proofs.Ytklkglbimjajnaa.evf
open Go.ChangeShapes Go.WideShapes Go.ChangeAt Go.RowKit
open Go.Proofs.Ytklkglbimjajnaa.Raft Go.Proofs.Ytklkglbimjajnaa.mem Go.Proofs.Ytklkglbimjajnaa.grp Go.Proofs.Ytklkglbimjajnaa.ndw Go.Proofs.Ytklkglbimjajnaa.src Go.Proofs.Ytklkglbimjajnaa.drb Go.Proofs.Ytklkglbimjajnaa.crun Go.Proofs.Ytklkglbimjajnaa.evd Go.Proofs.Ytklkglbimjajnaa.eve
set_option linter.unusedVariables false

theorem Mk.push2 {e sz : Nat} {w wr : World} {M M' : Fz} {d q n : Nat} {xs : List Value} {v : Value} (h : Mk e sz w M d q n xs v wr M') {w' : World} {m : Nat} {v' : Value} {ys : List Value} (p1 : w'.ownsRow w.heap.size e sz v' m ys) (p2 : wr.grownBy w' v.ownBlock) (p3 : v'.ownBlock = v.ownBlock ∨ v'.ownBlock = some wr.heap.size) : Mk e sz w M d q m ys v' w' M' := by
  have hI : In M' w' := h.dr.inn.grown p2 h.free
  refine ⟨p1, h.src.grown p2 (fun b hb => ⟨(h.ne b hb).1, h.free b hb⟩), ⟨h.dr.le, hI, ?_, h.dr.new⟩, ?_, h.lt⟩
  · exact ⟨p2.os.trans h.dr.grown.os, p2.tape.trans h.dr.grown.tape, p2.output.trans h.dr.grown.output, Nat.le_trans h.dr.grown.size p2.size, fun b hb hbd => (p2.block b (Nat.lt_of_lt_of_le hb h.dr.grown.size) (fun e => by have := (h.ne b e.symm).2.2; omega)).trans (h.dr.grown.block b hb hbd)⟩
  · intro g' hg'
    rcases p3 with p3 | p3
    · exact h.free g' (by rw [← p3]; exact hg')
    · rw [p3] at hg'
      simp only [Option.some.injEq] at hg'
      exact h.dr.inn.fresh (by omega)
/-- Two rows of events: the second one is to be put behind the first. -/
def E2 (w : World) (M : Fz) (d q n m : Nat) (v v2 : Value) (wr : World) : Prop := ∃ (us us2 : List EV) (M' : Fz), us.length = n ∧ us2.length = m ∧ Mk 58 3 w M d q n (us.flatMap evCells) v wr M' ∧ (∀ x ∈ us, BytesM M' x.dv x.e.data) ∧ wr.ownsRow w.heap.size 58 3 v2 m (us2.flatMap evCells) ∧ ∀ x ∈ us2, BytesM M' x.dv x.e.data
theorem ev_ones {M : Fz} {us : List EV} (h : ∀ x ∈ us, BytesM M x.dv x.e.data) : ∀ u ∈ us.flatMap evCells, u.oneCell' = true := by
  intro u hu
  obtain ⟨x, hx, hux⟩ := List.mem_flatMap.1 hu
  obtain ⟨⟨ao, cap, e, _⟩, _⟩ := h x hx
  simp only [evCells, List.mem_cons, List.not_mem_nil, or_false] at hux
  rcases hux with rfl | rfl | rfl
  · rfl
  · rfl
  · rw [e]; rfl
theorem EP.evs {w wr : World} {M : Fz} {d q n p L f : Nat} {v : Value} {args : Array Value} (h : EI w M d q n v wr) (hc : ∀ M', Src wr M' d q → Calls Try.prog f args wr fun e w2 => EvsE wr M' d p L e w2) :
    Calls Try.prog f args wr fun e w2 => ∃ (o : Option Addr) (m c : Nat), e = .returned (.slice o m c) ∧ m ≤ L ∧ Hid (E2 w M d p n m v (.slice o m c) w2) := by
  obtain ⟨us, M', ys, hl, hk, hd, hy⟩ := h
  refine (hc M' hk.src).mono ?_
  rintro e w2 ⟨o, m, c, rfl, hm, H⟩
  obtain ⟨us2, M2, ys2, hl2, hk2, hd2, _⟩ := H.out
  refine ⟨o, m, c, rfl, hm, us, us2, M2, hl, hl2, hk.draw hk2.src hk2.dr, fun x hx => (hd x hx).le hk2.dr.le, ?_, hd2⟩
  obtain ⟨h1, h2⟩ := hk2.row
  refine ⟨h1, ?_⟩
  rcases h2 with h2 | ⟨gg, cap, cur, e1, e2, e3⟩
  · exact .inl h2
  · exact .inr ⟨gg, cap, cur, e1, Nat.le_trans hk.dr.grown.size e2, e3⟩
theorem wp_app {ops : Array Oper} {rest : List Oper} {o : Oper} {a : Act} {Q : Exit → Act → World → Prop} (hgd : o.guard = none) (s x : Operand) (ho : o.op = .call { callee := .builtin .append, args := #[s, x], argTypes := #[24, 24] }) {w wr : World} {M : Fz} {d q n m : Nat} {v v2 : Value} (h : E2 w M d q n m v v2 wr) (hs : a.eval s = v) (hx : a.eval x = v2) (hn : n + m ≤ 1000000)
    (hK : ∀ so sc w', EI w M d q (n + m) (.slice so (n + m) sc) w' → wpList Try.prog ops Q rest (a.put o.dst (.slice so (n + m) sc)) w') : wpList Try.prog ops Q (o :: rest) a wr := by
  obtain ⟨i0, hii, hz0, hz1, hz2⟩ := info_parts info58
  obtain ⟨us, us2, M', hl, hl2, hk, hd, hr2, hd2⟩ := h
  have hdd : ∀ x ∈ us ++ us2, BytesM M' x.dv x.e.data := fun x hx => by
    rcases List.mem_append.1 hx with h' | h'
    · exact hd x h'
    · exact hd2 x h'
  have hr := id hr2
  obtain ⟨h1, ⟨rfl, rfl⟩ | ⟨g, cap, cur, rfl, hb, hg, hnc, hcm, hcs, ht⟩⟩ := hr2
  · obtain rfl : us2 = [] := List.length_eq_zero_iff.1 hl2
    refine wpList_append_own_none hgd s x 24 ho w.heap.size 58 i0 3 Try.underlying24 hii v n _ hs hk.row hx ?_
    obtain ⟨so, sc, rfl⟩ := own_slice hk.row
    exact hK so sc wr ⟨us, M', [], by omega, hk, hd, bytesM_nil _⟩
  · refine wpList_append_own_at wr hgd s x 24 ho w.heap.size 58 i0 _ 3 40 Try.underlying24 hii hz0 hz1 hz2 rfl (by decide) v n _ hs hk.row ⟨g, 0, none⟩ m cap (us2.flatMap evCells) hx (by rw [h1]) (World.ownsRow.cells hr rfl) (ev_ones hd2) (by unfold maxLen; omega) (by omega) hk.dr.grown.size ?_
    intro v' w' p1 p2 _ p4
    obtain ⟨so, sc, rfl⟩ := own_slice p1
    refine hK so sc w' ⟨us ++ us2, M', [], by simp [hl, hl2], Mk.push2 hk (by rw [List.flatMap_append]; exact p1) p2 p4, hdd, bytesM_nil _⟩
theorem EP.cap {w wr : World} {M : Fz} {d q n : Nat} {so : Option Addr} {sn sc : Nat} (h : EI w M d q n (.slice so sn sc) wr) : n ≤ sc ∧ sc ≤ 9223372036854775807 := by
  obtain ⟨us, M', ys, hl, hk, hd, hy⟩ := h
  obtain ⟨h1, ⟨e1, e2⟩ | ⟨g, cap, cur, e1, hb, hg, hnc, hcm, hcs, ht⟩⟩ := hk.row
  · simp only [Value.slice.injEq] at e1
    omega
  · simp only [Value.slice.injEq] at e1
    unfold maxLen at hcm
    omega
theorem flat_take : ∀ (us : List EV) (m : Nat), (us.take m).flatMap evCells = (us.flatMap evCells).take (m * 3)
  | [], m => by simp
  | x :: us, 0 => by simp
  | x :: us, m + 1 => by
    rw [show (m + 1) * 3 = m * 3 + 3 by omega, List.take_succ_cons, List.flatMap_cons, List.flatMap_cons, flat_take us m]
    simp [evCells]
/-- The first of the events. -/
theorem EP.take {w wr : World} {M : Fz} {d q n : Nat} {so : Option Addr} {sc : Nat} (h : EI w M d q n (.slice so n sc) wr) (m : Nat) (hm : m ≤ n) : EI w M d q m (.slice so m sc) wr := by
  obtain ⟨us, M', ys, hl, hk, hd, hy⟩ := h
  refine ⟨us.take m, M', ys, by rw [List.length_take]; omega, ⟨?_, hk.src, hk.dr, fun g hg => hk.free g (by cases so with | none => simp [Value.ownBlock] at hg | some a => simpa [Value.ownBlock] using hg), hk.lt⟩, fun x hx => hd x (List.mem_of_mem_take hx), hy⟩
  have hfl := flat_take us m
  obtain ⟨h1, ⟨e1, e2⟩ | ⟨g, cap, cur, e1, hb, hg, hnc, hcm, hcs, ht⟩⟩ := hk.row
  · simp only [Value.slice.injEq] at e1
    obtain ⟨rfl, rfl, rfl⟩ := e1
    obtain rfl : m = 0 := by omega
    refine ⟨by simp, .inl ⟨rfl, rfl⟩⟩
  · simp only [Value.slice.injEq] at e1
    obtain ⟨rfl, _, rfl⟩ := e1
    refine ⟨by rw [hfl, List.length_take, h1]; omega, .inr ⟨g, sc, cur, rfl, hb, hg, by omega, hcm, hcs, ?_⟩⟩
    rw [hfl, ← ht, List.take_take]
    congr 1
    omega

set_option maxRecDepth 20000 in
set_option maxHeartbeats 2000000 in
theorem anyEvents_any (w : World) (M : Fz) (d q : Nat) (h : Src w M d q) (hq : q ≤ 1000000) (n : Nat) (h1 : 1 ≤ n) (h7 : n ≤ 7) :
    Calls Try.prog 40 #[.pointer (some ⟨d, 0, none⟩), .int .i64 n] w fun e w' => EvsE w M d (q + 40000) 300 e w' := by
  have HC0 := hide (calm_any w M d q h (by omega) n h1 h7)
  clear h
  go_enter Try.func40, Try.ntmps40
  go_wp2_with fail
  refine HC0.out.mono ?_
  rintro e w1 ⟨o1, n1, c1, rfl, l1, H1⟩
  have HC1 := hide (EP.evs H1.out (fun M' hs => events_any w1 M' d _ hs (by omega) n h1 h7))
  clear HC0 H1
  go_wp2_with (first
    | (go_at_call 84; refine HC1.out.mono ?_; rintro e w2 ⟨o2, n2, c2, rfl, l2, H2⟩)
    | (at_builtin; have _h := H2; refine wp_app rfl _ _ rfl H2.out rfl rfl (by omega) ?_; intro so sc w3 hEI; have hcp := EP.cap hEI; have H3 := hide hEI; clear hEI H2; have HC3 := hide (EP.chance H3.out (by omega) 2 (by omega) (by omega))))
  refine HC3.out.mono ?_
  rintro e w4 ⟨bb, rfl, H4⟩
  cases bb with
  | false =>
    have hm9 : n1 + n2 ≤ 300 := by omega
    go_wp2
    all_goals
      go_ret
      first
        | exact ⟨so, _, sc, rfl, by omega, EP.more H4.out (by omega)⟩
        | (exfalso; omega)
  | true =>
    have HC5 := hide (EP.evs H4.out (fun M' hs => calm_any w4 M' d _ hs (by omega) n h1 h7))
    clear HC3 H4 H3 HC1
    go_wp2_with (first
      | (go_at_call 83; refine HC5.out.mono ?_; rintro e w5 ⟨o5, n5, c5, rfl, l5, H5⟩)
      | (at_builtin; have _h := H5; refine wp_app rfl _ _ rfl H5.out rfl rfl (by omega) ?_; intro so2 sc2 w6 hEI; have hcp2 := EP.cap hEI; have H6 := hide hEI; clear hEI H5))
    all_goals
      go_ret
      first
        | exact ⟨so2, n1 + n2 + n5, sc2, rfl, by omega, EP.more H6.out (by omega)⟩
        | exact ⟨so2, 300, sc2, rfl, by omega, EP.more (EP.take H6.out 300 (by omega)) (by omega)⟩
end Go.Proofs.Ytklkglbimjajnaa.evf

/- Events with jobs are drawn. -/
namespace Go.Proofs.Ytklkglbimjajnaa.evg
open Go.ChangeShapes Go.WideShapes Go.ChangeAt Go.RowKit
open Go.Proofs.Ytklkglbimjajnaa.Raft Go.Proofs.Ytklkglbimjajnaa.mem Go.Proofs.Ytklkglbimjajnaa.grp Go.Proofs.Ytklkglbimjajnaa.ndw Go.Proofs.Ytklkglbimjajnaa.src Go.Proofs.Ytklkglbimjajnaa.drb Go.Proofs.Ytklkglbimjajnaa.crun Go.Proofs.Ytklkglbimjajnaa.evd Go.Proofs.Ytklkglbimjajnaa.eve Go.Proofs.Ytklkglbimjajnaa.evf Go.Proofs.Ytklkglbimjajnaa.jobd
set_option linter.unusedVariables false

theorem own_set {w : World} {base e sz n cap g : Nat} {xs : List Value} (h : w.ownsRow base e sz (.slice (some ⟨g, 0, none⟩) n cap) n xs) (i : Nat) (x : Value) : (w.setCell ⟨g, i, none⟩ x).ownsRow base e sz (.slice (some ⟨g, 0, none⟩) n cap) n (xs.set i x) := by
  obtain ⟨h1, ⟨e1, _⟩ | ⟨g', cap', cur, e1, hb, hg, hnc, hcm, hcs, ht⟩⟩ := h
  · simp at e1
  · simp only [Value.slice.injEq, Option.some.injEq, Addr.mk.injEq, and_true, true_and] at e1
    obtain ⟨rfl, rfl⟩ := e1
    refine ⟨by simp [h1], .inr ⟨g, cap, _, rfl, hb, set_at hg i x rfl, hnc, hcm, by simp [hcs], ?_⟩⟩
    rw [Array.toList_setIfInBounds, List.take_set, ht]
theorem flat_set : ∀ (us : List EV) (i : Nat) (x : EV) (ys : List Int) (dv : Value), us[i]? = some x → (us.flatMap evCells).set (i * 3 + 2) dv = (us.set i ⟨⟨x.e.kind, x.e.n, ys⟩, dv⟩).flatMap evCells
  | [], i, x, ys, dv, h => by simp at h
  | a :: us, 0, x, ys, dv, h => by
    obtain rfl : a = x := by simpa using h
    simp [evCells]
  | a :: us, i + 1, x, ys, dv, h => by
    rw [show (i + 1) * 3 + 2 = (i * 3 + 2) + 1 + 1 + 1 by omega, List.set_cons_succ, List.flatMap_cons, List.flatMap_cons, ← flat_set us i x ys dv (by simpa using h)]
    simp [evCells]
theorem EP.at {w wr : World} {M : Fz} {d q n : Nat} {so : Option Addr} {sc : Nat} {dv : Value} (h : EP w M d q n (.slice so n sc) dv wr) {i : Nat} (hi : i < n) : ∃ (g : Nat) (k : Int) (u : Value), so = some ⟨g, 0, none⟩ ∧ wr.cell? ⟨g, i * 3, none⟩ = some (.int .i64 k) ∧ wr.cell? ⟨g, i * 3 + 2, none⟩ = some u ∧ wr.frozen? ⟨g, i * 3 + 2, none⟩ = false ∧ EI w M d q n (.slice so n sc) (wr.setCell ⟨g, i * 3 + 2, none⟩ dv) := by
  obtain ⟨us, M', ys, hl, hk, hd, hy⟩ := h
  obtain ⟨x, hx⟩ : ∃ x, us[i]? = some x := ⟨_, List.getElem?_eq_getElem (by omega)⟩
  have hr := hk.row
  obtain ⟨h1, ⟨e1, e2⟩ | ⟨g, cap, cur, e1, hb, hg, hnc, hcm, hcs, ht⟩⟩ := hr
  · omega
  · simp only [Value.slice.injEq, true_and] at e1
    obtain ⟨rfl, rfl⟩ := e1
    have hf := fun j hj => flat_get evCells 3 (fun _ => rfl) us i j x hx hj
    have hcl := World.ownsRow.cells hk.row rfl
    have c0 := hcl (i * 3 + 0) (.int .i64 x.e.kind) (by rw [hf 0 (by decide)]; rfl)
    have c2 := hcl (i * 3 + 2) x.dv (by rw [hf 2 (by decide)]; rfl)
    rw [pile.add_at, Nat.zero_add] at c0 c2
    have hne := hk.ne g (by simp [Value.ownBlock])
    have hfree := hk.free g (by simp [Value.ownBlock])
    refine ⟨g, x.e.kind, x.dv, rfl, c0, c2, frozen_of hg _, us.set i ⟨⟨x.e.kind, x.e.n, ys⟩, dv⟩, M', [], by simp [hl], ⟨?_, ?_, ⟨hk.dr.le, hk.dr.inn.set hfree _, ?_, hk.dr.new⟩, hk.free, hk.lt⟩, ?_, bytesM_nil _⟩
    · rw [← flat_set us i x ys dv hx]
      exact own_set hk.row _ _
    · exact hk.src.grown (set_grown wr g _ _) (fun b hb' => by simp only [Option.some.injEq] at hb'; subst hb'; exact ⟨hne.1, hfree⟩)
    · exact ⟨hk.dr.grown.os, hk.dr.grown.tape, hk.dr.grown.output, by rw [World.size_setCell]; exact hk.dr.grown.size, fun b hb' hbd => (Below.heap_setCell wr ⟨g, _, none⟩ dv b (show b ≠ g by omega)).trans (hk.dr.grown.block b hb' hbd)⟩
    · intro z hz
      rcases List.mem_or_eq_of_mem_set hz with h' | h'
      · exact hd z h'
      · rw [h']; exact hy
theorem EP.job {w wr : World} {M : Fz} {d q n : Nat} {v : Value} (h : EI w M d q n v wr) (hq : q ≤ 10000000) : Calls Try.prog 43 #[.pointer (some ⟨d, 0, none⟩)] wr fun e w1 => ∃ (C Q V : Nat) (F S T : ByteArray) (ee qq : Bool), e = .returned (.agg #[.int .i64 (C : Int), .int .i64 (Q : Int), .string F, .int .i64 (V : Int), .string S, .string T, .bool ee, .bool qq]) ∧ Hid (jhelp.jobB C Q F.size V S.size T.size = true ∧ EI w M d (q + 10) n v w1) := by
  obtain ⟨us, M', ys, hl, hk, hd, hy⟩ := h
  refine (job_any wr M' d q hk.src (by omega)).mono ?_
  rintro e w1 ⟨C, Q, V, F, S, T, ee, qq, rfl, hj, s1, g1⟩
  exact ⟨C, Q, V, F, S, T, ee, qq, rfl, hj, us, M', ys, hl, hk.draw s1 (Dr.of s1 g1), hd, hy⟩
theorem EP.jobBytes {w wr : World} {M : Fz} {d q n : Nat} {v : Value} (h : EI w M d q n v wr) (C Q V : Nat) (F S T : ByteArray) (ee qq : Bool) (hj : jhelp.jobB C Q F.size V S.size T.size = true) : Calls Try.prog 42 #[.agg #[.int .i64 (C : Int), .int .i64 (Q : Int), .string F, .int .i64 (V : Int), .string S, .string T, .bool ee, .bool qq]] wr fun e w1 => ∃ (o : Option Addr) (l c : Nat), e = .returned (.slice o l c) ∧ Hid (EP w M d q n v (.slice o l c) w1) := by
  obtain ⟨us, M', ys, hl, hk, hd, hy⟩ := h
  refine (sjob.specBytes wr C Q V F S T ee qq hj).mono ?_
  rintro e w1 ⟨u, rfl, hO, hb⟩
  obtain ⟨M2, q1, q2, q3, q4⟩ := RowM.freeze hO.2 (hk.dr.inn.below hb) (fun g hg => hk.dr.inn.fresh (row_lt hO.2 hg).1)
  obtain ⟨o, c, rfl⟩ := own_slice hO.2
  have hd2 : M2 d = none := by
    cases e : M2 d with
    | none => rfl
    | some ob =>
      rcases q4 d (by rw [e]; simp) with g | g
      · exact absurd (drb.Src.free hk.src) g
      · have := (row_lt hO.2 g).1; have := hk.src.lt; omega
  have s2 := (hk.src.below hb).le q1 q2 hd2
  have dr2 : Dr wr M' d w1 M2 := ⟨q1, q2, below_grown hb _, fun b hb' => (q4 b hb').imp id (fun g => (row_lt hO.2 g).1)⟩
  exact ⟨o, _, c, rfl, us, M2, _, hl, hk.draw s2 dr2, fun x hx => (hd x hx).le q1, q3, hO.1⟩

set_option maxRecDepth 20000 in
set_option maxHeartbeats 2000000 in
theorem jobEvents_any (w : World) (M : Fz) (d q : Nat) (h : Src w M d q) (hq : q ≤ 100000) (n : Nat) (h1 : 1 ≤ n) (h7 : n ≤ 7) :
    Calls Try.prog 18 #[.pointer (some ⟨d, 0, none⟩), .int .i64 n] w fun e w' => EvsE w M d (q + 60000) 300 e w' := by
  have HC0 := hide (anyEvents_any w M d q h (by omega) n h1 h7)
  clear h
  go_enter Try.func18, Try.ntmps18
  go_wp2_with (go_at_call 40; refine HC0.out.mono ?_; rintro e w1 ⟨so, m, sc, rfl, hm, H1⟩)
  have hcp := EP.cap H1.out
  clear HC0
  go_loopw [6] (fun i wr => ∃ k : Nat, k ≤ m ∧ i = .int .i64 k ∧ Hid (EI w M d (q + 40000 + k * 20) m (.slice so m sc) wr)) (fun i _ => m - (intOf i).toNat)
  case atStart => exact ⟨0, Nat.zero_le _, rfl, H1⟩
  case round =>
    clear H1
    obtain ⟨k, hk, rfl, HR⟩ := hrel
    by_cases hlt : k < m
    · have hltI : (k : Int) < m := by omega
      obtain ⟨g, kd, u0, rfl, c0, _, _, _⟩ := EP.at HR.out hlt
      by_cases h9 : kd = 7
      · subst h9
        have HC := hide (EP.chance HR.out (by omega) 6 (by omega) (by omega))
        go_wp2_with fail
        refine HC.out.mono ?_
        rintro e w2 ⟨bb, rfl, H2⟩
        clear HC HR
        cases bb with
        | true =>
          go_wp2
          go_roundw
          case rel => exact ⟨k + 1, by omega, by go_num, EP.more H2.out (by omega)⟩
          case measure => simp [intOf]; omega
        | false =>
          have HJ := hide (EP.job H2.out (by omega))
          clear H2 c0
          go_wp2_with (first
            | (go_at_call 43; refine HJ.out.mono ?_; rintro e w3 ⟨C, Q, V, F, S, T, ee, qq, rfl, H3⟩; have HB := hide (EP.jobBytes H3.out.2 C Q V F S T ee qq H3.out.1))
            | (go_at_call 42; refine HB.out.mono ?_; rintro e w4 ⟨o4, l4, c4, rfl, H4⟩; obtain ⟨g', kd', u', eg, _, cu, cf, hN⟩ := EP.at H4.out hlt; obtain rfl : g' = g := (by simpa using eg.symm); have HN := hide hN; clear hN eg))
          go_roundw
          case rel => exact ⟨k + 1, by omega, by go_num, EP.more HN.out (by omega)⟩
          case measure => simp [intOf]; omega
      · have h9b : (kd == 7) = false := by simp; omega
        go_wp2
        go_roundw
        case rel => exact ⟨k + 1, by omega, by go_num, EP.more HR.out (by omega)⟩
        case measure => simp [intOf]; omega
    · have hlt2 : ¬ (k : Int) < m := by omega
      go_wp2
      go_ret
      exact ⟨so, m, sc, rfl, hm, EP.more HR.out (by omega)⟩
/-- What is drawn for a law: events in frozen memory. -/
def EvsOfE (w : World) (M : Fz) (e : Ending) (w' : World) : Prop := ∃ (o : Option Addr) (n c : Nat), e = .returned (.slice o n c) ∧ n ≤ 300 ∧ ∃ (M' : Fz) (us : List EV), us.length = n ∧ EvsV M' (.slice o n c) us ∧ Le M M' ∧ In M' w' ∧ Below w.heap.size w w' ∧ ∀ b, M' b ≠ none → M b ≠ none ∨ w.heap.size ≤ b
set_option maxHeartbeats 1000000 in
theorem eventsOf_any (w : World) (M : Fz) (hI : In M w) (ao : Option Addr) (cap : Nat) (xs : List Int) (hx : BytesM M (.slice ao xs.length cap) xs) (hl : xs.length ≤ 1048576) (n : Nat) (h1 : 1 ≤ n) (h7 : n ≤ 7) :
    Calls Try.prog 7 #[.slice ao xs.length cap, .int .i64 n] w fun e w' => EvsOfE w M e w' := by
  have HS : Hid (Calls Try.prog 17 #[.slice ao xs.length cap] w fun e w1 => ∃ d, e = .returned (.pointer (some ⟨d, 0, none⟩)) ∧ Hid (Src w1 M d 0 ∧ Below w.heap.size w w1 ∧ w.heap.size ≤ d)) := by
    obtain ⟨X, hX⟩ : ∃ X, w.alloc (.cells #[.slice ao xs.length cap, .int .i64 0, .int .i64 ((xs.length : Int) % 1000)] 90) = X := ⟨_, rfl⟩
    have bX : Below w.heap.size w X := by rw [← hX]; exact grp.more (Below.refl _ _) _
    have hB : X.heap[w.heap.size]? = some (.cells #[.slice ao xs.length cap, .int .i64 0, .int .i64 ((xs.length : Int) % 1000)] 90 (0, 0)) := by rw [← hX]; exact heap_alloc_new w _
    have HF : Hid (Src X M w.heap.size 0 ∧ Below w.heap.size w X ∧ w.heap.size ≤ w.heap.size) := by
      refine ⟨⟨ao, cap, xs, 0, _, ⟨hB, hx, hI.below bX, hI.fresh (Nat.le_refl _), ?_, ?_⟩, Nat.le_refl _, by omega⟩, bX, Nat.le_refl _⟩
      · omega
      · omega
    clear hB bX hx hI
    go_enter Try.func17, Try.ntmps17
    go_wp2
    go_ret
    exact ⟨_, rfl, HF⟩
  clear hx
  go_enter Try.func7, Try.ntmps7
  go_wp2_with (first
    | (go_at_call 17; refine HS.out.mono ?_; rintro e w1 ⟨d, rfl, H1⟩; have HJ := hide (jobEvents_any w1 M d 0 H1.out.1 (by omega) n h1 h7))
    | (go_at_call 18; refine HJ.out.mono ?_; rintro e w2 ⟨o, m, c, rfl, hm, H2⟩))
  go_ret
  obtain ⟨us, M', ys, hl, hk, hd, hy⟩ := H2.out
  obtain ⟨M2, q1, q2, q3, q4⟩ := hk.done
  obtain ⟨s1, b1, hd1⟩ := H1.out
  refine ⟨o, m, c, rfl, hm, M2, us, hl, ⟨by rw [hl]; exact q2, fun x hx => (hd x hx).le q1⟩, q4.le, q4.inn, ?_, fun b hb => ?_⟩
  · refine ⟨q4.grown.os.trans b1.os, q4.grown.tape.trans b1.tape, q4.grown.output.trans b1.output, Nat.le_trans b1.size q4.grown.size, fun k hk' => ?_⟩
    exact (q4.grown.block k (Nat.lt_of_lt_of_le hk' b1.size) (fun e => by simp only [Option.some.injEq] at e; omega)).trans (b1.block k hk')
  · rcases q4.new b hb with g | g
    · exact .inl g
    · exact .inr (Nat.le_trans b1.size g)
end Go.Proofs.Ytklkglbimjajnaa.evg

/- The laws' own helpers: a choice out of n, how many peers, that records are the same. -/
namespace Go.Proofs.Ytklkglbimjajnaa.lg1
open Go.ChangeShapes Go.WideShapes Go.ChangeAt Go.RowKit
open Go.Proofs.Ytklkglbimjajnaa.bytes Go.Proofs.Ytklkglbimjajnaa.Raft Go.Proofs.Ytklkglbimjajnaa.mem Go.Proofs.Ytklkglbimjajnaa.grp
set_option linter.unusedVariables false

set_option maxHeartbeats 800000 in
theorem at_any (w : World) (b : Value) (xs : List Int) (i : Nat) (n : Int) (hi : i ≤ 1000) (hn : n ≤ 1000000000) (hb : Rd w b xs) :
    Calls Try.prog 10 #[b, .int .i64 i, .int .i64 n] w fun e w' => ∃ r : Int, e = .returned (.int .i64 r) ∧ 0 ≤ r ∧ (r < n ∨ (n ≤ 1 ∧ r = 0)) ∧ ∃ m, w' = w.drewN m := by
  obtain ⟨ao, ca, rfl, ha1, ha2, hx, ha3⟩ := hb
  unfold maxLen at ha2
  by_cases h1 : n ≤ 1
  · go_enter Try.func10, Try.ntmps10
    go_wp2
    go_ret
    exact ⟨0, rfl, by omega, .inr ⟨h1, rfl⟩, 0, rfl⟩
  · have hn0 : n ≠ 0 := by omega
    by_cases h0 : xs.length = 0
    · have hz : (((xs.length : Nat) : Int) == 0) = true := by simp [h0]
      go_enter Try.func10, Try.ntmps10
      go_wp2
      go_ret
      exact ⟨_, rfl, Int.emod_nonneg _ hn0, .inl (Int.emod_lt_of_pos _ (by omega)), 0, rfl⟩
    · have hz : (((xs.length : Nat) : Int) == 0) = false := beq_eq_false_iff_ne.2 (by omega)
      obtain ⟨ab, aoff, rfl, hca⟩ := ha3 (by omega)
      have hc1 := hca (i % xs.length) (Nat.mod_lt _ (by omega))
      have hc2 := hca ((i + 1) % xs.length) (Nat.mod_lt _ (by omega))
      have hb1 := getD_bd hx (i % xs.length)
      have hb2 := getD_bd hx ((i + 1) % xs.length)
      generalize xs.getD (i % xs.length) 0 = c1 at hc1 hb1
      generalize xs.getD ((i + 1) % xs.length) 0 = c2 at hc2 hb2
      have ht1 : ((i : Nat) : Int).tmod xs.length = ((i % xs.length : Nat) : Int) := rfl
      have ht2 : (((i : Nat) : Int) + 1).tmod xs.length = (((i + 1) % xs.length : Nat) : Int) := rfl
      have hq : ((i : Nat) : Int).tdiv xs.length = ((i / xs.length : Nat) : Int) := rfl
      have hm1 : i % xs.length < xs.length := Nat.mod_lt _ (by omega)
      have hm2 : (i + 1) % xs.length < xs.length := Nat.mod_lt _ (by omega)
      have hq1 : i / xs.length ≤ i := Nat.div_le_self _ _
      generalize i % xs.length = m1 at hc1 ht1 hm1
      generalize (i + 1) % xs.length = m2 at hc2 ht2 hm2
      generalize i / xs.length = q at hq hq1
      clear hca ha3 hx
      go_enter Try.func10, Try.ntmps10
      go_wp2
      go_quiet (fail)
      go_wp2
      go_ret
      exact ⟨_, rfl, Int.emod_nonneg _ hn0, .inl (Int.emod_lt_of_pos _ (by omega)), _, rfl⟩

def whole (w : World) : Fz := fun b => w.heap[b]?
theorem whole_in (w : World) : In (whole w) w := fun _ _ h => h
theorem cellM_of {w : World} {b i : Nat} {v : Value} (h : w.cell? ⟨b, i, none⟩ = some v) : cellM (whole w) b i = some v := by
  unfold cellM whole
  cases e : w.heap[b]? with
  | none => simp [World.cell?, e] at h
  | some o =>
    cases o with
    | cells cur t fr => simpa [World.cell?, e] using h
    | _ => simp [World.cell?, e] at h
theorem rdM {w : World} {v : Value} {xs : List Int} (h : pile.RdA w v xs) : BytesM (whole w) v xs := by
  obtain ⟨⟨ao, cap, rfl, h1, h2, h3, h4⟩, h5⟩ := h
  refine ⟨⟨ao, cap, rfl, h1, h2, by simp, fun e => ?_, fun hp => ?_⟩, h3⟩
  · subst e
    have := h5 _ _ rfl
    simp only [Value.slice.injEq, true_and] at this
    exact this
  · obtain ⟨b, off, rfl, hc⟩ := h4 hp
    refine ⟨b, off, rfl, fun i v hv => ?_⟩
    have hi : i < xs.length := by have := (List.getElem?_eq_some_iff.1 hv).1; simpa using this
    have := hc i hi
    rw [List.getElem?_map, List.getElem?_eq_getElem hi] at hv
    simp only [Option.map_some, Option.some.injEq] at hv
    rw [← hv]
    refine cellM_of (this.trans ?_)
    rw [List.getD_eq_getElem?_getD, List.getElem?_eq_getElem hi]
    rfl
theorem below_drewN {w w1 : World} {B : Nat} (h : Below B w w1) (q : Nat) : Below B w (w1.drewN q) := ⟨h.os, h.tape, h.output, h.size, h.block⟩
set_option maxHeartbeats 1000000 in
theorem peers_any (w : World) (b : Value) (xs : List Int) (hb : Rd w b xs) :
    Calls Try.prog 6 #[b] w fun e w' => ∃ n : Nat, e = .returned (.int .i64 (n : Int)) ∧ (1 ≤ n ∧ n ≤ 7) ∧ Below w.heap.size w w' := by
  obtain ⟨X, hX⟩ : ∃ X, w.alloc (.cells #[.int .i64 1, .int .i64 3, .int .i64 5, .int .i64 3, .int .i64 2, .int .i64 4, .int .i64 7] 3) = X := ⟨_, rfl⟩
  have bX : Below w.heap.size w X := by rw [← hX]; exact more (Below.refl _ _) _
  have hB : X.heap[w.heap.size]? = some (.cells #[.int .i64 1, .int .i64 3, .int .i64 5, .int .i64 3, .int .i64 2, .int .i64 4, .int .i64 7] 3 (0, 0)) := by rw [← hX]; exact heap_alloc_new w _
  have hbX : Rd X b xs := by
    obtain ⟨ao, ca, e, ha1, ha2, hx, ha3⟩ := hb
    refine ⟨ao, ca, e, ha1, ha2, hx, fun hp => ?_⟩
    obtain ⟨b, off, e2, hc⟩ := ha3 hp
    exact ⟨b, off, e2, fun i hi => (bX.cell (World.block_lt_of_cell? w _ (hc i hi))).trans (hc i hi)⟩
  have HC : Hid (Calls Try.prog 10 #[b, .int .i64 0, .int .i64 7] X fun e w1 => ∃ (r K : Nat), e = .returned (.int .i64 (r : Int)) ∧ (r : Int) < 7 ∧ w1.cell? ⟨w.heap.size, r, none⟩ = some (.int .i64 (K : Int)) ∧ Hid ((1 ≤ K ∧ K ≤ 7) ∧ Below w.heap.size w w1)) := by
    refine (at_any X b xs 0 7 (by omega) (by omega) hbX).mono ?_
    rintro e w1 ⟨r, rfl, r0, r1, m, rfl⟩
    obtain ⟨k, rfl⟩ := Int.eq_ofNat_of_zero_le r0
    have hk : k < 7 := by omega
    have key : ∃ K : Nat, (#[.int .i64 1, .int .i64 3, .int .i64 5, .int .i64 3, .int .i64 2, .int .i64 4, .int .i64 7] : Array Value)[k]? = some (.int .i64 (K : Int)) ∧ 1 ≤ K ∧ K ≤ 7 := by
      obtain rfl | rfl | rfl | rfl | rfl | rfl | rfl : k = 0 ∨ k = 1 ∨ k = 2 ∨ k = 3 ∨ k = 4 ∨ k = 5 ∨ k = 6 := by omega
      · exact ⟨1, rfl, by omega, by omega⟩
      · exact ⟨3, rfl, by omega, by omega⟩
      · exact ⟨5, rfl, by omega, by omega⟩
      · exact ⟨3, rfl, by omega, by omega⟩
      · exact ⟨2, rfl, by omega, by omega⟩
      · exact ⟨4, rfl, by omega, by omega⟩
      · exact ⟨7, rfl, by omega, by omega⟩
    obtain ⟨K, hK, h1, h2⟩ := key
    exact ⟨k, K, rfl, by omega, cell_of (w := X.drewN m) hB hK, ⟨h1, h2⟩, below_drewN bX m⟩
  clear hB bX hbX hb
  go_enter Try.func6, Try.ntmps6
  go_wp2_with (go_at_call 10; refine HC.out.mono ?_; rintro e w1 ⟨r, K, rfl, hr, hcl, H1⟩)
  go_ret
  exact ⟨K, rfl, H1.out.1, H1.out.2⟩
theorem RecsM.take {M : Fz} {o : Option Addr} {n c : Nat} {l : List Rc} (h : RecsM M (.slice o n c) l) (x : Nat) (hx : x ≤ l.length) : RecsM M (.slice o x c) (l.take x) := by
  obtain ⟨us, e, ⟨ao, cap, e1, h1, h2, h3, h4, h5⟩, hd⟩ := h
  simp only [Value.slice.injEq] at e1
  obtain ⟨rfl, rfl, rfl⟩ := e1
  have hl : us.length = l.length := by rw [← e, List.length_map]
  have hf := flat_len recCells 3 recCells_len
  refine ⟨us.take x, by rw [← e, List.map_take], ⟨o, c, by rw [List.length_take, Nat.min_eq_left (by omega)], by rw [List.length_take]; omega, h2, hf _, fun e0 => ?_, fun hp => ?_⟩, fun y hy => hd y (List.mem_of_mem_take hy)⟩
  · have := h4 e0
    rw [List.length_take]
    omega
  · rw [List.length_take] at hp
    obtain ⟨b, off, e2, hc⟩ := h5 (by omega)
    refine ⟨b, off, e2, fun i v hv => hc i v ?_⟩
    have hi := (List.getElem?_eq_some_iff.1 hv).1
    have e3 : us.flatMap recCells = (us.take x).flatMap recCells ++ (us.drop x).flatMap recCells := by rw [← List.flatMap_append, List.take_append_drop]
    rw [e3, List.getElem?_append_left hi]
    exact hv
theorem RecsM.at {M : Fz} {o : Option Addr} {n c : Nat} {l : List Rc} (h : RecsM M (.slice o n c) l) {k : Nat} {r : Rc} (hk : l[k]? = some r) : ∃ (b off : Nat) (d1 : Option Addr) (d3 : Nat), o = some ⟨b, off, none⟩ ∧ cellM M b (off + k * 3) = some (.int .i64 r.term) ∧ cellM M b (off + k * 3 + 1) = some (.int .i64 r.index) ∧ cellM M b (off + k * 3 + 2) = some (.slice d1 r.data.length d3) ∧ BytesM M (.slice d1 r.data.length d3) r.data := by
  obtain ⟨us, e, ⟨ao, cap, e1, h1, h2, h3, h4, h5⟩, hd⟩ := h
  simp only [Value.slice.injEq] at e1
  obtain ⟨rfl, rfl, rfl⟩ := e1
  rw [← e, List.getElem?_map] at hk
  obtain ⟨x, hx, rfl⟩ : ∃ x, us[k]? = some x ∧ x.r = r := by
    cases hu : us[k]? with
    | none => rw [hu] at hk; cases hk
    | some x => rw [hu] at hk; simp only [Option.map_some, Option.some.injEq] at hk; exact ⟨x, rfl, hk⟩
  obtain ⟨b, off, rfl, hc⟩ := h5 (by have := (List.getElem?_eq_some_iff.1 hx).1; omega)
  have hf := fun i hi => flat_get recCells 3 recCells_len us k i x hx hi
  have hdx := (hd x (List.mem_of_getElem? hx)).1
  obtain ⟨⟨d1, d3, e2, _⟩, _⟩ := id hdx
  have z2 := hc (k * 3 + 2) x.dv (by rw [hf 2 (by decide)]; rfl)
  rw [e2] at z2
  exact ⟨b, off, d1, d3, rfl, hc (k * 3 + 0) _ (by rw [hf 0 (by decide)]; rfl), hc (k * 3 + 1) _ (by rw [hf 1 (by decide)]; rfl), z2, e2 ▸ hdx⟩
theorem RecsM.len {M : Fz} {o : Option Addr} {n c : Nat} {l : List Rc} (h : RecsM M (.slice o n c) l) : n = l.length ∧ n ≤ c ∧ c ≤ 9223372036854775807 := by
  obtain ⟨us, e, ⟨ao, cap, e1, h1, h2, h3, h4, h5⟩, hd⟩ := h
  simp only [Value.slice.injEq] at e1
  obtain ⟨rfl, rfl, rfl⟩ := e1
  unfold maxLen at h2
  exact ⟨by rw [← e, List.length_map], h1, h2⟩
set_option maxRecDepth 20000 in
set_option maxHeartbeats 2000000 in
theorem sameRecs_any (w : World) (M : Fz) (hI : In M w) (ao : Option Addr) (an ac : Nat) (bo : Option Addr) (bn bc : Nat) (l : List Rc) (ha : RecsM M (.slice ao an ac) l) (hb : RecsM M (.slice bo bn bc) l) :
    Calls Try.prog 9 #[.slice ao an ac, .slice bo bn bc] w fun e w' => e = .returned (.bool true) ∧ ∃ n, w' = w.drewN n := by
  obtain ⟨ea, ea1, ea2⟩ := RecsM.len ha
  obtain ⟨eb, eb1, eb2⟩ := RecsM.len hb
  subst ea eb
  obtain ⟨L, hL⟩ : ∃ L, l.length = L := ⟨_, rfl⟩
  have HK : Hid (∀ k, k < L → ∃ (ab aoff : Nat) (d1 : Option Addr) (d3 : Nat) (bb boff : Nat) (e1 : Option Addr) (e3 : Nat) (t i : Nat) (dl : Nat) (s : ByteArray), ao = some ⟨ab, aoff, none⟩ ∧ bo = some ⟨bb, boff, none⟩ ∧ (w.cell? ⟨ab, aoff + k * 3, none⟩ = some (.int .i64 t) ∧ w.cell? ⟨ab, aoff + k * 3 + 1, none⟩ = some (.int .i64 i) ∧ w.cell? ⟨ab, aoff + k * 3 + 2, none⟩ = some (.slice d1 dl d3)) ∧ (w.cell? ⟨bb, boff + k * 3, none⟩ = some (.int .i64 t) ∧ w.cell? ⟨bb, boff + k * 3 + 1, none⟩ = some (.int .i64 i) ∧ w.cell? ⟨bb, boff + k * 3 + 2, none⟩ = some (.slice e1 dl e3)) ∧ (∀ x, (convert 22 9 (.slice d1 dl d3)).run Try.prog (w.drewN x) = .ok (.string s) (w.drewN x)) ∧ (∀ x, (convert 22 9 (.slice e1 dl e3)).run Try.prog (w.drewN x) = .ok (.string s) (w.drewN x))) := fun k hk => by
    obtain ⟨r, hr⟩ : ∃ r, l[k]? = some r := ⟨_, List.getElem?_eq_getElem (by omega)⟩
    obtain ⟨ab, aoff, d1, d3, rfl, a0, a1, a2, a3⟩ := RecsM.at ha hr
    obtain ⟨bb, boff, e1, e3, rfl, b0, b1, b2, b3⟩ := RecsM.at hb hr
    exact ⟨ab, aoff, d1, d3, bb, boff, e1, e3, r.term, r.index, r.data.length, same.strOf r.data, rfl, rfl, ⟨hI.cell a0, hI.cell a1, hI.cell a2⟩, ⟨hI.cell b0, hI.cell b1, hI.cell b2⟩, fun x => same.run_str (w := w.drewN x) hI a3, fun x => same.run_str (w := w.drewN x) hI b3⟩
  rw [hL] at ea1 eb1 ⊢
  clear ha hb hL hI
  have hne : ((L : Int) != (L : Int)) = false := by simp
  go_enter Try.func9, Try.ntmps9
  go_wp2
  go_loopw [5] (fun i wr => ∃ k m : Nat, k ≤ L ∧ i = .int .i64 k ∧ wr = w.drewN m) (fun i _ => L - (intOf i).toNat)
  case atStart => exact ⟨0, 0, by omega, rfl, rfl⟩
  case round =>
    obtain ⟨k, m, hk, rfl, rfl⟩ := hrel
    by_cases hlt : k < L
    · obtain ⟨ab, aoff, d1, d3, bb, boff, e1, e3, t, i, dl, s, rfl, rfl, ⟨p0, p1, p2⟩, ⟨q0, q1, q2⟩, hk1, hk2⟩ := HK.out k hlt
      have hti : ((t : Int) != (t : Int)) = false := by simp
      have hii : ((i : Int) != (i : Int)) = false := by simp
      go_wp2
      go_quiet (fail)
      go_wp2
      go_roundw
      case rel => exact ⟨k + 1, _, by omega, by go_num, rfl⟩
      case measure => simp [intOf]; omega
    · have hlt2 : ¬ (k : Int) < L := by omega
      go_wp2
      go_ret
      exact ⟨rfl, m, rfl⟩
end Go.Proofs.Ytklkglbimjajnaa.lg1


namespace Go.Proofs.Ytklkglbimjajnaa.given
open Go.ChangeShapes Go.WideShapes Go.ChangeAt Go.RowKit
open Go.Proofs.Ytklkglbimjajnaa.bytes Go.Proofs.Ytklkglbimjajnaa.pile
set_option linter.unusedVariables false

theorem spot_none {w : World} {x : Addr} {v : Value} (h : w.cell? (x.add 0) = some v) : x.spot = none := by
  obtain ⟨b, off, spot⟩ := x
  simpa [Addr.add] using World.cell?_spot h

theorem rdA_row {w : World} {a : Option Addr} {len cap : Nat} {zs : List Int} (h : (a = none ∧ len = 0 ∧ cap = 0) ∨ ∃ x, a = some x ∧ len ≤ cap ∧ cap ≤ maxLen ∧ zs.length = cap ∧ (∀ i, i < zs.length → w.cell? (x.add i) = some (.int .u8 (zs.getD i 0))) ∧ ∀ n ∈ zs, (Lit.int .u8 n).wf = true) :
    ∃ xs : List Int, RdA w (.slice a len cap) xs ∧ xs.length = len := by
  rcases h with ⟨rfl, rfl, rfl⟩ | ⟨x, rfl, hl, hm, hz, hcell, hwz⟩
  · exact ⟨[], ⟨⟨none, 0, rfl, by simp, by simp [maxLen], by simp, by simp⟩, fun _ _ _ => rfl⟩, rfl⟩
  · have hlen : (zs.take len).length = len := by simp; omega
    refine ⟨zs.take len, ⟨⟨some x, cap, by rw [hlen], by omega, hm, ?_, fun hp => ?_⟩, fun n c e => by simp at e⟩, hlen⟩
    · intro y hy
      have := hwz y (List.mem_of_mem_take hy)
      simpa [Lit.wf, IntKind.min, IntKind.max, IntKind.signed, IntKind.bits] using this
    · have hs := spot_none (hcell 0 (by omega))
      obtain ⟨b, off, spot⟩ := x
      simp only at hs
      subst hs
      refine ⟨b, off, rfl, fun i hi => ?_⟩
      have := hcell i (by omega)
      rw [add_at] at this
      rw [this]
      have hi' : i < len := by omega
      simp [List.getD_eq_getElem?_getD, hi']

section
variable {H : Type} {enc : TypeId × Value → H} {w : World} {base : Nat} {held : Bool}

theorem open_bytes {fuel : Nat} {cs : List Value} {x : DataW H × List MemPlace} (hf : DataW.trod enc Try.prog w base (fun _ => true) held fuel 22 cs = some x) : ∃ v xs, cs = [v] ∧ RdA w v xs := by
  rcases open_ints Try.underlying22 Try.underlying5 (by kernel_rfl) hf with ⟨hcs, _⟩ | ⟨x, l, c, zs, hcs, _, hl, hm, hz, _, hcell, hwz⟩
  · obtain ⟨xs, h1, _⟩ := rdA_row (w := w) (a := none) (len := 0) (cap := 0) (zs := []) (.inl ⟨rfl, rfl, rfl⟩)
    exact ⟨_, xs, hcs, h1⟩
  · obtain ⟨xs, h1, _⟩ := rdA_row (w := w) (a := some x) (len := l) (cap := c) (zs := zs) (.inr ⟨_, rfl, hl, hm, by simpa using hz, hcell, hwz⟩)
    exact ⟨_, xs, hcs, h1⟩


end
end Go.Proofs.Ytklkglbimjajnaa.given
