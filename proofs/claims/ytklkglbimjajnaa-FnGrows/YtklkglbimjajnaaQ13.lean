import Derived.Test.YtklkglbimjajnaaQ12
import Derived.Laws.AppendOwnNone
import Derived.Maps.AppendAt
import Derived.Test.YtklkglbimjajnaaQ02
import Derived.Test.YtklkglbimjajnaaQ03
import Derived.WalkMore
import Derived.Deep.Cut
import Derived.Test.YtklkglbimjajnaaQ05
import Derived.Test.YtklkglbimjajnaaQ01
set_option linter.unusedVariables false
open Go.ChangeShapes Go.WideShapes Go.ChangeAt Go.RowKit
namespace Go.Proofs.Ytklkglbimjajnaa.evf
open Raft mem grp ndw src drb crun evd eve
theorem Mk.push2 {e sz : Nat} {w wr : World} {M M' : Fz} {d q n : Nat} {xs : List Value} {v : Value} (h : Mk e sz w M d q n xs v wr M') {w' : World} {m : Nat} {v' : Value} {ys : List Value} (p1 : w'.ownsRow w.heap.size e sz v' m ys) (p2 : wr.grownBy w' v.ownBlock) (p3 : v'.ownBlock = v.ownBlock ∨ v'.ownBlock = some wr.heap.size) : Mk e sz w M d q m ys v' w' M' := by
  have hI : In M' w' := h.dr.inn.grown p2 h.free
  refine ⟨p1, h.src.grown p2 (fun b hb => ⟨(h.ne b hb).1, h.free b hb⟩), ⟨h.dr.le, hI, ?_, h.dr.new⟩, ?_, h.lt⟩
  · exact ⟨p2.os.trans h.dr.grown.os, p2.tape.trans h.dr.grown.tape, p2.output.trans h.dr.grown.output, Nat.le_trans h.dr.grown.size p2.size, fun b hb hbd => (p2.block b (Nat.lt_of_lt_of_le hb h.dr.grown.size) (fun e => by have := (h.ne b e.symm).2.2; omega)).trans (h.dr.grown.block b hb hbd)⟩
  · intro g' hg'
    rcases p3 with p3 | p3
    · exact h.free g' (by rw [← p3]; exact hg')
    · rw [p3] at hg'
      simp only [Option.some.injEq] at hg'
      exact h.dr.inn.fresh (by omega)
def E2 (w : World) (M : Fz) (d q n m : Nat) (v v2 : Value) (wr : World) : Prop := ∃ (us us2 : List EV) (M' : Fz), us.length = n ∧ us2.length = m ∧ Mk 58 3 w M d q n (us.flatMap evCells) v wr M' ∧ (∀ x ∈ us, BytesM M' x.dv x.e.data) ∧ wr.ownsRow w.heap.size 58 3 v2 m (us2.flatMap evCells) ∧ ∀ x ∈ us2, BytesM M' x.dv x.e.data
theorem ev_ones {M : Fz} {us : List EV} (h : ∀ x ∈ us, BytesM M x.dv x.e.data) : ∀ u ∈ us.flatMap evCells, u.oneCell' = true := by
  intro u hu
  obtain ⟨x, hx, hux⟩ := List.mem_flatMap.1 hu
  obtain ⟨⟨ao, cap, e, _⟩, _⟩ := h x hx
  simp only [evCells, List.mem_cons, List.not_mem_nil, or_false] at hux
  rcases hux with rfl | rfl | rfl
  · rfl
  · rfl
  · rw [e]; rfl
theorem EP.evs {w wr : World} {M : Fz} {d q n p L f : Nat} {v : Value} {args : Array Value} (h : EI w M d q n v wr) (hc : ∀ M', Src wr M' d q → Calls Try.prog f args wr fun e w2 => EvsE wr M' d p L e w2) :
    Calls Try.prog f args wr fun e w2 => ∃ (o : Option Addr) (m c : Nat), e = .returned (.slice o m c) ∧ m ≤ L ∧ Hid (E2 w M d p n m v (.slice o m c) w2) := by
  obtain ⟨us, M', ys, hl, hk, hd, hy⟩ := h
  refine (hc M' hk.src).mono ?_
  rintro e w2 ⟨o, m, c, rfl, hm, H⟩
  obtain ⟨us2, M2, ys2, hl2, hk2, hd2, _⟩ := H.out
  refine ⟨o, m, c, rfl, hm, us, us2, M2, hl, hl2, hk.draw hk2.src hk2.dr, fun x hx => (hd x hx).le hk2.dr.le, ?_, hd2⟩
  obtain ⟨h1, h2⟩ := hk2.row
  refine ⟨h1, ?_⟩
  rcases h2 with h2 | ⟨gg, cap, cur, e1, e2, e3⟩
  · exact .inl h2
  · exact .inr ⟨gg, cap, cur, e1, Nat.le_trans hk.dr.grown.size e2, e3⟩
theorem wp_app {ops : Array Oper} {rest : List Oper} {o : Oper} {a : Act} {Q : Exit → Act → World → Prop} (hgd : o.guard = none) (s x : Operand) (ho : o.op = .call { callee := .builtin .append, args := #[s, x], argTypes := #[24, 24] }) {w wr : World} {M : Fz} {d q n m : Nat} {v v2 : Value} (h : E2 w M d q n m v v2 wr) (hs : a.eval s = v) (hx : a.eval x = v2) (hn : n + m ≤ 1000000)
    (hK : ∀ so sc w', EI w M d q (n + m) (.slice so (n + m) sc) w' → wpList Try.prog ops Q rest (a.put o.dst (.slice so (n + m) sc)) w') : wpList Try.prog ops Q (o :: rest) a wr := by
  obtain ⟨i0, hii, hz0, hz1, hz2⟩ := info_parts info58
  obtain ⟨us, us2, M', hl, hl2, hk, hd, hr2, hd2⟩ := h
  have hdd : ∀ x ∈ us ++ us2, BytesM M' x.dv x.e.data := fun x hx => by
    rcases List.mem_append.1 hx with h' | h'
    · exact hd x h'
    · exact hd2 x h'
  have hr := id hr2
  obtain ⟨h1, ⟨rfl, rfl⟩ | ⟨g, cap, cur, rfl, hb, hg, hnc, hcm, hcs, ht⟩⟩ := hr2
  · obtain rfl : us2 = [] := List.length_eq_zero_iff.1 hl2
    refine wpList_append_own_none hgd s x 24 ho w.heap.size 58 i0 3 Try.underlying24 hii v n _ hs hk.row hx ?_
    obtain ⟨so, sc, rfl⟩ := own_slice hk.row
    exact hK so sc wr ⟨us, M', [], by omega, hk, hd, bytesM_nil _⟩
  · refine wpList_append_own_at wr hgd s x 24 ho w.heap.size 58 i0 _ 3 40 Try.underlying24 hii hz0 hz1 hz2 rfl (by decide) v n _ hs hk.row ⟨g, 0, none⟩ m cap (us2.flatMap evCells) hx (by rw [h1]) (World.ownsRow.cells hr rfl) (ev_ones hd2) (by unfold maxLen; omega) (by omega) hk.dr.grown.size ?_
    intro v' w' p1 p2 _ p4
    obtain ⟨so, sc, rfl⟩ := own_slice p1
    refine hK so sc w' ⟨us ++ us2, M', [], by simp [hl, hl2], Mk.push2 hk (by rw [List.flatMap_append]; exact p1) p2 p4, hdd, bytesM_nil _⟩
theorem EP.cap {w wr : World} {M : Fz} {d q n : Nat} {so : Option Addr} {sn sc : Nat} (h : EI w M d q n (.slice so sn sc) wr) : n ≤ sc ∧ sc ≤ 9223372036854775807 := by
  obtain ⟨us, M', ys, hl, hk, hd, hy⟩ := h
  obtain ⟨h1, ⟨e1, e2⟩ | ⟨g, cap, cur, e1, hb, hg, hnc, hcm, hcs, ht⟩⟩ := hk.row
  · simp only [Value.slice.injEq] at e1
    omega
  · simp only [Value.slice.injEq] at e1
    unfold maxLen at hcm
    omega
theorem flat_take : ∀ (us : List EV) (m : Nat), (us.take m).flatMap evCells = (us.flatMap evCells).take (m * 3)
  | [], m => by simp
  | x :: us, 0 => by simp
  | x :: us, m + 1 => by
    rw [show (m + 1) * 3 = m * 3 + 3 by omega, List.take_succ_cons, List.flatMap_cons, List.flatMap_cons, flat_take us m]
    simp [evCells]
theorem EP.take {w wr : World} {M : Fz} {d q n : Nat} {so : Option Addr} {sc : Nat} (h : EI w M d q n (.slice so n sc) wr) (m : Nat) (hm : m ≤ n) : EI w M d q m (.slice so m sc) wr := by
  obtain ⟨us, M', ys, hl, hk, hd, hy⟩ := h
  refine ⟨us.take m, M', ys, by rw [List.length_take]; omega, ⟨?_, hk.src, hk.dr, fun g hg => hk.free g (by cases so with | none => simp [Value.ownBlock] at hg | some a => simpa [Value.ownBlock] using hg), hk.lt⟩, fun x hx => hd x (List.mem_of_mem_take hx), hy⟩
  have hfl := flat_take us m
  obtain ⟨h1, ⟨e1, e2⟩ | ⟨g, cap, cur, e1, hb, hg, hnc, hcm, hcs, ht⟩⟩ := hk.row
  · simp only [Value.slice.injEq] at e1
    obtain ⟨rfl, rfl, rfl⟩ := e1
    obtain rfl : m = 0 := by omega
    refine ⟨by simp, .inl ⟨rfl, rfl⟩⟩
  · simp only [Value.slice.injEq] at e1
    obtain ⟨rfl, _, rfl⟩ := e1
    refine ⟨by rw [hfl, List.length_take, h1]; omega, .inr ⟨g, sc, cur, rfl, hb, hg, by omega, hcm, hcs, ?_⟩⟩
    rw [hfl, ← ht, List.take_take]
    congr 1
    omega
set_option maxRecDepth 20000 in
set_option maxHeartbeats 2000000 in
theorem anyEvents_any (w : World) (M : Fz) (d q : Nat) (h : Src w M d q) (hq : q ≤ 1000000) (n : Nat) (h1 : 1 ≤ n) (h7 : n ≤ 7) :
    Calls Try.prog 40 #[.pointer (some ⟨d, 0, none⟩), .int .i64 n] w fun e w' => EvsE w M d (q + 40000) 300 e w' := by
  have HC0 := hide (calm_any w M d q h (by omega) n h1 h7)
  clear h
  go_enter Try.func40, Try.ntmps40
  go_wp2_with fail
  refine HC0.out.mono ?_
  rintro e w1 ⟨o1, n1, c1, rfl, l1, H1⟩
  have HC1 := hide (EP.evs H1.out (fun M' hs => events_any w1 M' d _ hs (by omega) n h1 h7))
  clear HC0 H1
  go_wp2_with (first
    | (go_at_call 84; refine HC1.out.mono ?_; rintro e w2 ⟨o2, n2, c2, rfl, l2, H2⟩)
    | (at_builtin; have _h := H2; refine wp_app rfl _ _ rfl H2.out rfl rfl (by omega) ?_; intro so sc w3 hEI; have hcp := EP.cap hEI; have H3 := hide hEI; clear hEI H2; have HC3 := hide (EP.chance H3.out (by omega) 2 (by omega) (by omega))))
  refine HC3.out.mono ?_
  rintro e w4 ⟨bb, rfl, H4⟩
  cases bb with
  | false =>
    have hm9 : n1 + n2 ≤ 300 := by omega
    go_wp2
    all_goals
      go_ret
      first
        | exact ⟨so, _, sc, rfl, by omega, EP.more H4.out (by omega)⟩
        | (exfalso; omega)
  | true =>
    have HC5 := hide (EP.evs H4.out (fun M' hs => calm_any w4 M' d _ hs (by omega) n h1 h7))
    clear HC3 H4 H3 HC1
    go_wp2_with (first
      | (go_at_call 83; refine HC5.out.mono ?_; rintro e w5 ⟨o5, n5, c5, rfl, l5, H5⟩)
      | (at_builtin; have _h := H5; refine wp_app rfl _ _ rfl H5.out rfl rfl (by omega) ?_; intro so2 sc2 w6 hEI; have hcp2 := EP.cap hEI; have H6 := hide hEI; clear hEI H5))
    all_goals
      go_ret
      first
        | exact ⟨so2, n1 + n2 + n5, sc2, rfl, by omega, EP.more H6.out (by omega)⟩
        | exact ⟨so2, 300, sc2, rfl, by omega, EP.more (EP.take H6.out 300 (by omega)) (by omega)⟩
end Go.Proofs.Ytklkglbimjajnaa.evf
namespace Go.Proofs.Ytklkglbimjajnaa.jobd
open Raft mem grp ndw src drb
def names : List ByteArray := [⟨#[97]⟩, ⟨#[98]⟩, ⟨#[100, 101, 115, 107]⟩]
def scripts : List ByteArray := [⟨#[115, 47, 97, 47, 98, 47, 103]⟩, ⟨#[112]⟩, ⟨#[36, 100]⟩, ⟨#[49, 33, 71, 59, 104, 59, 36, 33, 100]⟩, ⟨#[115, 47]⟩, ⟨#[119, 32, 120]⟩, ⟨#[121, 47, 97, 98, 47, 98, 97, 47]⟩, ⟨#[58, 97, 10, 98, 32, 97]⟩, ⟨#[105, 32, 116, 111, 112]⟩]
def texts : List ByteArray := [⟨#[]⟩, ⟨#[97, 10, 98, 10]⟩, ⟨#[97, 98, 97, 98, 10]⟩]
theorem names_sz : ∀ s ∈ names, s.size ≤ 40 := by
  have h : names.all (fun s => decide (s.size ≤ 40)) = true := by rfl
  intro s hs
  simpa using List.all_eq_true.1 h s hs
theorem scripts_sz : ∀ s ∈ scripts, s.size ≤ 40 := by
  have h : scripts.all (fun s => decide (s.size ≤ 40)) = true := by rfl
  intro s hs
  simpa using List.all_eq_true.1 h s hs
theorem texts_sz : ∀ s ∈ texts, s.size ≤ 40 := by
  have h : texts.all (fun s => decide (s.size ≤ 40)) = true := by rfl
  intro s hs
  simpa using List.all_eq_true.1 h s hs
def Way (W : World) (M : Fz) (d q : Nat) (wx : World) : Prop := Src wx M d q ∧ W.grownBy wx (some d)
theorem Way.next {W wx : World} {M : Fz} {d q : Nat} (h : Way W M d q wx) (hq : q ≤ 1000000000) (n : Int) (h1 : 1 ≤ n) (hn : n ≤ 256) : Calls Try.prog 85 #[.pointer (some ⟨d, 0, none⟩), .int .i64 n] wx fun e w1 => ∃ r : Nat, e = .returned (.int .i64 (r : Int)) ∧ (r : Int) < n ∧ Hid (Way W M d (q + 1) w1 ∧ wx.grownBy w1 (some d)) := by
  refine (next_any wx M d q n hn h.1 (by omega)).mono ?_
  rintro e w1 ⟨r, rfl, ⟨r0, r2, r1⟩, s1, g1⟩
  exact ⟨r.toNat, by rw [Int.toNat_of_nonneg r0], by omega, ⟨s1, grown_trans h.2 g1⟩, g1⟩
theorem Way.chance {W wx : World} {M : Fz} {d q : Nat} (h : Way W M d q wx) (hq : q ≤ 1000000000) (n : Int) (h1 : 1 ≤ n) (hn : n ≤ 256) : Calls Try.prog 41 #[.pointer (some ⟨d, 0, none⟩), .int .i64 n] wx fun e w1 => ∃ r : Bool, e = .returned (.bool r) ∧ Hid (Way W M d (q + 1) w1 ∧ wx.grownBy w1 (some d)) := by
  refine (chance_any wx M d q n h1 hn h.1 (by omega)).mono ?_
  rintro e w1 ⟨r, rfl, s1, g1⟩
  exact ⟨r, rfl, ⟨s1, grown_trans h.2 g1⟩, g1⟩
theorem Way.below {W wx w1 : World} {M : Fz} {d q : Nat} (h : Way W M d q wx) (hb : Below wx.heap.size wx w1) : Way W M d q w1 := ⟨h.1.below hb, grown_trans h.2 (below_grown hb _)⟩
theorem Way.pick {W wx X : World} {M : Fz} {d q : Nat} (h : Way W M d q wx) (hq : q ≤ 1000000000) (l : List ByteArray) (h1 : 1 ≤ l.length) (h2 : l.length ≤ 256) {cur : Array Value} (hX : wx.alloc (.cells cur 9) = X) (hc : cur.toList = l.map Value.string) : Calls Try.prog 89 #[.pointer (some ⟨d, 0, none⟩), .slice (some ⟨wx.heap.size, 0, none⟩) l.length l.length] X fun e w1 => ∃ s, e = .returned (.string s) ∧ Hid (s ∈ l ∧ Way W M d (q + 1) w1 ∧ wx.grownBy w1 (some d)) := by
  have bX : Below wx.heap.size wx X := by rw [← hX]; exact grp.more (Below.refl _ _) _
  have hB : X.heap[wx.heap.size]? = some (.cells cur 9 (0, 0)) := by rw [← hX]; exact heap_alloc_new wx _
  have hlt := h.1.lt
  refine (pick_any X M d q (h.1.below bX) (by omega) wx.heap.size (by omega) l h1 h2 (fun i s hs => cell_of hB ?_) l.length (Nat.le_refl _)).mono ?_
  · rw [← Array.getElem?_toList, hc, List.getElem?_map, hs]; rfl
  · rintro e w1 ⟨s, rfl, hs, s1, g1⟩
    exact ⟨s, rfl, hs, ⟨s1, grown_trans (h.below bX).2 g1⟩, grown_trans (below_grown bX _) g1⟩
theorem blk_way {wx w1 : World} {d b : Nat} {o : Obj} (g : wx.grownBy w1 (some d)) (h : wx.heap[b]? = some o) (hb : b ≠ d) : w1.heap[b]? = some o := (g.block b (Array.getElem?_eq_some_iff.1 h).1 (fun e => hb (by simpa using e))).trans h
theorem set_way {W wx : World} {M : Fz} {d q : Nat} (h : Way W M d q wx) {b : Nat} (hb : W.heap.size ≤ b) (hd : d < W.heap.size) (hM : M b = none) (i : Nat) (u : Value) : Way W M d q (wx.setCell ⟨b, i, none⟩ u) := by
  have g : wx.grownBy (wx.setCell ⟨b, i, none⟩ u) (some b) := set_grown _ _ _ _
  refine ⟨h.1.grown g (fun x hx => by simp only [Option.some.injEq] at hx; subst hx; exact ⟨by omega, hM⟩), ⟨h.2.os, h.2.tape, h.2.output, by rw [World.size_setCell]; exact h.2.size, fun k hk hr => ?_⟩⟩
  exact (Below.heap_setCell wx ⟨b, i, none⟩ u k (show k ≠ b by omega)).trans (h.2.block k hk hr)
def JobE (w : World) (M : Fz) (d q : Nat) (e : Ending) (w' : World) : Prop := ∃ (C Q V : Nat) (F S T : ByteArray) (ee qq : Bool), e = .returned (.agg #[.int .i64 (C : Int), .int .i64 (Q : Int), .string F, .int .i64 (V : Int), .string S, .string T, .bool ee, .bool qq]) ∧ jhelp.jobB C Q F.size V S.size T.size = true ∧ Src w' M d q ∧ w.grownBy w' (some d)
set_option maxRecDepth 20000 in
set_option maxHeartbeats 2000000 in
theorem job_any (w : World) (M : Fz) (d q : Nat) (h : Src w M d q) (hq : q ≤ 100000000) :
    Calls Try.prog 43 #[.pointer (some ⟨d, 0, none⟩)] w fun e w' => JobE w M d (q + 10) e w' := by
  obtain ⟨W, hW⟩ : ∃ W, w.alloc (.cells #[.int .i64 0, .int .i64 0, .string ⟨#[]⟩, .int .i64 0, .string ⟨#[]⟩, .string ⟨#[]⟩, .bool false, .bool false] 94) = W := ⟨_, rfl⟩
  have bW : Below w.heap.size w W := by rw [← hW]; exact grp.more (Below.refl _ _) _
  have sW : W.heap.size = w.heap.size + 1 := by rw [← hW]; exact World.size_alloc ..
  have hZ : W.heap[w.heap.size]? = some (.cells #[.int .i64 0, .int .i64 0, .string ⟨#[]⟩, .int .i64 0, .string ⟨#[]⟩, .string ⟨#[]⟩, .bool false, .bool false] 94 (0, 0)) := by rw [← hW]; exact heap_alloc_new w _
  have hdl := h.lt
  have K0 : Way W M d q W := ⟨h.below bW, below_grown (Below.refl _ _) _⟩
  have HMF : Hid (∀ b, w.heap.size ≤ b → M b = none) := fun b hb => h.inn.fresh hb
  have HC0 := hide (K0.next (by omega) 3 (by omega) (by omega))
  clear h
  go_enter Try.func43, Try.ntmps43
  go_wp2_with fail
  refine HC0.out.mono ?_
  rintro e w1 ⟨r1, rfl, l1, H1⟩
  have k1 := H1.out.1
  have HC1 := hide (k1.next (by omega) 4 (by omega) (by omega))
  have a1 : IntKind.i64.wrap (1 + (r1 : Int)) = 1 + (r1 : Int) := by rw [IntKind.wrap_i64]; omega
  clear HC0 H1
  have HK1 := hide k1
  clear k1
  go_wp2_with fail
  refine HC1.out.mono ?_
  rintro e w2 ⟨r2, rfl, l2, H2⟩
  have k2 := H2.out.1
  obtain ⟨X1, hX1⟩ : ∃ X, w2.alloc (.cells #[.string ⟨#[97]⟩, .string ⟨#[98]⟩, .string ⟨#[100, 101, 115, 107]⟩] 9) = X := ⟨_, rfl⟩
  have HC2 := hide (k2.pick (by omega) names (by decide) (by decide) hX1 rfl)
  have a2 : IntKind.i64.wrap (1 + (r2 : Int)) = 1 + (r2 : Int) := by rw [IntKind.wrap_i64]; omega
  clear HC1 H2 HK1 k2
  go_wp2_with fail
  refine HC2.out.mono ?_
  rintro e w3 ⟨F, rfl, H3⟩
  have HF := hide (names_sz F H3.out.1)
  have k3 := H3.out.2.1
  have HC3 := hide (k3.next (by omega) 3 (by omega) (by omega))
  clear HC2 H3 hX1 k3
  go_wp2_with fail
  refine HC3.out.mono ?_
  rintro e w4 ⟨r3, rfl, l3, H4⟩
  have k4 := H4.out.1
  obtain ⟨X2, hX2⟩ : ∃ X, w4.alloc (.cells #[.string ⟨#[115, 47, 97, 47, 98, 47, 103]⟩, .string ⟨#[112]⟩, .string ⟨#[36, 100]⟩, .string ⟨#[49, 33, 71, 59, 104, 59, 36, 33, 100]⟩, .string ⟨#[115, 47]⟩, .string ⟨#[119, 32, 120]⟩, .string ⟨#[121, 47, 97, 98, 47, 98, 97, 47]⟩, .string ⟨#[58, 97, 10, 98, 32, 97]⟩, .string ⟨#[105, 32, 116, 111, 112]⟩] 9) = X := ⟨_, rfl⟩
  have HC4 := hide (k4.pick (by omega) scripts (by decide) (by decide) hX2 rfl)
  clear HC3 H4 k4
  go_wp2_with fail
  refine HC4.out.mono ?_
  rintro e w5 ⟨S, rfl, H5⟩
  have HSz := hide (scripts_sz S H5.out.1)
  have k5 := H5.out.2.1
  clear HC4 H5 hX2
  have s5 : W.heap.size ≤ w5.heap.size := k5.2.size
  have hZ5 := blk_way k5.2 hZ (by omega)
  obtain ⟨B, hB⟩ : ∃ B, w5.alloc (.cells #[.int .i64 (1 + (r1 : Int)), .int .i64 (1 + (r2 : Int)), .string F, .int .i64 (r3 : Int), .string S, .string ⟨#[]⟩, .bool false, .bool false] 94) = B := ⟨_, rfl⟩
  have bB : Below w5.heap.size w5 B := by rw [← hB]; exact grp.more (Below.refl _ _) _
  have hbj : B.heap[w5.heap.size]? = some (.cells #[.int .i64 (1 + (r1 : Int)), .int .i64 (1 + (r2 : Int)), .string F, .int .i64 (r3 : Int), .string S, .string ⟨#[]⟩, .bool false, .bool false] 94 (0, 0)) := by rw [← hB]; exact heap_alloc_new w5 _
  have kB := k5.below bB
  have hZB : B.heap[w.heap.size]? = some (.cells #[.int .i64 0, .int .i64 0, .string ⟨#[]⟩, .int .i64 0, .string ⟨#[]⟩, .string ⟨#[]⟩, .bool false, .bool false] 94 (0, 0)) := (bB.block _ (by omega)).trans hZ5
  have HBq := hide hB
  clear hB
  go_upto_region 2 with fail
  rw [HBq.out]
  have hB := HBq.out
  clear HBq
  obtain ⟨bj, ebj⟩ : ∃ bj, w5.heap.size = bj := ⟨_, rfl⟩
  rw [ebj] at hbj
  rw [ebj]
  have hbl : W.heap.size ≤ bj := by omega
  have hMb : M bj = none := HMF.out bj (by omega)
  have HX : Hid (∀ (T : ByteArray) wx qx, T.size ≤ 40 → qx ≤ q + 8 → Way W M d qx wx → wx.heap[bj]? = some (.cells #[.int .i64 (1 + (r1 : Int)), .int .i64 (1 + (r2 : Int)), .string F, .int .i64 (r3 : Int), .string S, .string T, .bool false, .bool false] 94 (0, 0)) → wx.heap[w.heap.size]? = some (.cells #[.int .i64 0, .int .i64 0, .string ⟨#[]⟩, .int .i64 0, .string ⟨#[]⟩, .string ⟨#[]⟩, .bool false, .bool false] 94 (0, 0)) →
      Calls Try.prog 41 #[.pointer (some ⟨d, 0, none⟩), .int .i64 5] wx fun e w7 => ∃ (ee : Bool) (Y : World), e = .returned (.bool ee) ∧ w7.setCell ⟨bj, 6, none⟩ (.bool ee) = Y ∧ (w7.cell? ⟨bj, 6, none⟩ = some (.bool false) ∧ w7.frozen? ⟨bj, 6, none⟩ = false) ∧
        Hid (Calls Try.prog 41 #[.pointer (some ⟨d, 0, none⟩), .int .i64 5] Y fun e w8 => ∃ (qq : Bool) (V : World), e = .returned (.bool qq) ∧ w8.setCell ⟨bj, 7, none⟩ (.bool qq) = V ∧ (w8.cell? ⟨bj, 7, none⟩ = some (.bool false) ∧ w8.frozen? ⟨bj, 7, none⟩ = false) ∧
          Hid (V.heap[bj]? = some (.cells #[.int .i64 (1 + (r1 : Int)), .int .i64 (1 + (r2 : Int)), .string F, .int .i64 (r3 : Int), .string S, .string T, .bool ee, .bool qq] 94 (0, 0)) ∧ V.heap[w.heap.size]? = some (.cells #[.int .i64 0, .int .i64 0, .string ⟨#[]⟩, .int .i64 0, .string ⟨#[]⟩, .string ⟨#[]⟩, .bool false, .bool false] 94 (0, 0)) ∧ JobE w M d (q + 10) (.returned (.agg #[.int .i64 (1 + (r1 : Int)), .int .i64 (1 + (r2 : Int)), .string F, .int .i64 (r3 : Int), .string S, .string T, .bool ee, .bool qq])) (sets V w.heap.size [(0, .int .i64 (1 + (r1 : Int))), (1, .int .i64 (1 + (r2 : Int))), (2, .string F), (3, .int .i64 (r3 : Int)), (4, .string S), (5, .string T), (6, .bool ee), (7, .bool qq)])))) := fun T wx qx hT hqx kx hb1 hz1 => by
    refine (kx.chance (by omega) 5 (by omega) (by omega)).mono ?_
    rintro e w7 ⟨ee, rfl, H7⟩
    obtain ⟨k7, g7⟩ := H7.out
    have hb7 := blk_way g7 hb1 (by omega)
    have hz7 := blk_way g7 hz1 (by omega)
    obtain ⟨Y, hY⟩ : ∃ Y, w7.setCell ⟨bj, 6, none⟩ (.bool ee) = Y := ⟨_, rfl⟩
    have kY : Way W M d (qx + 1) Y := by rw [← hY]; exact set_way k7 hbl (by omega) hMb 6 _
    have hbY : Y.heap[bj]? = some (.cells #[.int .i64 (1 + (r1 : Int)), .int .i64 (1 + (r2 : Int)), .string F, .int .i64 (r3 : Int), .string S, .string T, .bool ee, .bool false] 94 (0, 0)) := by rw [← hY]; exact set_at hb7 6 _ rfl
    have hzY : Y.heap[w.heap.size]? = some (.cells #[.int .i64 0, .int .i64 0, .string ⟨#[]⟩, .int .i64 0, .string ⟨#[]⟩, .string ⟨#[]⟩, .bool false, .bool false] 94 (0, 0)) := by rw [← hY]; exact (Below.heap_setCell w7 ⟨bj, 6, none⟩ _ _ (show w.heap.size ≠ bj by omega)).trans hz7
    refine ⟨ee, Y, rfl, hY, ⟨cell_of hb7 rfl, frozen_of hb7 6⟩, ?_⟩
    refine (kY.chance (by omega) 5 (by omega) (by omega)).mono ?_
    rintro e w8 ⟨qq, rfl, H8⟩
    obtain ⟨k8, g8⟩ := H8.out
    have hb8 := blk_way g8 hbY (by omega)
    have hz8 := blk_way g8 hzY (by omega)
    obtain ⟨V, hV⟩ : ∃ V, w8.setCell ⟨bj, 7, none⟩ (.bool qq) = V := ⟨_, rfl⟩
    have kV : Way W M d (qx + 2) V := by rw [← hV]; exact set_way k8 hbl (by omega) hMb 7 _
    have hbV : V.heap[bj]? = some (.cells #[.int .i64 (1 + (r1 : Int)), .int .i64 (1 + (r2 : Int)), .string F, .int .i64 (r3 : Int), .string S, .string T, .bool ee, .bool qq] 94 (0, 0)) := by rw [← hV]; exact set_at hb8 7 _ rfl
    have hzV : V.heap[w.heap.size]? = some (.cells #[.int .i64 0, .int .i64 0, .string ⟨#[]⟩, .int .i64 0, .string ⟨#[]⟩, .string ⟨#[]⟩, .bool false, .bool false] 94 (0, 0)) := by rw [← hV]; exact (Below.heap_setCell w8 ⟨bj, 7, none⟩ _ _ (show w.heap.size ≠ bj by omega)).trans hz8
    refine ⟨qq, V, rfl, hV, ⟨cell_of hb8 rfl, frozen_of hb8 7⟩, hbV, hzV, 1 + r1, 1 + r2, r3, F, S, T, ee, qq, by simp, ?_, ?_, ?_⟩
    · have := HF.out; have := HSz.out
      simp [jhelp.jobB, jhelp.inT]
      omega
    · have : Src V M d (q + 10) := kV.1.more (by omega)
      refine Src.grown (row := some w.heap.size) this ⟨?_, ?_, ?_, ?_, fun k hk hr => sets_ne _ V (fun e => hr (by rw [e]))⟩ (fun x hx => ?_)
      · simp [sets, World.setCell]
      · simp [sets, World.setCell]
      · simp [sets, World.setCell]
      · simp [sets]
      · simp only [Option.some.injEq] at hx
        subst hx
        exact ⟨by omega, HMF.out _ (Nat.le_refl _)⟩
    · have g9 : w.grownBy V (some d) := grown_trans (below_grown bW _) kV.2
      refine ⟨?_, ?_, ?_, ?_, fun k hk hr => (sets_ne _ V (by omega)).trans (g9.block k hk hr)⟩
      · rw [← g9.os]; simp [sets, World.setCell]
      · rw [← g9.tape]; simp [sets, World.setCell]
      · rw [← g9.output]; simp [sets, World.setCell]
      · have := g9.size; simp [sets]; omega
  have c3 := cell_of (i := 3) hbj (v := .int .i64 (r3 : Int)) rfl
  have hwb : w.heap.size < bj := by omega
  have hdW : d < W.heap.size := by omega
  clear HMF hZ k5 hZ5 s5 sW
  obtain ⟨X3, hX3⟩ : ∃ X, B.alloc (.cells #[.string ⟨#[]⟩, .string ⟨#[97, 10, 98, 10]⟩, .string ⟨#[97, 98, 97, 98, 10]⟩] 9) = X := ⟨_, rfl⟩
  have HSB : Hid (B.heap.size = bj + 1) := by unfold Hid; rw [← hB, World.size_alloc, ebj]
  clear hB ebj hW bW
  by_cases h0 : r3 = 0
  · have h0I : ((r3 : Int) == 0) = true := by simp; omega
    have HC6 := hide (kB.pick (by omega) texts (by decide) (by decide) hX3 rfl)
    have HB9 := hide (And.intro hbj hZB)
    clear kB hbj hZB h0
    go_wp2_with fail
    refine HC6.out.mono ?_
    rintro e w6 ⟨T, rfl, H6⟩
    have hT := texts_sz T H6.out.1
    obtain ⟨k6, g6⟩ := H6.out.2
    have hb6 := blk_way g6 HB9.out.1 (by omega)
    have hz6 := blk_way g6 HB9.out.2 (by omega)
    have y5 := cell_of (i := 5) hb6 (v := .string ⟨#[]⟩) rfl
    have yf5 := frozen_of hb6 5
    obtain ⟨U, hU⟩ : ∃ U, w6.setCell ⟨bj, 5, none⟩ (.string T) = U := ⟨_, rfl⟩
    have kU := set_way k6 hbl (by omega) hMb 5 (.string T)
    have hbU := set_at hb6 5 (.string T) rfl
    have hzU := (Below.heap_setCell w6 ⟨bj, 5, none⟩ (.string T) w.heap.size (show w.heap.size ≠ bj by omega)).trans hz6
    rw [hU] at kU hbU hzU
    have HE1 := hide (HX.out T U _ hT (by omega) kU hbU hzU)
    clear H6 k6 g6 hb6 hz6 kU hbU hzU hT
    go_wp2_with (first
      | (go_at_call 41; with_reducible (refine HE1.out.mono ?_); rintro e w7 ⟨ee, Y, rfl, hY, ⟨y6, yf6⟩, HE2⟩)
      | (go_at_call 41; with_reducible (refine HE2.out.mono ?_); rintro e w8 ⟨qq, V, rfl, hV, ⟨y7, yf7⟩, HE3⟩; have g0 := cell_of (i := 0) HE3.out.1 (v := .int .i64 (1 + (r1 : Int))) rfl; have g1 := cell_of (i := 1) HE3.out.1 (v := .int .i64 (1 + (r2 : Int))) rfl; have g2 := cell_of (i := 2) HE3.out.1 (v := .string F) rfl; have g3 := cell_of (i := 3) HE3.out.1 (v := .int .i64 (r3 : Int)) rfl; have g4 := cell_of (i := 4) HE3.out.1 (v := .string S) rfl; have g5 := cell_of (i := 5) HE3.out.1 (v := .string T) rfl; have g6 := cell_of (i := 6) HE3.out.1 (v := .bool ee) rfl; have g7 := cell_of (i := 7) HE3.out.1 (v := .bool qq) rfl; have z0 := cell_of (i := 0) HE3.out.2.1 (v := .int .i64 0) rfl; have z1 := cell_of (i := 1) HE3.out.2.1 (v := .int .i64 0) rfl; have z2 := cell_of (i := 2) HE3.out.2.1 (v := .string ⟨#[]⟩) rfl; have z3 := cell_of (i := 3) HE3.out.2.1 (v := .int .i64 0) rfl; have z4 := cell_of (i := 4) HE3.out.2.1 (v := .string ⟨#[]⟩) rfl; have z5 := cell_of (i := 5) HE3.out.2.1 (v := .string ⟨#[]⟩) rfl; have z6 := cell_of (i := 6) HE3.out.2.1 (v := .bool false) rfl; have z7 := cell_of (i := 7) HE3.out.2.1 (v := .bool false) rfl; have f0 := frozen_of HE3.out.2.1 0; have f1 := frozen_of HE3.out.2.1 1; have f2 := frozen_of HE3.out.2.1 2; have f3 := frozen_of HE3.out.2.1 3; have f4 := frozen_of HE3.out.2.1 4; have f5 := frozen_of HE3.out.2.1 5; have f6 := frozen_of HE3.out.2.1 6; have f7 := frozen_of HE3.out.2.1 7))
    obtain ⟨WF, hWF⟩ : ∃ WF, sets V w.heap.size [(0, .int .i64 (1 + (r1 : Int))), (1, .int .i64 (1 + (r2 : Int))), (2, .string F), (3, .int .i64 (r3 : Int)), (4, .string S), (5, .string T), (6, .bool ee), (7, .bool qq)] = WF := ⟨_, rfl⟩
    have hblk : WF.heap[w.heap.size]? = some (.cells #[.int .i64 (1 + (r1 : Int)), .int .i64 (1 + (r2 : Int)), .string F, .int .i64 (r3 : Int), .string S, .string T, .bool ee, .bool qq] 94 (0, 0)) := by
      rw [← hWF]
      have q2 := sets_at [(0, .int .i64 (1 + (r1 : Int))), (1, .int .i64 (1 + (r2 : Int))), (2, .string F), (3, .int .i64 (r3 : Int)), (4, .string S), (5, .string T), (6, .bool ee), (7, .bool qq)] HE3.out.2.1
      have e : setsA #[.int .i64 0, .int .i64 0, .string ⟨#[]⟩, .int .i64 0, .string ⟨#[]⟩, .string ⟨#[]⟩, .bool false, .bool false] [(0, .int .i64 (1 + (r1 : Int))), (1, .int .i64 (1 + (r2 : Int))), (2, .string F), (3, .int .i64 (r3 : Int)), (4, .string S), (5, .string T), (6, .bool ee), (7, .bool qq)] = #[.int .i64 (1 + (r1 : Int)), .int .i64 (1 + (r2 : Int)), .string F, .int .i64 (r3 : Int), .string S, .string T, .bool ee, .bool qq] := by simp [setsA]
      rw [e] at q2
      exact q2
    have k0 := cell_of (i := 0) hblk (v := .int .i64 (1 + (r1 : Int))) rfl
    have k1 := cell_of (i := 1) hblk (v := .int .i64 (1 + (r2 : Int))) rfl
    have k2 := cell_of (i := 2) hblk (v := .string F) rfl
    have k3 := cell_of (i := 3) hblk (v := .int .i64 (r3 : Int)) rfl
    have k4 := cell_of (i := 4) hblk (v := .string S) rfl
    have k5 := cell_of (i := 5) hblk (v := .string T) rfl
    have k6 := cell_of (i := 6) hblk (v := .bool ee) rfl
    have k7 := cell_of (i := 7) hblk (v := .bool qq) rfl
    have HT2 := HE3.out.2.2
    rw [hWF] at HT2
    simp only [sets] at hWF
    rw [hWF]
    refine bodyPost_ret (v := .agg #[.int .i64 (1 + (r1 : Int)), .int .i64 (1 + (r2 : Int)), .string F, .int .i64 (r3 : Int), .string S, .string T, .bool ee, .bool qq]) ?_ rfl HT2
    simp [results, Try.results43, go_sem, k0, k1, k2, k3, k4, k5, k6, k7]
  · have h0I : ((r3 : Int) == 0) = false := by simp; omega
    have HE1 := hide (HX.out ⟨#[]⟩ B _ (by decide) (by omega) kB hbj hZB)
    clear kB hbj hZB h0 hX3 HSB
    go_wp2_with (first
      | (go_at_call 41; with_reducible (refine HE1.out.mono ?_); rintro e w7 ⟨ee, Y, rfl, hY, ⟨y6, yf6⟩, HE2⟩)
      | (go_at_call 41; with_reducible (refine HE2.out.mono ?_); rintro e w8 ⟨qq, V, rfl, hV, ⟨y7, yf7⟩, HE3⟩; have g0 := cell_of (i := 0) HE3.out.1 (v := .int .i64 (1 + (r1 : Int))) rfl; have g1 := cell_of (i := 1) HE3.out.1 (v := .int .i64 (1 + (r2 : Int))) rfl; have g2 := cell_of (i := 2) HE3.out.1 (v := .string F) rfl; have g3 := cell_of (i := 3) HE3.out.1 (v := .int .i64 (r3 : Int)) rfl; have g4 := cell_of (i := 4) HE3.out.1 (v := .string S) rfl; have g5 := cell_of (i := 5) HE3.out.1 (v := .string ⟨#[]⟩) rfl; have g6 := cell_of (i := 6) HE3.out.1 (v := .bool ee) rfl; have g7 := cell_of (i := 7) HE3.out.1 (v := .bool qq) rfl; have z0 := cell_of (i := 0) HE3.out.2.1 (v := .int .i64 0) rfl; have z1 := cell_of (i := 1) HE3.out.2.1 (v := .int .i64 0) rfl; have z2 := cell_of (i := 2) HE3.out.2.1 (v := .string ⟨#[]⟩) rfl; have z3 := cell_of (i := 3) HE3.out.2.1 (v := .int .i64 0) rfl; have z4 := cell_of (i := 4) HE3.out.2.1 (v := .string ⟨#[]⟩) rfl; have z5 := cell_of (i := 5) HE3.out.2.1 (v := .string ⟨#[]⟩) rfl; have z6 := cell_of (i := 6) HE3.out.2.1 (v := .bool false) rfl; have z7 := cell_of (i := 7) HE3.out.2.1 (v := .bool false) rfl; have f0 := frozen_of HE3.out.2.1 0; have f1 := frozen_of HE3.out.2.1 1; have f2 := frozen_of HE3.out.2.1 2; have f3 := frozen_of HE3.out.2.1 3; have f4 := frozen_of HE3.out.2.1 4; have f5 := frozen_of HE3.out.2.1 5; have f6 := frozen_of HE3.out.2.1 6; have f7 := frozen_of HE3.out.2.1 7))
    obtain ⟨WF, hWF⟩ : ∃ WF, sets V w.heap.size [(0, .int .i64 (1 + (r1 : Int))), (1, .int .i64 (1 + (r2 : Int))), (2, .string F), (3, .int .i64 (r3 : Int)), (4, .string S), (5, .string ⟨#[]⟩), (6, .bool ee), (7, .bool qq)] = WF := ⟨_, rfl⟩
    have hblk : WF.heap[w.heap.size]? = some (.cells #[.int .i64 (1 + (r1 : Int)), .int .i64 (1 + (r2 : Int)), .string F, .int .i64 (r3 : Int), .string S, .string ⟨#[]⟩, .bool ee, .bool qq] 94 (0, 0)) := by
      rw [← hWF]
      have q2 := sets_at [(0, .int .i64 (1 + (r1 : Int))), (1, .int .i64 (1 + (r2 : Int))), (2, .string F), (3, .int .i64 (r3 : Int)), (4, .string S), (5, .string ⟨#[]⟩), (6, .bool ee), (7, .bool qq)] HE3.out.2.1
      have e : setsA #[.int .i64 0, .int .i64 0, .string ⟨#[]⟩, .int .i64 0, .string ⟨#[]⟩, .string ⟨#[]⟩, .bool false, .bool false] [(0, .int .i64 (1 + (r1 : Int))), (1, .int .i64 (1 + (r2 : Int))), (2, .string F), (3, .int .i64 (r3 : Int)), (4, .string S), (5, .string ⟨#[]⟩), (6, .bool ee), (7, .bool qq)] = #[.int .i64 (1 + (r1 : Int)), .int .i64 (1 + (r2 : Int)), .string F, .int .i64 (r3 : Int), .string S, .string ⟨#[]⟩, .bool ee, .bool qq] := by simp [setsA]
      rw [e] at q2
      exact q2
    have k0 := cell_of (i := 0) hblk (v := .int .i64 (1 + (r1 : Int))) rfl
    have k1 := cell_of (i := 1) hblk (v := .int .i64 (1 + (r2 : Int))) rfl
    have k2 := cell_of (i := 2) hblk (v := .string F) rfl
    have k3 := cell_of (i := 3) hblk (v := .int .i64 (r3 : Int)) rfl
    have k4 := cell_of (i := 4) hblk (v := .string S) rfl
    have k5 := cell_of (i := 5) hblk (v := .string ⟨#[]⟩) rfl
    have k6 := cell_of (i := 6) hblk (v := .bool ee) rfl
    have k7 := cell_of (i := 7) hblk (v := .bool qq) rfl
    have HT2 := HE3.out.2.2
    rw [hWF] at HT2
    simp only [sets] at hWF
    rw [hWF]
    refine bodyPost_ret (v := .agg #[.int .i64 (1 + (r1 : Int)), .int .i64 (1 + (r2 : Int)), .string F, .int .i64 (r3 : Int), .string S, .string ⟨#[]⟩, .bool ee, .bool qq]) ?_ rfl HT2
    simp [results, Try.results43, go_sem, k0, k1, k2, k3, k4, k5, k6, k7]
end Go.Proofs.Ytklkglbimjajnaa.jobd
namespace Go.Proofs.Ytklkglbimjajnaa.evg
open Raft mem grp ndw src drb crun evd eve evf jobd
theorem own_set {w : World} {base e sz n cap g : Nat} {xs : List Value} (h : w.ownsRow base e sz (.slice (some ⟨g, 0, none⟩) n cap) n xs) (i : Nat) (x : Value) : (w.setCell ⟨g, i, none⟩ x).ownsRow base e sz (.slice (some ⟨g, 0, none⟩) n cap) n (xs.set i x) := by
  obtain ⟨h1, ⟨e1, _⟩ | ⟨g', cap', cur, e1, hb, hg, hnc, hcm, hcs, ht⟩⟩ := h
  · simp at e1
  · simp only [Value.slice.injEq, Option.some.injEq, Addr.mk.injEq, and_true, true_and] at e1
    obtain ⟨rfl, rfl⟩ := e1
    refine ⟨by simp [h1], .inr ⟨g, cap, _, rfl, hb, set_at hg i x rfl, hnc, hcm, by simp [hcs], ?_⟩⟩
    rw [Array.toList_setIfInBounds, List.take_set, ht]
theorem flat_set : ∀ (us : List EV) (i : Nat) (x : EV) (ys : List Int) (dv : Value), us[i]? = some x → (us.flatMap evCells).set (i * 3 + 2) dv = (us.set i ⟨⟨x.e.kind, x.e.n, ys⟩, dv⟩).flatMap evCells
  | [], i, x, ys, dv, h => by simp at h
  | a :: us, 0, x, ys, dv, h => by
    obtain rfl : a = x := by simpa using h
    simp [evCells]
  | a :: us, i + 1, x, ys, dv, h => by
    rw [show (i + 1) * 3 + 2 = (i * 3 + 2) + 1 + 1 + 1 by omega, List.set_cons_succ, List.flatMap_cons, List.flatMap_cons, ← flat_set us i x ys dv (by simpa using h)]
    simp [evCells]
theorem EP.at {w wr : World} {M : Fz} {d q n : Nat} {so : Option Addr} {sc : Nat} {dv : Value} (h : EP w M d q n (.slice so n sc) dv wr) {i : Nat} (hi : i < n) : ∃ (g : Nat) (k : Int) (u : Value), so = some ⟨g, 0, none⟩ ∧ wr.cell? ⟨g, i * 3, none⟩ = some (.int .i64 k) ∧ wr.cell? ⟨g, i * 3 + 2, none⟩ = some u ∧ wr.frozen? ⟨g, i * 3 + 2, none⟩ = false ∧ EI w M d q n (.slice so n sc) (wr.setCell ⟨g, i * 3 + 2, none⟩ dv) := by
  obtain ⟨us, M', ys, hl, hk, hd, hy⟩ := h
  obtain ⟨x, hx⟩ : ∃ x, us[i]? = some x := ⟨_, List.getElem?_eq_getElem (by omega)⟩
  have hr := hk.row
  obtain ⟨h1, ⟨e1, e2⟩ | ⟨g, cap, cur, e1, hb, hg, hnc, hcm, hcs, ht⟩⟩ := hr
  · omega
  · simp only [Value.slice.injEq, true_and] at e1
    obtain ⟨rfl, rfl⟩ := e1
    have hf := fun j hj => flat_get evCells 3 (fun _ => rfl) us i j x hx hj
    have hcl := World.ownsRow.cells hk.row rfl
    have c0 := hcl (i * 3 + 0) (.int .i64 x.e.kind) (by rw [hf 0 (by decide)]; rfl)
    have c2 := hcl (i * 3 + 2) x.dv (by rw [hf 2 (by decide)]; rfl)
    rw [pile.add_at, Nat.zero_add] at c0 c2
    have hne := hk.ne g (by simp [Value.ownBlock])
    have hfree := hk.free g (by simp [Value.ownBlock])
    refine ⟨g, x.e.kind, x.dv, rfl, c0, c2, frozen_of hg _, us.set i ⟨⟨x.e.kind, x.e.n, ys⟩, dv⟩, M', [], by simp [hl], ⟨?_, ?_, ⟨hk.dr.le, hk.dr.inn.set hfree _, ?_, hk.dr.new⟩, hk.free, hk.lt⟩, ?_, bytesM_nil _⟩
    · rw [← flat_set us i x ys dv hx]
      exact own_set hk.row _ _
    · exact hk.src.grown (set_grown wr g _ _) (fun b hb' => by simp only [Option.some.injEq] at hb'; subst hb'; exact ⟨hne.1, hfree⟩)
    · exact ⟨hk.dr.grown.os, hk.dr.grown.tape, hk.dr.grown.output, by rw [World.size_setCell]; exact hk.dr.grown.size, fun b hb' hbd => (Below.heap_setCell wr ⟨g, _, none⟩ dv b (show b ≠ g by omega)).trans (hk.dr.grown.block b hb' hbd)⟩
    · intro z hz
      rcases List.mem_or_eq_of_mem_set hz with h' | h'
      · exact hd z h'
      · rw [h']; exact hy
theorem EP.job {w wr : World} {M : Fz} {d q n : Nat} {v : Value} (h : EI w M d q n v wr) (hq : q ≤ 10000000) : Calls Try.prog 43 #[.pointer (some ⟨d, 0, none⟩)] wr fun e w1 => ∃ (C Q V : Nat) (F S T : ByteArray) (ee qq : Bool), e = .returned (.agg #[.int .i64 (C : Int), .int .i64 (Q : Int), .string F, .int .i64 (V : Int), .string S, .string T, .bool ee, .bool qq]) ∧ Hid (jhelp.jobB C Q F.size V S.size T.size = true ∧ EI w M d (q + 10) n v w1) := by
  obtain ⟨us, M', ys, hl, hk, hd, hy⟩ := h
  refine (job_any wr M' d q hk.src (by omega)).mono ?_
  rintro e w1 ⟨C, Q, V, F, S, T, ee, qq, rfl, hj, s1, g1⟩
  exact ⟨C, Q, V, F, S, T, ee, qq, rfl, hj, us, M', ys, hl, hk.draw s1 (Dr.of s1 g1), hd, hy⟩
theorem EP.jobBytes {w wr : World} {M : Fz} {d q n : Nat} {v : Value} (h : EI w M d q n v wr) (C Q V : Nat) (F S T : ByteArray) (ee qq : Bool) (hj : jhelp.jobB C Q F.size V S.size T.size = true) : Calls Try.prog 42 #[.agg #[.int .i64 (C : Int), .int .i64 (Q : Int), .string F, .int .i64 (V : Int), .string S, .string T, .bool ee, .bool qq]] wr fun e w1 => ∃ (o : Option Addr) (l c : Nat), e = .returned (.slice o l c) ∧ Hid (EP w M d q n v (.slice o l c) w1) := by
  obtain ⟨us, M', ys, hl, hk, hd, hy⟩ := h
  refine (sjob.specBytes wr C Q V F S T ee qq hj).mono ?_
  rintro e w1 ⟨u, rfl, hO, hb⟩
  obtain ⟨M2, q1, q2, q3, q4⟩ := RowM.freeze hO.2 (hk.dr.inn.below hb) (fun g hg => hk.dr.inn.fresh (row_lt hO.2 hg).1)
  obtain ⟨o, c, rfl⟩ := own_slice hO.2
  have hd2 : M2 d = none := by
    cases e : M2 d with
    | none => rfl
    | some ob =>
      rcases q4 d (by rw [e]; simp) with g | g
      · exact absurd (drb.Src.free hk.src) g
      · have := (row_lt hO.2 g).1; have := hk.src.lt; omega
  have s2 := (hk.src.below hb).le q1 q2 hd2
  have dr2 : Dr wr M' d w1 M2 := ⟨q1, q2, below_grown hb _, fun b hb' => (q4 b hb').imp id (fun g => (row_lt hO.2 g).1)⟩
  exact ⟨o, _, c, rfl, us, M2, _, hl, hk.draw s2 dr2, fun x hx => (hd x hx).le q1, q3, hO.1⟩
set_option maxRecDepth 20000 in
set_option maxHeartbeats 2000000 in
theorem jobEvents_any (w : World) (M : Fz) (d q : Nat) (h : Src w M d q) (hq : q ≤ 100000) (n : Nat) (h1 : 1 ≤ n) (h7 : n ≤ 7) :
    Calls Try.prog 18 #[.pointer (some ⟨d, 0, none⟩), .int .i64 n] w fun e w' => EvsE w M d (q + 60000) 300 e w' := by
  have HC0 := hide (anyEvents_any w M d q h (by omega) n h1 h7)
  clear h
  go_enter Try.func18, Try.ntmps18
  go_wp2_with (go_at_call 40; refine HC0.out.mono ?_; rintro e w1 ⟨so, m, sc, rfl, hm, H1⟩)
  have hcp := EP.cap H1.out
  clear HC0
  go_loopw [6] (fun i wr => ∃ k : Nat, k ≤ m ∧ i = .int .i64 k ∧ Hid (EI w M d (q + 40000 + k * 20) m (.slice so m sc) wr)) (fun i _ => m - (intOf i).toNat)
  case atStart => exact ⟨0, Nat.zero_le _, rfl, H1⟩
  case round =>
    clear H1
    obtain ⟨k, hk, rfl, HR⟩ := hrel
    by_cases hlt : k < m
    · have hltI : (k : Int) < m := by omega
      obtain ⟨g, kd, u0, rfl, c0, _, _, _⟩ := EP.at HR.out hlt
      by_cases h9 : kd = 7
      · subst h9
        have HC := hide (EP.chance HR.out (by omega) 6 (by omega) (by omega))
        go_wp2_with fail
        refine HC.out.mono ?_
        rintro e w2 ⟨bb, rfl, H2⟩
        clear HC HR
        cases bb with
        | true =>
          go_wp2
          go_roundw
          case rel => exact ⟨k + 1, by omega, by go_num, EP.more H2.out (by omega)⟩
          case measure => simp [intOf]; omega
        | false =>
          have HJ := hide (EP.job H2.out (by omega))
          clear H2 c0
          go_wp2_with (first
            | (go_at_call 43; refine HJ.out.mono ?_; rintro e w3 ⟨C, Q, V, F, S, T, ee, qq, rfl, H3⟩; have HB := hide (EP.jobBytes H3.out.2 C Q V F S T ee qq H3.out.1))
            | (go_at_call 42; refine HB.out.mono ?_; rintro e w4 ⟨o4, l4, c4, rfl, H4⟩; obtain ⟨g', kd', u', eg, _, cu, cf, hN⟩ := EP.at H4.out hlt; obtain rfl : g' = g := (by simpa using eg.symm); have HN := hide hN; clear hN eg))
          go_roundw
          case rel => exact ⟨k + 1, by omega, by go_num, EP.more HN.out (by omega)⟩
          case measure => simp [intOf]; omega
      · have h9b : (kd == 7) = false := by simp; omega
        go_wp2
        go_roundw
        case rel => exact ⟨k + 1, by omega, by go_num, EP.more HR.out (by omega)⟩
        case measure => simp [intOf]; omega
    · have hlt2 : ¬ (k : Int) < m := by omega
      go_wp2
      go_ret
      exact ⟨so, m, sc, rfl, hm, EP.more HR.out (by omega)⟩
def EvsOfE (w : World) (M : Fz) (e : Ending) (w' : World) : Prop := ∃ (o : Option Addr) (n c : Nat), e = .returned (.slice o n c) ∧ n ≤ 300 ∧ ∃ (M' : Fz) (us : List EV), us.length = n ∧ EvsV M' (.slice o n c) us ∧ Le M M' ∧ In M' w' ∧ Below w.heap.size w w' ∧ ∀ b, M' b ≠ none → M b ≠ none ∨ w.heap.size ≤ b
set_option maxHeartbeats 1000000 in
theorem eventsOf_any (w : World) (M : Fz) (hI : In M w) (ao : Option Addr) (cap : Nat) (xs : List Int) (hx : BytesM M (.slice ao xs.length cap) xs) (hl : xs.length ≤ 1048576) (n : Nat) (h1 : 1 ≤ n) (h7 : n ≤ 7) :
    Calls Try.prog 7 #[.slice ao xs.length cap, .int .i64 n] w fun e w' => EvsOfE w M e w' := by
  have HS : Hid (Calls Try.prog 17 #[.slice ao xs.length cap] w fun e w1 => ∃ d, e = .returned (.pointer (some ⟨d, 0, none⟩)) ∧ Hid (Src w1 M d 0 ∧ Below w.heap.size w w1 ∧ w.heap.size ≤ d)) := by
    obtain ⟨X, hX⟩ : ∃ X, w.alloc (.cells #[.slice ao xs.length cap, .int .i64 0, .int .i64 ((xs.length : Int) % 1000)] 90) = X := ⟨_, rfl⟩
    have bX : Below w.heap.size w X := by rw [← hX]; exact grp.more (Below.refl _ _) _
    have hB : X.heap[w.heap.size]? = some (.cells #[.slice ao xs.length cap, .int .i64 0, .int .i64 ((xs.length : Int) % 1000)] 90 (0, 0)) := by rw [← hX]; exact heap_alloc_new w _
    have HF : Hid (Src X M w.heap.size 0 ∧ Below w.heap.size w X ∧ w.heap.size ≤ w.heap.size) := by
      refine ⟨⟨ao, cap, xs, 0, _, ⟨hB, hx, hI.below bX, hI.fresh (Nat.le_refl _), ?_, ?_⟩, Nat.le_refl _, by omega⟩, bX, Nat.le_refl _⟩
      · omega
      · omega
    clear hB bX hx hI
    go_enter Try.func17, Try.ntmps17
    go_wp2
    go_ret
    exact ⟨_, rfl, HF⟩
  clear hx
  go_enter Try.func7, Try.ntmps7
  go_wp2_with (first
    | (go_at_call 17; refine HS.out.mono ?_; rintro e w1 ⟨d, rfl, H1⟩; have HJ := hide (jobEvents_any w1 M d 0 H1.out.1 (by omega) n h1 h7))
    | (go_at_call 18; refine HJ.out.mono ?_; rintro e w2 ⟨o, m, c, rfl, hm, H2⟩))
  go_ret
  obtain ⟨us, M', ys, hl, hk, hd, hy⟩ := H2.out
  obtain ⟨M2, q1, q2, q3, q4⟩ := hk.done
  obtain ⟨s1, b1, hd1⟩ := H1.out
  refine ⟨o, m, c, rfl, hm, M2, us, hl, ⟨by rw [hl]; exact q2, fun x hx => (hd x hx).le q1⟩, q4.le, q4.inn, ?_, fun b hb => ?_⟩
  · refine ⟨q4.grown.os.trans b1.os, q4.grown.tape.trans b1.tape, q4.grown.output.trans b1.output, Nat.le_trans b1.size q4.grown.size, fun k hk' => ?_⟩
    exact (q4.grown.block k (Nat.lt_of_lt_of_le hk' b1.size) (fun e => by simp only [Option.some.injEq] at e; omega)).trans (b1.block k hk')
  · rcases q4.new b hb with g | g
    · exact .inl g
    · exact .inr (Nat.le_trans b1.size g)
end Go.Proofs.Ytklkglbimjajnaa.evg
namespace Go.Proofs.Ytklkglbimjajnaa.lg1
open bytes Raft mem grp
set_option maxHeartbeats 800000 in
theorem at_any (w : World) (b : Value) (xs : List Int) (i : Nat) (n : Int) (hi : i ≤ 1000) (hn : n ≤ 1000000000) (hb : Rd w b xs) :
    Calls Try.prog 10 #[b, .int .i64 i, .int .i64 n] w fun e w' => ∃ r : Int, e = .returned (.int .i64 r) ∧ 0 ≤ r ∧ (r < n ∨ (n ≤ 1 ∧ r = 0)) ∧ ∃ m, w' = w.drewN m := by
  obtain ⟨ao, ca, rfl, ha1, ha2, hx, ha3⟩ := hb
  unfold maxLen at ha2
  by_cases h1 : n ≤ 1
  · go_enter Try.func10, Try.ntmps10
    go_wp2
    go_ret
    exact ⟨0, rfl, by omega, .inr ⟨h1, rfl⟩, 0, rfl⟩
  · have hn0 : n ≠ 0 := by omega
    by_cases h0 : xs.length = 0
    · have hz : (((xs.length : Nat) : Int) == 0) = true := by simp [h0]
      go_enter Try.func10, Try.ntmps10
      go_wp2
      go_ret
      exact ⟨_, rfl, Int.emod_nonneg _ hn0, .inl (Int.emod_lt_of_pos _ (by omega)), 0, rfl⟩
    · have hz : (((xs.length : Nat) : Int) == 0) = false := beq_eq_false_iff_ne.2 (by omega)
      obtain ⟨ab, aoff, rfl, hca⟩ := ha3 (by omega)
      have hc1 := hca (i % xs.length) (Nat.mod_lt _ (by omega))
      have hc2 := hca ((i + 1) % xs.length) (Nat.mod_lt _ (by omega))
      have hb1 := getD_bd hx (i % xs.length)
      have hb2 := getD_bd hx ((i + 1) % xs.length)
      generalize xs.getD (i % xs.length) 0 = c1 at hc1 hb1
      generalize xs.getD ((i + 1) % xs.length) 0 = c2 at hc2 hb2
      have ht1 : ((i : Nat) : Int).tmod xs.length = ((i % xs.length : Nat) : Int) := rfl
      have ht2 : (((i : Nat) : Int) + 1).tmod xs.length = (((i + 1) % xs.length : Nat) : Int) := rfl
      have hq : ((i : Nat) : Int).tdiv xs.length = ((i / xs.length : Nat) : Int) := rfl
      have hm1 : i % xs.length < xs.length := Nat.mod_lt _ (by omega)
      have hm2 : (i + 1) % xs.length < xs.length := Nat.mod_lt _ (by omega)
      have hq1 : i / xs.length ≤ i := Nat.div_le_self _ _
      generalize i % xs.length = m1 at hc1 ht1 hm1
      generalize (i + 1) % xs.length = m2 at hc2 ht2 hm2
      generalize i / xs.length = q at hq hq1
      clear hca ha3 hx
      go_enter Try.func10, Try.ntmps10
      go_wp2
      go_quiet (fail)
      go_wp2
      go_ret
      exact ⟨_, rfl, Int.emod_nonneg _ hn0, .inl (Int.emod_lt_of_pos _ (by omega)), _, rfl⟩
def whole (w : World) : Fz := fun b => w.heap[b]?
theorem whole_in (w : World) : In (whole w) w := fun _ _ h => h
theorem cellM_of {w : World} {b i : Nat} {v : Value} (h : w.cell? ⟨b, i, none⟩ = some v) : cellM (whole w) b i = some v := by
  unfold cellM whole
  cases e : w.heap[b]? with
  | none => simp [World.cell?, e] at h
  | some o =>
    cases o with
    | cells cur t fr => simpa [World.cell?, e] using h
    | _ => simp [World.cell?, e] at h
theorem rdM {w : World} {v : Value} {xs : List Int} (h : pile.RdA w v xs) : BytesM (whole w) v xs := by
  obtain ⟨⟨ao, cap, rfl, h1, h2, h3, h4⟩, h5⟩ := h
  refine ⟨⟨ao, cap, rfl, h1, h2, by simp, fun e => ?_, fun hp => ?_⟩, h3⟩
  · subst e
    have := h5 _ _ rfl
    simp only [Value.slice.injEq, true_and] at this
    exact this
  · obtain ⟨b, off, rfl, hc⟩ := h4 hp
    refine ⟨b, off, rfl, fun i v hv => ?_⟩
    have hi : i < xs.length := by have := (List.getElem?_eq_some_iff.1 hv).1; simpa using this
    have := hc i hi
    rw [List.getElem?_map, List.getElem?_eq_getElem hi] at hv
    simp only [Option.map_some, Option.some.injEq] at hv
    rw [← hv]
    refine cellM_of (this.trans ?_)
    rw [List.getD_eq_getElem?_getD, List.getElem?_eq_getElem hi]
    rfl
theorem below_drewN {w w1 : World} {B : Nat} (h : Below B w w1) (q : Nat) : Below B w (w1.drewN q) := ⟨h.os, h.tape, h.output, h.size, h.block⟩
set_option maxHeartbeats 1000000 in
theorem peers_any (w : World) (b : Value) (xs : List Int) (hb : Rd w b xs) :
    Calls Try.prog 6 #[b] w fun e w' => ∃ n : Nat, e = .returned (.int .i64 (n : Int)) ∧ (1 ≤ n ∧ n ≤ 7) ∧ Below w.heap.size w w' := by
  obtain ⟨X, hX⟩ : ∃ X, w.alloc (.cells #[.int .i64 1, .int .i64 3, .int .i64 5, .int .i64 3, .int .i64 2, .int .i64 4, .int .i64 7] 3) = X := ⟨_, rfl⟩
  have bX : Below w.heap.size w X := by rw [← hX]; exact more (Below.refl _ _) _
  have hB : X.heap[w.heap.size]? = some (.cells #[.int .i64 1, .int .i64 3, .int .i64 5, .int .i64 3, .int .i64 2, .int .i64 4, .int .i64 7] 3 (0, 0)) := by rw [← hX]; exact heap_alloc_new w _
  have hbX : Rd X b xs := by
    obtain ⟨ao, ca, e, ha1, ha2, hx, ha3⟩ := hb
    refine ⟨ao, ca, e, ha1, ha2, hx, fun hp => ?_⟩
    obtain ⟨b, off, e2, hc⟩ := ha3 hp
    exact ⟨b, off, e2, fun i hi => (bX.cell (World.block_lt_of_cell? w _ (hc i hi))).trans (hc i hi)⟩
  have HC : Hid (Calls Try.prog 10 #[b, .int .i64 0, .int .i64 7] X fun e w1 => ∃ (r K : Nat), e = .returned (.int .i64 (r : Int)) ∧ (r : Int) < 7 ∧ w1.cell? ⟨w.heap.size, r, none⟩ = some (.int .i64 (K : Int)) ∧ Hid ((1 ≤ K ∧ K ≤ 7) ∧ Below w.heap.size w w1)) := by
    refine (at_any X b xs 0 7 (by omega) (by omega) hbX).mono ?_
    rintro e w1 ⟨r, rfl, r0, r1, m, rfl⟩
    obtain ⟨k, rfl⟩ := Int.eq_ofNat_of_zero_le r0
    have hk : k < 7 := by omega
    have key : ∃ K : Nat, (#[.int .i64 1, .int .i64 3, .int .i64 5, .int .i64 3, .int .i64 2, .int .i64 4, .int .i64 7] : Array Value)[k]? = some (.int .i64 (K : Int)) ∧ 1 ≤ K ∧ K ≤ 7 := by
      obtain rfl | rfl | rfl | rfl | rfl | rfl | rfl : k = 0 ∨ k = 1 ∨ k = 2 ∨ k = 3 ∨ k = 4 ∨ k = 5 ∨ k = 6 := by omega
      · exact ⟨1, rfl, by omega, by omega⟩
      · exact ⟨3, rfl, by omega, by omega⟩
      · exact ⟨5, rfl, by omega, by omega⟩
      · exact ⟨3, rfl, by omega, by omega⟩
      · exact ⟨2, rfl, by omega, by omega⟩
      · exact ⟨4, rfl, by omega, by omega⟩
      · exact ⟨7, rfl, by omega, by omega⟩
    obtain ⟨K, hK, h1, h2⟩ := key
    exact ⟨k, K, rfl, by omega, cell_of (w := X.drewN m) hB hK, ⟨h1, h2⟩, below_drewN bX m⟩
  clear hB bX hbX hb
  go_enter Try.func6, Try.ntmps6
  go_wp2_with (go_at_call 10; refine HC.out.mono ?_; rintro e w1 ⟨r, K, rfl, hr, hcl, H1⟩)
  go_ret
  exact ⟨K, rfl, H1.out.1, H1.out.2⟩
theorem RecsM.take {M : Fz} {o : Option Addr} {n c : Nat} {l : List Rc} (h : RecsM M (.slice o n c) l) (x : Nat) (hx : x ≤ l.length) : RecsM M (.slice o x c) (l.take x) := by
  obtain ⟨us, e, ⟨ao, cap, e1, h1, h2, h3, h4, h5⟩, hd⟩ := h
  simp only [Value.slice.injEq] at e1
  obtain ⟨rfl, rfl, rfl⟩ := e1
  have hl : us.length = l.length := by rw [← e, List.length_map]
  have hf := flat_len recCells 3 recCells_len
  refine ⟨us.take x, by rw [← e, List.map_take], ⟨o, c, by rw [List.length_take, Nat.min_eq_left (by omega)], by rw [List.length_take]; omega, h2, hf _, fun e0 => ?_, fun hp => ?_⟩, fun y hy => hd y (List.mem_of_mem_take hy)⟩
  · have := h4 e0
    rw [List.length_take]
    omega
  · rw [List.length_take] at hp
    obtain ⟨b, off, e2, hc⟩ := h5 (by omega)
    refine ⟨b, off, e2, fun i v hv => hc i v ?_⟩
    have hi := (List.getElem?_eq_some_iff.1 hv).1
    have e3 : us.flatMap recCells = (us.take x).flatMap recCells ++ (us.drop x).flatMap recCells := by rw [← List.flatMap_append, List.take_append_drop]
    rw [e3, List.getElem?_append_left hi]
    exact hv
theorem RecsM.at {M : Fz} {o : Option Addr} {n c : Nat} {l : List Rc} (h : RecsM M (.slice o n c) l) {k : Nat} {r : Rc} (hk : l[k]? = some r) : ∃ (b off : Nat) (d1 : Option Addr) (d3 : Nat), o = some ⟨b, off, none⟩ ∧ cellM M b (off + k * 3) = some (.int .i64 r.term) ∧ cellM M b (off + k * 3 + 1) = some (.int .i64 r.index) ∧ cellM M b (off + k * 3 + 2) = some (.slice d1 r.data.length d3) ∧ BytesM M (.slice d1 r.data.length d3) r.data := by
  obtain ⟨us, e, ⟨ao, cap, e1, h1, h2, h3, h4, h5⟩, hd⟩ := h
  simp only [Value.slice.injEq] at e1
  obtain ⟨rfl, rfl, rfl⟩ := e1
  rw [← e, List.getElem?_map] at hk
  obtain ⟨x, hx, rfl⟩ : ∃ x, us[k]? = some x ∧ x.r = r := by
    cases hu : us[k]? with
    | none => rw [hu] at hk; cases hk
    | some x => rw [hu] at hk; simp only [Option.map_some, Option.some.injEq] at hk; exact ⟨x, rfl, hk⟩
  obtain ⟨b, off, rfl, hc⟩ := h5 (by have := (List.getElem?_eq_some_iff.1 hx).1; omega)
  have hf := fun i hi => flat_get recCells 3 recCells_len us k i x hx hi
  have hdx := (hd x (List.mem_of_getElem? hx)).1
  obtain ⟨⟨d1, d3, e2, _⟩, _⟩ := id hdx
  have z2 := hc (k * 3 + 2) x.dv (by rw [hf 2 (by decide)]; rfl)
  rw [e2] at z2
  exact ⟨b, off, d1, d3, rfl, hc (k * 3 + 0) _ (by rw [hf 0 (by decide)]; rfl), hc (k * 3 + 1) _ (by rw [hf 1 (by decide)]; rfl), z2, e2 ▸ hdx⟩
theorem RecsM.len {M : Fz} {o : Option Addr} {n c : Nat} {l : List Rc} (h : RecsM M (.slice o n c) l) : n = l.length ∧ n ≤ c ∧ c ≤ 9223372036854775807 := by
  obtain ⟨us, e, ⟨ao, cap, e1, h1, h2, h3, h4, h5⟩, hd⟩ := h
  simp only [Value.slice.injEq] at e1
  obtain ⟨rfl, rfl, rfl⟩ := e1
  unfold maxLen at h2
  exact ⟨by rw [← e, List.length_map], h1, h2⟩
set_option maxRecDepth 20000 in
set_option maxHeartbeats 2000000 in
theorem sameRecs_any (w : World) (M : Fz) (hI : In M w) (ao : Option Addr) (an ac : Nat) (bo : Option Addr) (bn bc : Nat) (l : List Rc) (ha : RecsM M (.slice ao an ac) l) (hb : RecsM M (.slice bo bn bc) l) :
    Calls Try.prog 9 #[.slice ao an ac, .slice bo bn bc] w fun e w' => e = .returned (.bool true) ∧ ∃ n, w' = w.drewN n := by
  obtain ⟨ea, ea1, ea2⟩ := RecsM.len ha
  obtain ⟨eb, eb1, eb2⟩ := RecsM.len hb
  subst ea eb
  obtain ⟨L, hL⟩ : ∃ L, l.length = L := ⟨_, rfl⟩
  have HK : Hid (∀ k, k < L → ∃ (ab aoff : Nat) (d1 : Option Addr) (d3 : Nat) (bb boff : Nat) (e1 : Option Addr) (e3 : Nat) (t i : Nat) (dl : Nat) (s : ByteArray), ao = some ⟨ab, aoff, none⟩ ∧ bo = some ⟨bb, boff, none⟩ ∧ (w.cell? ⟨ab, aoff + k * 3, none⟩ = some (.int .i64 t) ∧ w.cell? ⟨ab, aoff + k * 3 + 1, none⟩ = some (.int .i64 i) ∧ w.cell? ⟨ab, aoff + k * 3 + 2, none⟩ = some (.slice d1 dl d3)) ∧ (w.cell? ⟨bb, boff + k * 3, none⟩ = some (.int .i64 t) ∧ w.cell? ⟨bb, boff + k * 3 + 1, none⟩ = some (.int .i64 i) ∧ w.cell? ⟨bb, boff + k * 3 + 2, none⟩ = some (.slice e1 dl e3)) ∧ (∀ x, (convert 22 9 (.slice d1 dl d3)).run Try.prog (w.drewN x) = .ok (.string s) (w.drewN x)) ∧ (∀ x, (convert 22 9 (.slice e1 dl e3)).run Try.prog (w.drewN x) = .ok (.string s) (w.drewN x))) := fun k hk => by
    obtain ⟨r, hr⟩ : ∃ r, l[k]? = some r := ⟨_, List.getElem?_eq_getElem (by omega)⟩
    obtain ⟨ab, aoff, d1, d3, rfl, a0, a1, a2, a3⟩ := RecsM.at ha hr
    obtain ⟨bb, boff, e1, e3, rfl, b0, b1, b2, b3⟩ := RecsM.at hb hr
    exact ⟨ab, aoff, d1, d3, bb, boff, e1, e3, r.term, r.index, r.data.length, same.strOf r.data, rfl, rfl, ⟨hI.cell a0, hI.cell a1, hI.cell a2⟩, ⟨hI.cell b0, hI.cell b1, hI.cell b2⟩, fun x => same.run_str (w := w.drewN x) hI a3, fun x => same.run_str (w := w.drewN x) hI b3⟩
  rw [hL] at ea1 eb1 ⊢
  clear ha hb hL hI
  have hne : ((L : Int) != (L : Int)) = false := by simp
  go_enter Try.func9, Try.ntmps9
  go_wp2
  go_loopw [5] (fun i wr => ∃ k m : Nat, k ≤ L ∧ i = .int .i64 k ∧ wr = w.drewN m) (fun i _ => L - (intOf i).toNat)
  case atStart => exact ⟨0, 0, by omega, rfl, rfl⟩
  case round =>
    obtain ⟨k, m, hk, rfl, rfl⟩ := hrel
    by_cases hlt : k < L
    · obtain ⟨ab, aoff, d1, d3, bb, boff, e1, e3, t, i, dl, s, rfl, rfl, ⟨p0, p1, p2⟩, ⟨q0, q1, q2⟩, hk1, hk2⟩ := HK.out k hlt
      have hti : ((t : Int) != (t : Int)) = false := by simp
      have hii : ((i : Int) != (i : Int)) = false := by simp
      go_wp2
      go_quiet (fail)
      go_wp2
      go_roundw
      case rel => exact ⟨k + 1, _, by omega, by go_num, rfl⟩
      case measure => simp [intOf]; omega
    · have hlt2 : ¬ (k : Int) < L := by omega
      go_wp2
      go_ret
      exact ⟨rfl, m, rfl⟩
end Go.Proofs.Ytklkglbimjajnaa.lg1
namespace Go.Proofs.Ytklkglbimjajnaa.srun
open Raft mem
structure PV where
  p : Peer
  lv : Value
  vv : Value
  nv : Value
  mv : Value
def peerCells (x : PV) : List Value := [.bool x.p.up, .int .i64 x.p.term, .int .i64 x.p.vote, .int .i64 x.p.commit, .int .i64 x.p.role, x.lv, x.vv, x.nv, x.mv]
theorem peerCells_len (x : PV) : (peerCells x).length = 9 := rfl
def rows (x : PV) : List Value := [x.vv, x.nv, x.mv]
def IsRow (us : List PV) (b : Nat) : Prop := ∃ (k : Nat) (x : PV) (j : Nat) (v : Value), us[k]? = some x ∧ (rows x)[j]? = some v ∧ v.ownBlock = some b
def Lone (us : List PV) : Prop := ∀ (k k' : Nat) (x x' : PV) (j j' : Nat) (v v' : Value) (b : Nat), us[k]? = some x → us[k']? = some x' → (rows x)[j]? = some v → (rows x')[j']? = some v' → v.ownBlock = some b → v'.ownBlock = some b → k = k' ∧ j = j'
def Mine (d P : Nat) (us : List PV) (cv : Value) (b : Nat) : Prop := b = d ∨ b = P ∨ IsRow us b ∨ cv.ownBlock = some b
structure Ty where
  run : Nat
  peer : Nat
  rc : Nat
  far : Nat → Option Obj
structure Run (T : Ty) (w : World) (M : Fz) (base d P pc : Nat) (c : Cl) (us : List PV) (ns : List MV) (nv : Value) (cs : List RV) (cv : Value) : Prop where
  inn : In M w
  blk : w.heap[d]? = some (.cells #[.slice (some ⟨P, 0, none⟩) us.length pc, nv, cv, .bool c.conflict] T.run (0, 0))
  row : ∃ cur, w.heap[P]? = some (.cells cur T.peer (0, 0)) ∧ cur.size = pc * 9 ∧ cur.toList.take (us.length * 9) = us.flatMap peerCells
  cap : us.length ≤ pc ∧ pc ≤ maxLen
  peers : us.map (·.p) = c.peers
  logs : ∀ x ∈ us, RecsM M x.lv x.p.log
  votes : ∀ x ∈ us, w.ownsRow base 4 1 x.vv x.p.votes.length (x.p.votes.map Value.bool)
  next : ∀ x ∈ us, w.ownsRow base 3 1 x.nv x.p.next.length (x.p.next.map fun (n : Nat) => Value.int .i64 (n : Int))
  mat : ∀ x ∈ us, w.ownsRow base 3 1 x.mv x.p.mat.length (x.p.mat.map fun (n : Nat) => Value.int .i64 (n : Int))
  lone : Lone us
  free : ∀ b, Mine d P us cv b → M b = none
  net : MsgsV M nv ns
  nets : ns.map (·.m) = c.net
  chos : w.ownsRow base T.rc 3 cv cs.length (cs.flatMap recCells)
  chosen : cs.map (·.r) = c.chosen
  data : ∀ x ∈ cs, BytesM M x.dv x.r.data ∧ x.r.data.length ≤ 1000
  low : base ≤ d ∧ base ≤ P
  apart : d ≠ P ∧ ¬ IsRow us d ∧ ¬ IsRow us P ∧ cv.ownBlock ≠ some d ∧ cv.ownBlock ≠ some P ∧ ∀ b, IsRow us b → cv.ownBlock ≠ some b
  far : ∀ b o, T.far b = some o → w.heap[b]? = some o ∧ M b = none ∧ ¬ Mine d P us cv b
theorem row_kept {w w' : World} {base e sz : Nat} {v : Value} {n : Nat} {xs : List Value} (h : w.ownsRow base e sz v n xs) (hk : ∀ g, v.ownBlock = some g → w'.heap[g]? = w.heap[g]?) : w'.ownsRow base e sz v n xs := by
  obtain ⟨h1, h2 | ⟨g, cap, cur, rfl, hb, hg, r⟩⟩ := h
  · exact ⟨h1, .inl h2⟩
  · exact ⟨h1, .inr ⟨g, cap, cur, rfl, hb, (hk g rfl).trans hg, r⟩⟩
theorem row_lt {w : World} {base e sz : Nat} {v : Value} {n : Nat} {xs : List Value} (h : w.ownsRow base e sz v n xs) {g : Nat} (hg : v.ownBlock = some g) : base ≤ g ∧ g < w.heap.size := by
  obtain ⟨h1, ⟨rfl, _⟩ | ⟨g', cap, cur, rfl, hb, hh, _⟩⟩ := h
  · simp [Value.ownBlock] at hg
  · simp only [Value.ownBlock, Option.some.injEq] at hg
    subst hg
    exact ⟨hb, (Array.getElem?_eq_some_iff.1 hh).1⟩
theorem mem_blocks {us : List PV} {x : PV} {v : Value} {g : Nat} (hx : x ∈ us) (hv : v ∈ rows x) (hg : v.ownBlock = some g) : IsRow us g := by
  obtain ⟨k, hk⟩ := List.mem_iff_getElem?.1 hx
  obtain ⟨j, hj⟩ := List.mem_iff_getElem?.1 hv
  exact ⟨k, x, j, v, hk, hj, hg⟩
section
variable {T : Ty} {w : World} {M : Fz} {base d P pc : Nat} {c : Cl} {us : List PV} {ns : List MV} {nv : Value} {cs : List RV} {cv : Value}
theorem Run.lt (h : Run T w M base d P pc c us ns nv cs cv) : d < w.heap.size ∧ P < w.heap.size := by
  obtain ⟨cur, hc, _⟩ := h.row
  exact ⟨(Array.getElem?_eq_some_iff.1 h.blk).1, (Array.getElem?_eq_some_iff.1 hc).1⟩
theorem Run.blocks_lt (h : Run T w M base d P pc c us ns nv cs cv) {b : Nat} (hb : IsRow us b) : base ≤ b ∧ b < w.heap.size := by
  obtain ⟨k, x, j, v, hk, hj, hg⟩ := hb
  have hx : x ∈ us := List.mem_iff_getElem?.2 ⟨k, hk⟩
  have hv : v ∈ rows x := List.mem_iff_getElem?.2 ⟨j, hj⟩
  simp only [rows, List.mem_cons, List.not_mem_nil, or_false] at hv
  rcases hv with rfl | rfl | rfl
  · exact row_lt (h.votes x hx) hg
  · exact row_lt (h.next x hx) hg
  · exact row_lt (h.mat x hx) hg
theorem Run.farN (h : Run T w M base d P pc c us ns nv cs cv) {b : Nat} (hb : w.heap.size ≤ b) : T.far b = none := by
  cases e : T.far b with
  | none => rfl
  | some o => have := (Array.getElem?_eq_some_iff.1 (h.far b o e).1).1; omega
theorem Run.farL (h : Run T w M base d P pc c us ns nv cs cv) {b : Nat} {o : Obj} (e : T.far b = some o) : b < w.heap.size := (Array.getElem?_eq_some_iff.1 (h.far b o e).1).1
theorem Run.keep {w' : World} {M' : Fz} (h : Run T w M base d P pc c us ns nv cs cv) (hl : Le M M') (hI : In M' w') (hb : ∀ b, Mine d P us cv b → w'.heap[b]? = w.heap[b]?)
    (hf : ∀ b, Mine d P us cv b → M' b = none) (hx : ∀ b o, T.far b = some o → w'.heap[b]? = some o ∧ M' b = none) : Run T w' M' base d P pc c us ns nv cs cv where
  inn := hI
  blk := (hb d (.inl rfl)).trans h.blk
  row := by
    obtain ⟨cur, h1, h2⟩ := h.row
    exact ⟨cur, (hb P (.inr (.inl rfl))).trans h1, h2⟩
  cap := h.cap
  peers := h.peers
  logs := fun x hx => (h.logs x hx).le hl
  votes := fun x hx => row_kept (h.votes x hx) fun g hg => hb g (.inr (.inr (.inl (mem_blocks hx (by simp [rows]) hg))))
  next := fun x hx => row_kept (h.next x hx) fun g hg => hb g (.inr (.inr (.inl (mem_blocks hx (by simp [rows]) hg))))
  mat := fun x hx => row_kept (h.mat x hx) fun g hg => hb g (.inr (.inr (.inl (mem_blocks hx (by simp [rows]) hg))))
  lone := h.lone
  free := hf
  net := h.net.le hl
  nets := h.nets
  chos := row_kept h.chos fun g hg => hb g (.inr (.inr (.inr hg)))
  chosen := h.chosen
  data := fun x hx => ⟨(h.data x hx).1.le hl, (h.data x hx).2⟩
  low := h.low
  apart := h.apart
  far := fun b o hb => ⟨(hx b o hb).1, (hx b o hb).2, (h.far b o hb).2.2⟩
theorem Run.mine (h : Run T w M base d P pc c us ns nv cs cv) {b : Nat} (hb : Mine d P us cv b) : b < w.heap.size := by
  rcases hb with rfl | rfl | hb | hb
  · exact h.lt.1
  · exact h.lt.2
  · exact (h.blocks_lt hb).2
  · exact (row_lt h.chos hb).2
theorem Run.below {w' : World} (h : Run T w M base d P pc c us ns nv cs cv) (hb : Below w.heap.size w w') : Run T w' M base d P pc c us ns nv cs cv :=
  h.keep (Le.refl M) (h.inn.below hb) (fun b hm => hb.block b (h.mine hm)) h.free (fun b o e => ⟨(hb.block b (h.farL e)).trans (h.far b o e).1, (h.far b o e).2.1⟩)
theorem Run.setNet {W : World} {M' : Fz} {ns' : List MV} {v : Value} (h : Run T w M base d P pc c us ns nv cs cv) (hb : Below w.heap.size w W) (hl : Le M M') (hI : In M' W)
    (hd : ∀ b, M' b ≠ none → M b ≠ none ∨ w.heap.size ≤ b) (hn : MsgsV M' v ns') :
    Run T (W.setCell ⟨d, 1, none⟩ v) M' base d P pc { c with net := ns'.map (·.m) } us ns' v cs cv ∧ Below base w (W.setCell ⟨d, 1, none⟩ v) := by
  have hf : ∀ b, Mine d P us cv b → M' b = none := fun b hm => by
    cases e : M' b with
    | none => rfl
    | some o =>
      rcases hd b (by rw [e]; simp) with h1 | h1
      · exact absurd (h.free b hm) h1
      · have := h.mine hm; omega
  have h1 : Run T W M' base d P pc c us ns nv cs cv := h.keep hl hI (fun b hm => hb.block b (h.mine hm)) hf (fun b o e => ⟨(hb.block b (h.farL e)).trans (h.far b o e).1, by
    cases e2 : M' b with
    | none => rfl
    | some q =>
      rcases hd b (by rw [e2]; simp) with g | g
      · exact absurd (h.far b o e).2.1 g
      · have := h.farL e; omega⟩)
  have hds : d < W.heap.size := h1.lt.1
  refine ⟨?_, ?_⟩
  · have hne : ∀ b, b ≠ d → (W.setCell ⟨d, 1, none⟩ v).heap[b]? = W.heap[b]? := fun b hb' => Below.heap_setCell W ⟨d, 1, none⟩ v b hb'
    exact {
      inn := hI.set (hf d (.inl rfl)) v
      blk := by
        have := heap_setCell_same W d 1 _ T.run v h1.blk
        simpa using this
      row := by
        obtain ⟨cur, q1, q2⟩ := h1.row
        exact ⟨cur, (hne P (Ne.symm h.apart.1)).trans q1, q2⟩
      cap := h.cap
      peers := h.peers
      logs := h1.logs
      votes := fun x hx => row_kept (h1.votes x hx) fun g hg => hne g (fun e => h.apart.2.1 (e ▸ mem_blocks hx (by simp [rows]) hg))
      next := fun x hx => row_kept (h1.next x hx) fun g hg => hne g (fun e => h.apart.2.1 (e ▸ mem_blocks hx (by simp [rows]) hg))
      mat := fun x hx => row_kept (h1.mat x hx) fun g hg => hne g (fun e => h.apart.2.1 (e ▸ mem_blocks hx (by simp [rows]) hg))
      lone := h.lone
      free := hf
      net := hn
      nets := rfl
      chos := row_kept h1.chos fun g hg => hne g (fun e => h.apart.2.2.2.1 (e ▸ hg))
      chosen := h.chosen
      data := h1.data
      low := h.low
      apart := h.apart
      far := fun b o e => ⟨(hne b (fun q => (h.far b o e).2.2 (.inl q))).trans (h1.far b o e).1, (h1.far b o e).2.1, (h.far b o e).2.2⟩ }
  · exact (hb.mono (by have := h.low.1; have := h.lt.1; omega)).setCell (by exact h.low.1) v
theorem cell_flat {us : List PV} {k j : Nat} {x : PV} {v : Value} (hk : us[k]? = some x) (hj : (peerCells x)[j]? = some v) : (us.flatMap peerCells)[k * 9 + j]? = some v := by
  have h9 : j < 9 := by have := (List.getElem?_eq_some_iff.1 hj).1; rw [peerCells_len] at this; exact this
  rw [flat_get peerCells 9 peerCells_len us k j x hk h9]
  exact hj
theorem flat_set {us : List PV} {k j : Nat} {x x' : PV} {v : Value} (hk : us[k]? = some x) (hj : j < 9) (hc : peerCells x' = (peerCells x).set j v) : (us.set k x').flatMap peerCells = (us.flatMap peerCells).set (k * 9 + j) v := by
  induction us generalizing k with
  | nil => simp at hk
  | cons y us ih =>
    cases k with
    | zero =>
      simp only [List.getElem?_cons_zero, Option.some.injEq] at hk
      subst hk
      rw [List.set_cons_zero, List.flatMap_cons, List.flatMap_cons, hc, Nat.zero_mul, Nat.zero_add, List.set_append_left _ _ (by rw [peerCells_len]; exact hj)]
    | succ k =>
      rw [List.getElem?_cons_succ] at hk
      rw [List.set_cons_succ, List.flatMap_cons, List.flatMap_cons, ih hk, List.set_append_right _ _ (by rw [peerCells_len, Nat.succ_mul]; omega), peerCells_len]
      congr 2
      rw [Nat.succ_mul]
      omega
theorem Run.peerCell (h : Run T w M base d P pc c us ns nv cs cv) {k j : Nat} {x : PV} {v : Value} (hk : us[k]? = some x) (hj : (peerCells x)[j]? = some v) : w.cell? ⟨P, k * 9 + j, none⟩ = some v ∧ w.frozen? ⟨P, k * 9 + j, none⟩ = false := by
  obtain ⟨cur, h1, h2, h3⟩ := h.row
  have hf := cell_flat hk hj
  rw [← h3] at hf
  have hl := (List.getElem?_eq_some_iff.1 hf).1
  rw [List.length_take] at hl
  rw [List.getElem?_take_of_lt (by omega)] at hf
  refine ⟨?_, by simp [World.frozen?, h1]⟩
  simp only [World.cell?, h1]
  simpa using hf
theorem Run.setPeer (h : Run T w M base d P pc c us ns nv cs cv) {k j : Nat} {x x' : PV} {v : Value} (hk : us[k]? = some x) (hj : j < 9) (hc : peerCells x' = (peerCells x).set j v)
    (hlog : RecsM M x'.lv x'.p.log) (hv : w.ownsRow base 4 1 x'.vv x'.p.votes.length (x'.p.votes.map Value.bool)) (hn : w.ownsRow base 3 1 x'.nv x'.p.next.length (x'.p.next.map fun (n : Nat) => Value.int .i64 (n : Int)))
    (hm : w.ownsRow base 3 1 x'.mv x'.p.mat.length (x'.p.mat.map fun (n : Nat) => Value.int .i64 (n : Int)))
    (hrow : ∀ (i : Nat) (u : Value) (b : Nat), (rows x')[i]? = some u → u.ownBlock = some b → (rows x)[i]? = some u ∨ (¬ Mine d P us cv b ∧ (M b = none ∧ T.far b = none) ∧ ∀ (i' : Nat) (u' : Value), (rows x')[i']? = some u' → u'.ownBlock = some b → i = i')) :
    Run T (w.setCell ⟨P, k * 9 + j, none⟩ v) M base d P pc { c with peers := c.peers.set k x'.p } (us.set k x') ns nv cs cv := by
  have hlt : k < us.length := (List.getElem?_eq_some_iff.1 hk).1
  have hxm : x ∈ us := List.mem_iff_getElem?.2 ⟨k, hk⟩
  have hne : ∀ b, b ≠ P → (w.setCell ⟨P, k * 9 + j, none⟩ v).heap[b]? = w.heap[b]? := fun b hb => Below.heap_setCell w ⟨P, k * 9 + j, none⟩ v b hb
  have hat : ∀ k1 y, (us.set k x')[k1]? = some y → (k1 = k ∧ y = x') ∨ (k1 ≠ k ∧ us[k1]? = some y) := fun k1 y hy => by
    by_cases e : k1 = k
    · subst e
      rw [List.getElem?_set_self hlt] at hy
      exact .inl ⟨rfl, (Option.some.inj hy).symm⟩
    · rw [List.getElem?_set_ne (Ne.symm e)] at hy
      exact .inr ⟨e, hy⟩
  have hrows : ∀ b, IsRow (us.set k x') b → IsRow us b ∨ (¬ Mine d P us cv b ∧ (M b = none ∧ T.far b = none)) := fun b ⟨k1, y, i, u, h1, h2, h3⟩ => by
    rcases hat k1 y h1 with ⟨rfl, rfl⟩ | ⟨_, h1⟩
    · rcases hrow i u b h2 h3 with h4 | ⟨h4, h5, _⟩
      · exact .inl ⟨k1, x, i, u, hk, h4, h3⟩
      · exact .inr ⟨h4, h5⟩
    · exact .inl ⟨k1, y, i, u, h1, h2, h3⟩
  have hmine : ∀ b, Mine d P (us.set k x') cv b → M b = none := fun b hb => by
    rcases hb with hb | hb | hb | hb
    · exact h.free b (.inl hb)
    · exact h.free b (.inr (.inl hb))
    · rcases hrows b hb with h1 | h1
      · exact h.free b (.inr (.inr (.inl h1)))
      · exact h1.2.1
    · exact h.free b (.inr (.inr (.inr hb)))
  have hPr : ∀ b, IsRow (us.set k x') b → b ≠ P := fun b hb e => by
    rcases hrows b hb with h1 | h1
    · exact h.apart.2.2.1 (e ▸ h1)
    · exact h1.1 (.inr (.inl e))
  have hmem : ∀ y, y ∈ us.set k x' → (y = x' ∨ y ∈ us) := fun y hy => by
    rcases List.mem_or_eq_of_mem_set hy with h1 | h1
    · exact .inr h1
    · exact .inl h1
  exact {
    inn := h.inn.set (h.free P (.inr (.inl rfl))) v
    blk := by rw [hne d h.apart.1, List.length_set]; exact h.blk
    row := by
      obtain ⟨cur, q1, q2, q3⟩ := h.row
      refine ⟨cur.setIfInBounds (k * 9 + j) v, heap_setCell_same w P (k * 9 + j) cur T.peer v q1, by simpa using q2, ?_⟩
      rw [List.length_set, flat_set hk hj hc, ← q3, Array.toList_setIfInBounds, List.take_set]
    cap := by rw [List.length_set]; exact h.cap
    peers := by rw [List.map_set, h.peers]
    logs := fun y hy => by
      rcases hmem y hy with rfl | hy
      · exact hlog
      · exact h.logs y hy
    votes := fun y hy => by
      refine row_kept (w := w) ?_ fun g hg => hne g (hPr g (mem_blocks hy (by simp [rows]) hg))
      rcases hmem y hy with rfl | hy
      · exact hv
      · exact h.votes y hy
    next := fun y hy => by
      refine row_kept (w := w) ?_ fun g hg => hne g (hPr g (mem_blocks hy (by simp [rows]) hg))
      rcases hmem y hy with rfl | hy
      · exact hn
      · exact h.next y hy
    mat := fun y hy => by
      refine row_kept (w := w) ?_ fun g hg => hne g (hPr g (mem_blocks hy (by simp [rows]) hg))
      rcases hmem y hy with rfl | hy
      · exact hm
      · exact h.mat y hy
    lone := fun k1 k2 y1 y2 i1 i2 u1 u2 b g1 g2 g3 g4 g5 g6 => by
      rcases hat k1 y1 g1 with ⟨rfl, rfl⟩ | ⟨n1, g1'⟩
      · rcases hat k2 y2 g2 with ⟨rfl, rfl⟩ | ⟨n2, g2'⟩
        · refine ⟨rfl, ?_⟩
          rcases hrow i1 u1 b g3 g5 with e1 | ⟨_, _, e1⟩
          · rcases hrow i2 u2 b g4 g6 with e2 | ⟨_, _, e2⟩
            · exact (h.lone k2 k2 x x i1 i2 u1 u2 b hk hk e1 e2 g5 g6).2
            · exact (e2 i1 u1 g3 g5).symm
          · exact e1 i2 u2 g4 g6
        · rcases hrow i1 u1 b g3 g5 with e1 | ⟨e1, _⟩
          · exact h.lone k1 k2 x y2 i1 i2 u1 u2 b hk g2' e1 g4 g5 g6
          · exact absurd (.inr (.inr (.inl ⟨k2, y2, i2, u2, g2', g4, g6⟩))) e1
      · rcases hat k2 y2 g2 with ⟨rfl, rfl⟩ | ⟨n2, g2'⟩
        · rcases hrow i2 u2 b g4 g6 with e1 | ⟨e1, _⟩
          · exact h.lone k1 k2 y1 x i1 i2 u1 u2 b g1' hk g3 e1 g5 g6
          · exact absurd (.inr (.inr (.inl ⟨k1, y1, i1, u1, g1', g3, g5⟩))) e1
        · exact h.lone k1 k2 y1 y2 i1 i2 u1 u2 b g1' g2' g3 g4 g5 g6
    free := hmine
    net := h.net
    nets := h.nets
    chos := row_kept h.chos fun g hg => hne g (fun e => h.apart.2.2.2.2.1 (e ▸ hg))
    chosen := h.chosen
    data := h.data
    low := h.low
    apart := ⟨h.apart.1, fun e => by
        rcases hrows d e with h1 | h1
        · exact h.apart.2.1 h1
        · exact h1.1 (.inl rfl), fun e => hPr P e rfl, h.apart.2.2.2.1, h.apart.2.2.2.2.1, fun b hb e => by
        rcases hrows b hb with h1 | h1
        · exact h.apart.2.2.2.2.2 b h1 e
        · exact h1.1 (.inr (.inr (.inr e)))⟩
    far := fun b o e => ⟨(hne b (fun q => (h.far b o e).2.2 (.inr (.inl q)))).trans (h.far b o e).1, (h.far b o e).2.1, fun hm => by
      rcases hm with hm | hm | hm | hm
      · exact (h.far b o e).2.2 (.inl hm)
      · exact (h.far b o e).2.2 (.inr (.inl hm))
      · rcases hrows b hm with g | g
        · exact (h.far b o e).2.2 (.inr (.inr (.inl g)))
        · rw [g.2.2] at e; cases e
      · exact (h.far b o e).2.2 (.inr (.inr (.inr hm)))⟩ }
end
end Go.Proofs.Ytklkglbimjajnaa.srun
