/- What is found first. -/
import Derived.Test.YtfpeajbfimodfaaGreatDoorSea
namespace Go.Proofs.YtfpeajbfimodfaaGreatDoor.fnd
open Go.ChangeShapes Go.WideShapes Go.ChangeAt Go.RowKit
open Go.Proofs.YtfpeajbfimodfaaGreatDoor.bytes Go.Proofs.YtfpeajbfimodfaaGreatDoor.letters Go.Proofs.YtfpeajbfimodfaaGreatDoor.read Go.Proofs.YtfpeajbfimodfaaGreatDoor.places Go.Proofs.YtfpeajbfimodfaaGreatDoor.sets Go.Proofs.YtfpeajbfimodfaaGreatDoor.lastp Go.Proofs.YtfpeajbfimodfaaGreatDoor.leaf Go.Proofs.YtfpeajbfimodfaaGreatDoor.tz Go.Proofs.YtfpeajbfimodfaaGreatDoor.net Go.Proofs.YtfpeajbfimodfaaGreatDoor.ci Go.Proofs.YtfpeajbfimodfaaGreatDoor.rests Go.Proofs.YtfpeajbfimodfaaGreatDoor.part
set_option linter.unusedVariables false

theorem restE_val (ts : List Int) : ∀ (ys : List Int) (p : Nat), p ≤ ts.length → restE ts ys p = 0 ∨ (p + ys.length ≤ ts.length ∧ restE ts ys p = 2 ^ (p + ys.length))
  | [], p, h => .inr ⟨by simpa using h, rfl⟩
  | y :: ys, p, h => by
    unfold restE
    by_cases c : p < ts.length ∧ ts.getD p 0 = y
    · rw [if_pos c]
      rcases restE_val ts ys (p + 1) c.1 with h | ⟨h1, h2⟩
      · exact .inl h
      · refine .inr ⟨by simp; omega, ?_⟩
        rw [h2]
        congr 1
        simp
        omega
    · rw [if_neg c]
      exact .inl rfl
/-- A call within another: local blocks stay. -/
theorem St.call {g : Gr} (hg : Geo g) {k f : Nat} {args : Array Value} {Post : Ending → Prop} {R0 : Rws} {w : World} {hi : Nat} (hN : Net g R0 w) (W : World) (hS : St g k R0 w hi W) (hC : ∀ R, Net g R W → Calls Tryz.prog f args W fun e w' => Post e ∧ St g k R W W.heap.size w') :
    Calls Tryz.prog f args W fun e w' => Post e ∧ St g k R0 w hi w' ∧ ∀ b, w.heap.size ≤ b → b < hi → w'.heap[b]? = W.heap[b]? := by
  obtain ⟨R, hn, hv⟩ := hS
  refine (hC R hn).mono ?_
  rintro e w' ⟨he, R2, hn2, hv2⟩
  exact ⟨he, ⟨R2, hn2, hv.trans hg hN (Nat.le_refl k) hv2⟩, fun b h1 h2 => hv2.same b (by have := hv.size; omega) (hN.far hg hv h1 h2 _)⟩
structure FL (g : Gr) (R : Rws) (w : World) (S : ByteArray) (v : Value) (W : World) : Prop where
  st : St g 0 R w (w.heap.size + 1) W
  box : W.heap[w.heap.size]? = some (.cells #[.string S, .int .i64 0, v, .func (.func 61) #[] #[.pointer (some ⟨g.kB, 0, none⟩), .pointer (some ⟨g.rB, 0, none⟩)]] 54 (0, 0))
theorem FL.below {g : Gr} (hg : Geo g) {R : Rws} {w W W' : World} {S : ByteArray} {v : Value} (hN : Net g R w) (h : FL g R w S v W) (hb : Below W.heap.size W W') : FL g R w S v W' := by
  have := h.st.hi
  exact ⟨h.st.below hg hN hb, (hb.block _ (by omega)).trans h.box⟩
theorem FL.use {g : Gr} (hg : Geo g) {f X : Nat} {args : Array Value} (h : Asks g 0 f args X) {R : Rws} {w : World} {S : ByteArray} {v : Value} (hN : Net g R w) (W : World) (hS : FL g R w S v W) :
    Calls Tryz.prog f args W fun e w' => e = .returned (psV X) ∧ FL g R w S v w' := by
  refine (h.use hg (Nat.le_refl 0) hN W hS.st).mono ?_
  rintro r w' ⟨h1, h2, h3, h4⟩
  exact ⟨h1, h2, (h3 _ (by omega) (by omega)).trans hS.box⟩

set_option maxRecDepth 20000 in
set_option maxHeartbeats 4000000 in
theorem find83 (g : Gr) (hg : Geo g) (R : Rws) (w : World) (hN : Net g R w) (p0 p1 : Nat) (hA : ∀ p, p ≤ g.ts.length → Asks g 0 83 #[.int .i64 (p : Nat), .pointer (some ⟨p0, 0, none⟩), .pointer (some ⟨p1, 0, none⟩)] (restE g.ts g.ys p)) (f0 : Nat) (hf0 : f0 ≤ g.ts.length) (hex : restE g.ts g.ys f0 ≠ 0) :
    Calls Tryz.prog 16 #[.agg #[.string (strOfNums g.ts), .int .i64 0, .func (.func 83) #[] #[.pointer (some ⟨p0, 0, none⟩), .pointer (some ⟨p1, 0, none⟩)], .func (.func 61) #[] #[.pointer (some ⟨g.kB, 0, none⟩), .pointer (some ⟨g.rB, 0, none⟩)]], .int .i64 0] w fun e w' => ∃ f b : Nat, f + g.ys.length ≤ g.ts.length ∧ restE g.ts g.ys f ≠ 0 ∧ (∀ i, i < f → restE g.ts g.ys i = 0) ∧ e = .returned (.slice (some ⟨b, 0, none⟩) 2 2) ∧ w'.cell? ⟨b, 0, none⟩ = some (.int .i64 (f : Nat)) ∧ w'.cell? ⟨b, 1, none⟩ = some (.int .i64 ((f + g.ys.length : Nat) : Int)) ∧ w.heap.size ≤ b ∧ St g 0 R w w.heap.size w' := by
  have hlen := hg.len
  have hs : (strOfNums g.ts).size = g.ts.length := strOfNums_size _
  obtain ⟨S, hS⟩ : ∃ S, S = strOfNums g.ts := ⟨_, rfl⟩
  rw [← hS] at hs ⊢
  clear hS
  obtain ⟨W1, hW1⟩ : ∃ W1, W1 = w.alloc (.cells #[.string S, .int .i64 0, .func (.func 83) #[] #[.pointer (some ⟨p0, 0, none⟩), .pointer (some ⟨p1, 0, none⟩)], .func (.func 61) #[] #[.pointer (some ⟨g.kB, 0, none⟩), .pointer (some ⟨g.rB, 0, none⟩)]] 54) := ⟨_, rfl⟩
  have HS : Hid (FL g R w S (.func (.func 83) #[] #[.pointer (some ⟨p0, 0, none⟩), .pointer (some ⟨p1, 0, none⟩)]) W1) := by
    rw [hW1]
    have h := hN.st hg 0 ((Below.refl w.heap.size w).alloc (Nat.le_refl _) (.cells #[.string S, .int .i64 0, .func (.func 83) #[] #[.pointer (some ⟨p0, 0, none⟩), .pointer (some ⟨p1, 0, none⟩)], .func (.func 61) #[] #[.pointer (some ⟨g.kB, 0, none⟩), .pointer (some ⟨g.rB, 0, none⟩)]] 54))
    rw [show (w.alloc (.cells #[.string S, .int .i64 0, .func (.func 83) #[] #[.pointer (some ⟨p0, 0, none⟩), .pointer (some ⟨p1, 0, none⟩)], .func (.func 61) #[] #[.pointer (some ⟨g.kB, 0, none⟩), .pointer (some ⟨g.rB, 0, none⟩)]] 54)).heap.size = w.heap.size + 1 by simp] at h
    exact hide ⟨h, heap_alloc_new w _⟩
  have HF : Hid (∀ W, FL g R w S (.func (.func 83) #[] #[.pointer (some ⟨p0, 0, none⟩), .pointer (some ⟨p1, 0, none⟩)]) W → W.cell? ⟨w.heap.size, 0, none⟩ = some (.string S) ∧ W.cell? ⟨w.heap.size, 1, none⟩ = some (.int .i64 0) ∧ W.cell? ⟨w.heap.size, 2, none⟩ = some (.func (.func 83) #[] #[.pointer (some ⟨p0, 0, none⟩), .pointer (some ⟨p1, 0, none⟩)]) ∧ W.cell? ⟨w.heap.size, 3, none⟩ = some (.func (.func 61) #[] #[.pointer (some ⟨g.kB, 0, none⟩), .pointer (some ⟨g.rB, 0, none⟩)])) := hide (fun W h => ⟨by rw [cell_one h.box]; rfl, by rw [cell_one h.box]; rfl, by rw [cell_one h.box]; rfl, by rw [cell_one h.box]; rfl⟩)
  go_enter Tryz.func16, Tryz.ntmps16
  go_wp2
  rw [← hW1]
  clear hW1
  go_loopw [1, 5, 6] (fun v1 _ _ wr => ∃ f : Nat, v1 = .int .i64 f ∧ f ≤ f0 ∧ (∀ i, i < f → restE g.ts g.ys i = 0) ∧ Hid (FL g R w S (.func (.func 83) #[] #[.pointer (some ⟨p0, 0, none⟩), .pointer (some ⟨p1, 0, none⟩)]) wr)) (fun v1 _ _ _ => f0 + 1 - (intOf v1).toNat)
  case atStart => exact ⟨0, rfl, by omega, fun i hi => by omega, HS⟩
  case round =>
    obtain ⟨f, rfl, hf, hno, HX⟩ := hrel
    clear HS
    obtain ⟨W0, hW0⟩ : ∃ W, W = wr := ⟨_, rfl⟩
    subst hW0
    obtain ⟨c0, c1, c2, c3⟩ := HF.out _ HX.out
    have hfl : (f : Int) ≤ (g.ts.length : Int) := by omega
    have HA : Hid (∀ W, FL g R w S (.func (.func 83) #[] #[.pointer (some ⟨p0, 0, none⟩), .pointer (some ⟨p1, 0, none⟩)]) W → Calls Tryz.prog 83 #[.int .i64 (f : Nat), .pointer (some ⟨p0, 0, none⟩), .pointer (some ⟨p1, 0, none⟩)] W fun e w' => e = .returned (psV (restE g.ts g.ys f)) ∧ FL g R w S (.func (.func 83) #[] #[.pointer (some ⟨p0, 0, none⟩), .pointer (some ⟨p1, 0, none⟩)]) w') := hide (fun W h => FL.use hg (hA f (by omega)) hN W h)
    have h0 := HX.out
    rcases restE_val g.ts g.ys f (by omega) with hz | ⟨hle, hz⟩
    · rw [hz] at HA
      have HLa : Hid (∀ W, FL g R w S (.func (.func 83) #[] #[.pointer (some ⟨p0, 0, none⟩), .pointer (some ⟨p1, 0, none⟩)]) W → Calls Tryz.prog 28 #[psV 0] W fun r w' => r = .returned (.int .i64 (-1)) ∧ FL g R w S (.func (.func 83) #[] #[.pointer (some ⟨p0, 0, none⟩), .pointer (some ⟨p1, 0, none⟩)]) w') := hide (fun W h => (last_none W).mono (by rintro r w' ⟨h1, h2⟩; exact ⟨h1, h.below hg hN h2⟩))
      have hff : f ≠ f0 := fun e => hex (by rw [← e]; exact hz)
      clear hex hA
      unfold psV at HA HLa
      have HNo := hide hno
      clear hno
      go_wp2_with (first | (go_at_call 83; refine (HA.out _ h0).mono ?_; rintro e w1 ⟨rfl, h1⟩) | (go_at_call 28; refine (HLa.out _ h1).mono ?_; rintro e w2 ⟨rfl, h2⟩))
      go_roundw
      case rel =>
        refine ⟨f + 1, by go_num, by omega, fun i hi => ?_, hide h2⟩
        by_cases e : i = f
        · rw [e]; exact hz
        · exact HNo.out i (by omega)
      case measure => simp [intOf]; omega
    · rw [hz] at HA
      obtain ⟨to_, hto⟩ : ∃ t, t = f + g.ys.length := ⟨_, rfl⟩
      rw [← hto] at HA hz hle
      have HLa : Hid (∀ W, FL g R w S (.func (.func 83) #[] #[.pointer (some ⟨p0, 0, none⟩), .pointer (some ⟨p1, 0, none⟩)]) W → Calls Tryz.prog 28 #[psV (2 ^ to_)] W fun r w' => r = .returned (.int .i64 (to_ : Int)) ∧ FL g R w S (.func (.func 83) #[] #[.pointer (some ⟨p0, 0, none⟩), .pointer (some ⟨p1, 0, none⟩)]) w') := hide (fun W h => (last_one W to_ (by omega)).mono (by rintro r w' ⟨h1, h2⟩; exact ⟨h1, h.below hg hN h2⟩))
      have hne : restE g.ts g.ys f ≠ 0 := by
        rw [hz]
        exact Nat.ne_of_gt (Nat.pow_pos (by decide))
      have HPt : Hid (∀ W, FL g R w S (.func (.func 83) #[] #[.pointer (some ⟨p0, 0, none⟩), .pointer (some ⟨p1, 0, none⟩)]) W → Calls Tryz.prog 61 #[.int .i64 (f : Nat), .int .i64 (to_ : Nat), .slice (some ⟨W.heap.size, 0, none⟩) 2 2, .pointer (some ⟨g.kB, 0, none⟩), .pointer (some ⟨g.rB, 0, none⟩)] (W.alloc (.cells #[.int .i64 (f : Nat), .int .i64 (to_ : Nat)] 3)) fun e w' => e = .returned (.tuple #[]) ∧ w'.cell? ⟨W.heap.size, 0, none⟩ = some (.int .i64 (f : Nat)) ∧ w'.cell? ⟨W.heap.size, 1, none⟩ = some (.int .i64 (to_ : Nat)) ∧ w.heap.size ≤ W.heap.size ∧ St g 0 R w w.heap.size w') := by
        refine hide (fun W h => ?_)
        obtain ⟨R4, hn4, hv4⟩ := h.st
        have hb5 := (Below.refl W.heap.size W).alloc (Nat.le_refl _) (.cells #[.int .i64 (f : Nat), .int .i64 (to_ : Nat)] 3)
        have hS5 := hn4.st hg 0 hb5
        refine (St.call hg hn4 _ hS5 (fun R5 hn5 => part_any g hg R5 _ hn5 f to_ (by omega) hle (some ⟨W.heap.size, 0, none⟩) 2 2)).mono ?_
        rintro e w' ⟨h1, h2, h3⟩
        have h4 := (h3 W.heap.size (Nat.le_refl _) (by simp)).trans (heap_alloc_new W _)
        obtain ⟨R6, hn6, hv6⟩ := h2
        have hh := h.st.hi
        refine ⟨h1, by rw [cell_one h4]; rfl, by rw [cell_one h4]; rfl, by omega, St.out (hi := w.heap.size + 1) ⟨R6, hn6, hv4.trans hg hN (Nat.le_refl 0) hv6⟩⟩
      generalize 2 ^ to_ = b at HA HLa
      unfold psV at HA HLa
      have HNo := hide (And.intro hno (And.intro hne (And.intro hle (And.intro hto hz))))
      clear hno hne hz hto hle hex hA hN
      go_wp2_with (first | (go_at_call 83; refine (HA.out _ h0).mono ?_; rintro e w1 ⟨rfl, h1⟩) | (go_at_call 28; refine (HLa.out _ h1).mono ?_; rintro e w2 ⟨rfl, h2⟩; obtain ⟨d0, d1, d2, d3⟩ := HF.out _ h2; have hlt := cell_lt d1; have e1 : ∀ o, (w2.alloc o).cell? ⟨w.heap.size, 1, none⟩ = some (.int .i64 0) := (fun o => (World.cell?_of_block (a := ⟨w.heap.size, 1, none⟩) (Below.heap_alloc _ _ _ hlt)).trans d1); have e3 : ∀ o, (w2.alloc o).cell? ⟨w.heap.size, 3, none⟩ = some (.func (.func 61) #[] #[.pointer (some ⟨g.kB, 0, none⟩), .pointer (some ⟨g.rB, 0, none⟩)]) := (fun o => (World.cell?_of_block (a := ⟨w.heap.size, 3, none⟩) (Below.heap_alloc _ _ _ hlt)).trans d3); have HP2 := hide (HPt.out _ h2)))
      have m1 := e1 (.cells #[.int .i64 (f : Nat), .int .i64 (to_ : Nat)] 3)
      have m3 := e3 (.cells #[.int .i64 (f : Nat), .int .i64 (to_ : Nat)] 3)
      clear e1 e3 d0 d1 d2 d3 HPt HA HLa h0 h1 h2 HX c0 c1 c2 c3
      generalize w2.alloc (.cells #[.int .i64 (f : Nat), .int .i64 (to_ : Nat)] 3) = w3 at HP2 m1 m3 ⊢
      go_loopw [6, 27] (fun v6 iv wr => v6 = .slice (some ⟨w2.heap.size, 0, none⟩) 2 2 ∧ iv = .int .i64 0 ∧ wr = w3) (fun _ _ _ => 0)
      case atStart => exact ⟨rfl, rfl, rfl⟩
      case round =>
        obtain ⟨rfl, rfl, rfl⟩ := hrel
        go_wp2_with (go_at_call 61; refine HP2.out.mono ?_; rintro e w6 ⟨rfl, k1, k2, k3, k4⟩; have H6 := hide (And.intro k1 (And.intro k2 (And.intro k3 k4))); clear k1 k2 k3 k4)
        go_ret
        refine ⟨f, w2.heap.size, by have := HNo.out.2.2.1; have := HNo.out.2.2.2.1; omega, HNo.out.2.1, HNo.out.1, rfl, H6.out.1, ?_, H6.out.2.2.1, H6.out.2.2.2⟩
        rw [← HNo.out.2.2.2.1]
        exact H6.out.2.1

set_option maxRecDepth 20000 in
set_option maxHeartbeats 4000000 in
theorem find78 (g : Gr) (hg : Geo g) (R : Rws) (w : World) (hN : Net g R w) (p0 p1 p2 p3 : Nat) (hA : ∀ p, p ≤ g.ts.length → Asks g 0 78 #[.int .i64 (p : Nat), .pointer (some ⟨p0, 0, none⟩), .pointer (some ⟨p1, 0, none⟩), .pointer (some ⟨p2, 0, none⟩), .pointer (some ⟨p3, 0, none⟩)] (restE g.ts g.ys p)) (f0 : Nat) (hf0 : f0 ≤ g.ts.length) (hex : restE g.ts g.ys f0 ≠ 0) :
    Calls Tryz.prog 16 #[.agg #[.string (strOfNums g.ts), .int .i64 0, .func (.func 78) #[] #[.pointer (some ⟨p0, 0, none⟩), .pointer (some ⟨p1, 0, none⟩), .pointer (some ⟨p2, 0, none⟩), .pointer (some ⟨p3, 0, none⟩)], .func (.func 61) #[] #[.pointer (some ⟨g.kB, 0, none⟩), .pointer (some ⟨g.rB, 0, none⟩)]], .int .i64 0] w fun e w' => ∃ f b : Nat, f + g.ys.length ≤ g.ts.length ∧ restE g.ts g.ys f ≠ 0 ∧ (∀ i, i < f → restE g.ts g.ys i = 0) ∧ e = .returned (.slice (some ⟨b, 0, none⟩) 2 2) ∧ w'.cell? ⟨b, 0, none⟩ = some (.int .i64 (f : Nat)) ∧ w'.cell? ⟨b, 1, none⟩ = some (.int .i64 ((f + g.ys.length : Nat) : Int)) ∧ w.heap.size ≤ b ∧ St g 0 R w w.heap.size w' := by
  have hlen := hg.len
  have hs : (strOfNums g.ts).size = g.ts.length := strOfNums_size _
  obtain ⟨S, hS⟩ : ∃ S, S = strOfNums g.ts := ⟨_, rfl⟩
  rw [← hS] at hs ⊢
  clear hS
  obtain ⟨W1, hW1⟩ : ∃ W1, W1 = w.alloc (.cells #[.string S, .int .i64 0, .func (.func 78) #[] #[.pointer (some ⟨p0, 0, none⟩), .pointer (some ⟨p1, 0, none⟩), .pointer (some ⟨p2, 0, none⟩), .pointer (some ⟨p3, 0, none⟩)], .func (.func 61) #[] #[.pointer (some ⟨g.kB, 0, none⟩), .pointer (some ⟨g.rB, 0, none⟩)]] 54) := ⟨_, rfl⟩
  have HS : Hid (FL g R w S (.func (.func 78) #[] #[.pointer (some ⟨p0, 0, none⟩), .pointer (some ⟨p1, 0, none⟩), .pointer (some ⟨p2, 0, none⟩), .pointer (some ⟨p3, 0, none⟩)]) W1) := by
    rw [hW1]
    have h := hN.st hg 0 ((Below.refl w.heap.size w).alloc (Nat.le_refl _) (.cells #[.string S, .int .i64 0, .func (.func 78) #[] #[.pointer (some ⟨p0, 0, none⟩), .pointer (some ⟨p1, 0, none⟩), .pointer (some ⟨p2, 0, none⟩), .pointer (some ⟨p3, 0, none⟩)], .func (.func 61) #[] #[.pointer (some ⟨g.kB, 0, none⟩), .pointer (some ⟨g.rB, 0, none⟩)]] 54))
    rw [show (w.alloc (.cells #[.string S, .int .i64 0, .func (.func 78) #[] #[.pointer (some ⟨p0, 0, none⟩), .pointer (some ⟨p1, 0, none⟩), .pointer (some ⟨p2, 0, none⟩), .pointer (some ⟨p3, 0, none⟩)], .func (.func 61) #[] #[.pointer (some ⟨g.kB, 0, none⟩), .pointer (some ⟨g.rB, 0, none⟩)]] 54)).heap.size = w.heap.size + 1 by simp] at h
    exact hide ⟨h, heap_alloc_new w _⟩
  have HF : Hid (∀ W, FL g R w S (.func (.func 78) #[] #[.pointer (some ⟨p0, 0, none⟩), .pointer (some ⟨p1, 0, none⟩), .pointer (some ⟨p2, 0, none⟩), .pointer (some ⟨p3, 0, none⟩)]) W → W.cell? ⟨w.heap.size, 0, none⟩ = some (.string S) ∧ W.cell? ⟨w.heap.size, 1, none⟩ = some (.int .i64 0) ∧ W.cell? ⟨w.heap.size, 2, none⟩ = some (.func (.func 78) #[] #[.pointer (some ⟨p0, 0, none⟩), .pointer (some ⟨p1, 0, none⟩), .pointer (some ⟨p2, 0, none⟩), .pointer (some ⟨p3, 0, none⟩)]) ∧ W.cell? ⟨w.heap.size, 3, none⟩ = some (.func (.func 61) #[] #[.pointer (some ⟨g.kB, 0, none⟩), .pointer (some ⟨g.rB, 0, none⟩)])) := hide (fun W h => ⟨by rw [cell_one h.box]; rfl, by rw [cell_one h.box]; rfl, by rw [cell_one h.box]; rfl, by rw [cell_one h.box]; rfl⟩)
  go_enter Tryz.func16, Tryz.ntmps16
  go_wp2
  rw [← hW1]
  clear hW1
  go_loopw [1, 5, 6] (fun v1 _ _ wr => ∃ f : Nat, v1 = .int .i64 f ∧ f ≤ f0 ∧ (∀ i, i < f → restE g.ts g.ys i = 0) ∧ Hid (FL g R w S (.func (.func 78) #[] #[.pointer (some ⟨p0, 0, none⟩), .pointer (some ⟨p1, 0, none⟩), .pointer (some ⟨p2, 0, none⟩), .pointer (some ⟨p3, 0, none⟩)]) wr)) (fun v1 _ _ _ => f0 + 1 - (intOf v1).toNat)
  case atStart => exact ⟨0, rfl, by omega, fun i hi => by omega, HS⟩
  case round =>
    obtain ⟨f, rfl, hf, hno, HX⟩ := hrel
    clear HS
    obtain ⟨W0, hW0⟩ : ∃ W, W = wr := ⟨_, rfl⟩
    subst hW0
    obtain ⟨c0, c1, c2, c3⟩ := HF.out _ HX.out
    have hfl : (f : Int) ≤ (g.ts.length : Int) := by omega
    have HA : Hid (∀ W, FL g R w S (.func (.func 78) #[] #[.pointer (some ⟨p0, 0, none⟩), .pointer (some ⟨p1, 0, none⟩), .pointer (some ⟨p2, 0, none⟩), .pointer (some ⟨p3, 0, none⟩)]) W → Calls Tryz.prog 78 #[.int .i64 (f : Nat), .pointer (some ⟨p0, 0, none⟩), .pointer (some ⟨p1, 0, none⟩), .pointer (some ⟨p2, 0, none⟩), .pointer (some ⟨p3, 0, none⟩)] W fun e w' => e = .returned (psV (restE g.ts g.ys f)) ∧ FL g R w S (.func (.func 78) #[] #[.pointer (some ⟨p0, 0, none⟩), .pointer (some ⟨p1, 0, none⟩), .pointer (some ⟨p2, 0, none⟩), .pointer (some ⟨p3, 0, none⟩)]) w') := hide (fun W h => FL.use hg (hA f (by omega)) hN W h)
    have h0 := HX.out
    rcases restE_val g.ts g.ys f (by omega) with hz | ⟨hle, hz⟩
    · rw [hz] at HA
      have HLa : Hid (∀ W, FL g R w S (.func (.func 78) #[] #[.pointer (some ⟨p0, 0, none⟩), .pointer (some ⟨p1, 0, none⟩), .pointer (some ⟨p2, 0, none⟩), .pointer (some ⟨p3, 0, none⟩)]) W → Calls Tryz.prog 28 #[psV 0] W fun r w' => r = .returned (.int .i64 (-1)) ∧ FL g R w S (.func (.func 78) #[] #[.pointer (some ⟨p0, 0, none⟩), .pointer (some ⟨p1, 0, none⟩), .pointer (some ⟨p2, 0, none⟩), .pointer (some ⟨p3, 0, none⟩)]) w') := hide (fun W h => (last_none W).mono (by rintro r w' ⟨h1, h2⟩; exact ⟨h1, h.below hg hN h2⟩))
      have hff : f ≠ f0 := fun e => hex (by rw [← e]; exact hz)
      clear hex hA
      unfold psV at HA HLa
      have HNo := hide hno
      clear hno
      go_wp2_with (first | (go_at_call 78; refine (HA.out _ h0).mono ?_; rintro e w1 ⟨rfl, h1⟩) | (go_at_call 28; refine (HLa.out _ h1).mono ?_; rintro e w2 ⟨rfl, h2⟩))
      go_roundw
      case rel =>
        refine ⟨f + 1, by go_num, by omega, fun i hi => ?_, hide h2⟩
        by_cases e : i = f
        · rw [e]; exact hz
        · exact HNo.out i (by omega)
      case measure => simp [intOf]; omega
    · rw [hz] at HA
      obtain ⟨to_, hto⟩ : ∃ t, t = f + g.ys.length := ⟨_, rfl⟩
      rw [← hto] at HA hz hle
      have HLa : Hid (∀ W, FL g R w S (.func (.func 78) #[] #[.pointer (some ⟨p0, 0, none⟩), .pointer (some ⟨p1, 0, none⟩), .pointer (some ⟨p2, 0, none⟩), .pointer (some ⟨p3, 0, none⟩)]) W → Calls Tryz.prog 28 #[psV (2 ^ to_)] W fun r w' => r = .returned (.int .i64 (to_ : Int)) ∧ FL g R w S (.func (.func 78) #[] #[.pointer (some ⟨p0, 0, none⟩), .pointer (some ⟨p1, 0, none⟩), .pointer (some ⟨p2, 0, none⟩), .pointer (some ⟨p3, 0, none⟩)]) w') := hide (fun W h => (last_one W to_ (by omega)).mono (by rintro r w' ⟨h1, h2⟩; exact ⟨h1, h.below hg hN h2⟩))
      have hne : restE g.ts g.ys f ≠ 0 := by
        rw [hz]
        exact Nat.ne_of_gt (Nat.pow_pos (by decide))
      have HPt : Hid (∀ W, FL g R w S (.func (.func 78) #[] #[.pointer (some ⟨p0, 0, none⟩), .pointer (some ⟨p1, 0, none⟩), .pointer (some ⟨p2, 0, none⟩), .pointer (some ⟨p3, 0, none⟩)]) W → Calls Tryz.prog 61 #[.int .i64 (f : Nat), .int .i64 (to_ : Nat), .slice (some ⟨W.heap.size, 0, none⟩) 2 2, .pointer (some ⟨g.kB, 0, none⟩), .pointer (some ⟨g.rB, 0, none⟩)] (W.alloc (.cells #[.int .i64 (f : Nat), .int .i64 (to_ : Nat)] 3)) fun e w' => e = .returned (.tuple #[]) ∧ w'.cell? ⟨W.heap.size, 0, none⟩ = some (.int .i64 (f : Nat)) ∧ w'.cell? ⟨W.heap.size, 1, none⟩ = some (.int .i64 (to_ : Nat)) ∧ w.heap.size ≤ W.heap.size ∧ St g 0 R w w.heap.size w') := by
        refine hide (fun W h => ?_)
        obtain ⟨R4, hn4, hv4⟩ := h.st
        have hb5 := (Below.refl W.heap.size W).alloc (Nat.le_refl _) (.cells #[.int .i64 (f : Nat), .int .i64 (to_ : Nat)] 3)
        have hS5 := hn4.st hg 0 hb5
        refine (St.call hg hn4 _ hS5 (fun R5 hn5 => part_any g hg R5 _ hn5 f to_ (by omega) hle (some ⟨W.heap.size, 0, none⟩) 2 2)).mono ?_
        rintro e w' ⟨h1, h2, h3⟩
        have h4 := (h3 W.heap.size (Nat.le_refl _) (by simp)).trans (heap_alloc_new W _)
        obtain ⟨R6, hn6, hv6⟩ := h2
        have hh := h.st.hi
        refine ⟨h1, by rw [cell_one h4]; rfl, by rw [cell_one h4]; rfl, by omega, St.out (hi := w.heap.size + 1) ⟨R6, hn6, hv4.trans hg hN (Nat.le_refl 0) hv6⟩⟩
      generalize 2 ^ to_ = b at HA HLa
      unfold psV at HA HLa
      have HNo := hide (And.intro hno (And.intro hne (And.intro hle (And.intro hto hz))))
      clear hno hne hz hto hle hex hA hN
      go_wp2_with (first | (go_at_call 78; refine (HA.out _ h0).mono ?_; rintro e w1 ⟨rfl, h1⟩) | (go_at_call 28; refine (HLa.out _ h1).mono ?_; rintro e w2 ⟨rfl, h2⟩; obtain ⟨d0, d1, d2, d3⟩ := HF.out _ h2; have hlt := cell_lt d1; have e1 : ∀ o, (w2.alloc o).cell? ⟨w.heap.size, 1, none⟩ = some (.int .i64 0) := (fun o => (World.cell?_of_block (a := ⟨w.heap.size, 1, none⟩) (Below.heap_alloc _ _ _ hlt)).trans d1); have e3 : ∀ o, (w2.alloc o).cell? ⟨w.heap.size, 3, none⟩ = some (.func (.func 61) #[] #[.pointer (some ⟨g.kB, 0, none⟩), .pointer (some ⟨g.rB, 0, none⟩)]) := (fun o => (World.cell?_of_block (a := ⟨w.heap.size, 3, none⟩) (Below.heap_alloc _ _ _ hlt)).trans d3); have HP2 := hide (HPt.out _ h2)))
      have m1 := e1 (.cells #[.int .i64 (f : Nat), .int .i64 (to_ : Nat)] 3)
      have m3 := e3 (.cells #[.int .i64 (f : Nat), .int .i64 (to_ : Nat)] 3)
      clear e1 e3 d0 d1 d2 d3 HPt HA HLa h0 h1 h2 HX c0 c1 c2 c3
      generalize w2.alloc (.cells #[.int .i64 (f : Nat), .int .i64 (to_ : Nat)] 3) = w3 at HP2 m1 m3 ⊢
      go_loopw [6, 27] (fun v6 iv wr => v6 = .slice (some ⟨w2.heap.size, 0, none⟩) 2 2 ∧ iv = .int .i64 0 ∧ wr = w3) (fun _ _ _ => 0)
      case atStart => exact ⟨rfl, rfl, rfl⟩
      case round =>
        obtain ⟨rfl, rfl, rfl⟩ := hrel
        go_wp2_with (go_at_call 61; refine HP2.out.mono ?_; rintro e w6 ⟨rfl, k1, k2, k3, k4⟩; have H6 := hide (And.intro k1 (And.intro k2 (And.intro k3 k4))); clear k1 k2 k3 k4)
        go_ret
        refine ⟨f, w2.heap.size, by have := HNo.out.2.2.1; have := HNo.out.2.2.2.1; omega, HNo.out.2.1, HNo.out.1, rfl, H6.out.1, ?_, H6.out.2.2.1, H6.out.2.2.2⟩
        rw [← HNo.out.2.2.2.1]
        exact H6.out.2.1

end Go.Proofs.YtfpeajbfimodfaaGreatDoor.fnd
