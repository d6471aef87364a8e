/- Rows of events that are drawn: calm ones. -/
import Derived.Test.YtklkglbimjajnaaNdw
import Derived.Deep.RegionLaw
import Derived.Test.YtklkglbimjajnaaPile
import Derived.Lib.AppendStr
import Derived.Deep.AppendLies
import Derived.Deep.RegionHeldLaw
import Derived.Test.YtklkglbimjajnaaPostb
import Derived.WalkMore
import Derived.Deep.Cut
import Derived.Test.YtklkglbimjajnaaCrun
/- The source of draws: a byte, a number below another, a chance, a size. -/
namespace Go.Proofs.Ytklkglbimjajnaa.src
open Go.ChangeShapes Go.WideShapes Go.ChangeAt Go.RowKit
open Go.Proofs.Ytklkglbimjajnaa.Raft Go.Proofs.Ytklkglbimjajnaa.mem Go.Proofs.Ytklkglbimjajnaa.grp
set_option linter.unusedVariables false

/-- The source of draws at a block: its code is frozen. -/
structure SS (w : World) (M : Fz) (d : Nat) (ao : Option Addr) (cap : Nat) (xs : List Int) (at_ : Nat) (sd : Int) : Prop where
  blk : w.heap[d]? = some (.cells #[.slice ao xs.length cap, .int .i64 at_, .int .i64 sd] 90 (0, 0))
  data : BytesM M (.slice ao xs.length cap) xs
  inn : In M w
  free : M d = none
  sd0 : 0 ≤ sd
  sd1 : sd < 2147483648
/-- So many were drawn at most. -/
def Src (w : World) (M : Fz) (d q : Nat) : Prop := ∃ ao cap xs at_ sd, SS w M d ao cap xs at_ sd ∧ at_ ≤ q ∧ xs.length ≤ 1000000000
section
variable {w w' : World} {M M' : Fz} {d : Nat} {ao : Option Addr} {cap : Nat} {xs : List Int} {at_ : Nat} {sd : Int}
theorem SS.lt (h : SS w M d ao cap xs at_ sd) : d < w.heap.size := (Array.getElem?_eq_some_iff.1 h.blk).1
theorem SS.c0 (h : SS w M d ao cap xs at_ sd) : w.cell? ⟨d, 0, none⟩ = some (.slice ao xs.length cap) := cell_of h.blk rfl
theorem SS.c1 (h : SS w M d ao cap xs at_ sd) : w.cell? ⟨d, 1, none⟩ = some (.int .i64 at_) := cell_of h.blk rfl
theorem SS.c2 (h : SS w M d ao cap xs at_ sd) : w.cell? ⟨d, 2, none⟩ = some (.int .i64 sd) := cell_of h.blk rfl
theorem SS.fz (h : SS w M d ao cap xs at_ sd) (i : Nat) : w.frozen? ⟨d, i, none⟩ = false := frozen_of h.blk i
theorem SS.below (h : SS w M d ao cap xs at_ sd) (hb : Below w.heap.size w w') : SS w' M d ao cap xs at_ sd := ⟨(hb.block d h.lt).trans h.blk, h.data, h.inn.below hb, h.free, h.sd0, h.sd1⟩
theorem SS.drewN (h : SS w M d ao cap xs at_ sd) (m : Nat) : SS (w.drewN m) M d ao cap xs at_ sd := ⟨h.blk, h.data, h.inn, h.free, h.sd0, h.sd1⟩
theorem SS.set1 (h : SS w M d ao cap xs at_ sd) (n : Nat) : SS (w.setCell ⟨d, 1, none⟩ (.int .i64 n)) M d ao cap xs n sd := ⟨set_at h.blk 1 _ rfl, h.data, h.inn.set h.free _, h.free, h.sd0, h.sd1⟩
theorem SS.set2 (h : SS w M d ao cap xs at_ sd) (s : Int) (h0 : 0 ≤ s) (h1 : s < 2147483648) : SS (w.setCell ⟨d, 2, none⟩ (.int .i64 s)) M d ao cap xs at_ s := ⟨set_at h.blk 2 _ rfl, h.data, h.inn.set h.free _, h.free, h0, h1⟩
end
theorem set_grown (w : World) (d i : Nat) (u : Value) : w.grownBy (w.setCell ⟨d, i, none⟩ u) (some d) := ⟨rfl, rfl, rfl, by simp, fun k _ hk => Below.heap_setCell w ⟨d, i, none⟩ u k (fun e => hk (by simp [e]))⟩
theorem drew_grown (w : World) (n : Nat) (row : Option Nat) : w.grownBy (w.drewN n) row := ⟨rfl, rfl, rfl, Nat.le_refl _, fun _ _ _ => rfl⟩
theorem below_grown {w w' : World} (h : Below w.heap.size w w') (row : Option Nat) : w.grownBy w' row := ⟨h.os, h.tape, h.output, h.size, fun k hk _ => h.block k hk⟩
theorem grown_trans {a b c : World} {row : Option Nat} (h : a.grownBy b row) (g : b.grownBy c row) : a.grownBy c row := ⟨g.os.trans h.os, g.tape.trans h.tape, g.output.trans h.output, Nat.le_trans h.size g.size, fun k hk hr => (g.block k (Nat.lt_of_lt_of_le hk h.size) hr).trans (h.block k hk hr)⟩
theorem Src.drewN {w : World} {M : Fz} {d q : Nat} (h : Src w M d q) (m : Nat) : Src (w.drewN m) M d q := by
  obtain ⟨ao, cap, xs, at_, sd, hs, h1, h2⟩ := h
  exact ⟨ao, cap, xs, at_, sd, hs.drewN m, h1, h2⟩
theorem Src.below {w w' : World} {M : Fz} {d q : Nat} (h : Src w M d q) (hb : Below w.heap.size w w') : Src w' M d q := by
  obtain ⟨ao, cap, xs, at_, sd, hs, h1, h2⟩ := h
  exact ⟨ao, cap, xs, at_, sd, hs.below hb, h1, h2⟩
theorem Src.lt {w : World} {M : Fz} {d q : Nat} (h : Src w M d q) : d < w.heap.size := by obtain ⟨ao, cap, xs, at_, sd, hs, h1, h2⟩ := h; exact hs.lt
theorem Src.inn {w : World} {M : Fz} {d q : Nat} (h : Src w M d q) : In M w := by obtain ⟨ao, cap, xs, at_, sd, hs, h1, h2⟩ := h; exact hs.inn
theorem Src.more {w : World} {M : Fz} {d q p : Nat} (h : Src w M d q) (hp : q ≤ p) : Src w M d p := by
  obtain ⟨ao, cap, xs, at_, sd, hs, h1, h2⟩ := h
  exact ⟨ao, cap, xs, at_, sd, hs, by omega, h2⟩
/-- More is frozen. -/
theorem Src.le {w : World} {M M' : Fz} {d q : Nat} (h : Src w M d q) (hl : Le M M') (hi : In M' w) (hd : M' d = none) : Src w M' d q := by
  obtain ⟨ao, cap, xs, at_, sd, hs, h1, h2⟩ := h
  exact ⟨ao, cap, xs, at_, sd, ⟨hs.blk, hs.data.le hl, hi, hd, hs.sd0, hs.sd1⟩, h1, h2⟩
/-- A row that is not the source's grew, or was written. -/
theorem Src.grown {w w' : World} {M : Fz} {d q : Nat} {row : Option Nat} (h : Src w M d q) (g : w.grownBy w' row) (hr : ∀ b, row = some b → b ≠ d ∧ M b = none) : Src w' M d q := by
  obtain ⟨ao, cap, xs, at_, sd, hs, h1, h2⟩ := h
  exact ⟨ao, cap, xs, at_, sd, ⟨(g.block d hs.lt (fun e => (hr d e.symm).1 rfl)).trans hs.blk, hs.data, hs.inn.grown g (fun k hk => (hr k hk).2), hs.free, hs.sd0, hs.sd1⟩, h1, h2⟩

set_option maxRecDepth 20000 in
set_option maxHeartbeats 1000000 in
theorem byte_any (w : World) (M : Fz) (d q : Nat) (h : Src w M d q) (hq : q ≤ 1000000000000) :
    Calls Try.prog 126 #[.pointer (some ⟨d, 0, none⟩)] w fun e w' => ∃ r : Int, e = .returned (.int .i64 r) ∧ (0 ≤ r ∧ r ≤ 255) ∧ Src w' M d (q + 1) ∧ w.grownBy w' (some d) := by
  obtain ⟨ao, cap, xs, at_, sd, h, hat, hxl⟩ := h
  have HS : Hid (SS w M d ao cap xs at_ sd) := h
  have hd := h.lt
  have c0 := h.c0
  have c1 := h.c1
  have c2 := h.c2
  have f1 := h.fz 1
  have f2 := h.fz 2
  have s0 := h.sd0
  have s1 := h.sd1
  have HS1 : Hid (SS (w.setCell ⟨d, 1, none⟩ (.int .i64 ((at_ : Int) + 1))) M d ao cap xs (at_ + 1) sd) := by
    have := h.set1 (at_ + 1)
    rw [show (((at_ + 1 : Nat) : Nat) : Int) = (at_ : Int) + 1 by omega] at this
    exact this
  have HK1 : Hid (w.grownBy (w.setCell ⟨d, 1, none⟩ (.int .i64 ((at_ : Int) + 1))) (some d)) := set_grown _ _ _ _
  obtain ⟨⟨ao', ca, e, ha1, ha2, hal, han, ha3⟩, hx⟩ := h.data
  obtain ⟨rfl, _, rfl⟩ : ao' = ao ∧ True ∧ ca = cap := by simp at e; exact ⟨e.1.symm, trivial, e.2.symm⟩
  clear e hal han
  unfold maxLen at ha2
  have HEnd : Hid (∀ W s r, SS W M d ao' ca xs (at_ + 1) s → w.grownBy W (some d) → 0 ≤ r → r ≤ 255 → ∃ r' : Int, Ending.returned (.int .i64 r) = .returned (.int .i64 r') ∧ (0 ≤ r' ∧ r' ≤ 255) ∧ Src W M d (q + 1) ∧ w.grownBy W (some d)) := fun W s r h1 h2 h3 h4 => ⟨r, rfl, ⟨h3, h4⟩, ⟨_, _, _, _, _, h1, by omega, hxl⟩, h2⟩
  have HFr := hide h.free
  clear h
  by_cases hin : (at_ : Int) + 1 ≤ xs.length
  · obtain ⟨ab, aoff, rfl, hca⟩ := ha3 (by omega)
    obtain ⟨c, hcx⟩ : ∃ c, xs[at_]? = some c := ⟨_, List.getElem?_eq_getElem (by omega)⟩
    have hcb := hx c (List.mem_of_getElem? hcx)
    have hc' : (w.setCell ⟨d, 1, none⟩ (.int .i64 ((at_ : Int) + 1))).cell? ⟨ab, aoff + at_, none⟩ = some (.int .u8 c) := HS1.out.inn.cell (hca at_ _ (by rw [List.getElem?_map, hcx]; rfl))
    have hne : ab ≠ d := fun e => cellM_in (hca at_ (.int .u8 c) (by rw [List.getElem?_map, hcx]; rfl)) (e ▸ HFr.out)
    clear hca ha3 hcx
    have k0 := HS1.out.c0
    have k1 := HS1.out.c1
    have k2 := HS1.out.c2
    have g2 := HS1.out.fz 2
    rw [show (((at_ + 1 : Nat) : Nat) : Int) = (at_ : Int) + 1 by omega] at k1
    go_enter Try.func126, Try.ntmps126
    go_wp2
    go_quiet (fail)
    go_wp2
    have hw1 : IntKind.i64.wrap (at_ : Int) = at_ := by rw [IntKind.wrap_i64]; omega
    have hw2 : IntKind.i64.wrap (sd * 31) = sd * 31 := by rw [IntKind.wrap_i64]; omega
    have hw3 : IntKind.i64.wrap (sd * 31 + c) = sd * 31 + c := by rw [IntKind.wrap_i64]; omega
    have hw4 : IntKind.i64.wrap (sd * 31 + c + 7) = sd * 31 + c + 7 := by rw [IntKind.wrap_i64]; omega
    have hw5 : IntKind.i64.wrap c = c := by rw [IntKind.wrap_i64]; omega
    have hlt : (at_ : Int) < xs.length := by omega
    have hlt0 : (0 : Int) ≤ at_ := by omega
    go_region_law (fail)
    all_goals
      go_wp2
      go_quiet (fail)
      go_wp2
      go_ret
      have ht : (sd * 31 + c + 7).tmod 2147483648 = (sd * 31 + c + 7) % 2147483648 := Int.tmod_eq_emod_of_nonneg (by omega)
      exact HEnd.out _ _ _ (((HS1.out.drewN _).set2 _ (by rw [ht]; omega) (by rw [ht]; omega)).drewN _) (grown_trans (grown_trans (grown_trans HK1.out (drew_grown _ _ _)) (set_grown _ _ _ _)) (drew_grown _ _ _)) hcb.1 hcb.2
  · by_cases h3 : (3000 : Int) < (at_ : Int) + 1
    · go_enter Try.func126, Try.ntmps126
      go_wp2
      go_quiet (fail)
      go_wp2
      go_ret
      exact HEnd.out _ _ _ (HS1.out.drewN _) (grown_trans HK1.out (drew_grown _ _ _)) (by omega) (by omega)
    · go_enter Try.func126, Try.ntmps126
      go_wp2
      go_quiet (fail)
      go_wp2
      go_ret
      exact HEnd.out _ _ _ ((HS1.out.drewN _).set2 _ (by omega) (by omega)) (grown_trans (grown_trans HK1.out (drew_grown _ _ _)) (set_grown _ _ _ _)) (by omega) (by omega)
/-- A number below another. -/
theorem next_any (w : World) (M : Fz) (d q : Nat) (n : Int) (hn : n ≤ 256) (h : Src w M d q) (hq : q ≤ 1000000000000) :
    Calls Try.prog 85 #[.pointer (some ⟨d, 0, none⟩), .int .i64 n] w fun e w' => ∃ r : Int, e = .returned (.int .i64 r) ∧ (0 ≤ r ∧ (r < n ∨ r = 0) ∧ r ≤ 255) ∧ Src w' M d (q + 1) ∧ w.grownBy w' (some d) := by
  have HS : Hid (Src w M d q) := h
  clear h
  by_cases h1 : n ≤ 1
  · go_enter Try.func85, Try.ntmps85
    go_wp2
    go_ret
    exact ⟨0, rfl, ⟨by omega, .inr rfl, by omega⟩, HS.out.more (by omega), drew_grown w 0 _⟩
  · go_enter Try.func85, Try.ntmps85
    go_wp2_with fail
    refine (byte_any _ M d q HS.out hq).mono ?_
    rintro e w1 ⟨r, rfl, ⟨r0, r1⟩, S1, K1⟩
    have HF : Hid (Src w1 M d (q + 1) ∧ w.grownBy w1 (some d)) := ⟨S1, K1⟩
    clear S1 K1
    have ht : r.tmod n = r % n := Int.tmod_eq_emod_of_nonneg r0
    have h9 := Int.emod_nonneg r (b := n) (by omega)
    have h8 := Int.emod_lt_of_pos r (b := n) (by omega)
    have hne : n ≠ 0 := by omega
    go_wp2
    go_ret
    exact ⟨_, rfl, ⟨by first | omega | (rw [ht]; omega), .inl (by first | omega | (rw [ht]; omega)), by first | omega | (rw [ht]; omega)⟩, HF.out.1, HF.out.2⟩
/-- A chance. -/
theorem chance_any (w : World) (M : Fz) (d q : Nat) (n : Int) (h1 : 1 ≤ n) (hn : n ≤ 256) (h : Src w M d q) (hq : q ≤ 1000000000000) :
    Calls Try.prog 41 #[.pointer (some ⟨d, 0, none⟩), .int .i64 n] w fun e w' => ∃ r : Bool, e = .returned (.bool r) ∧ Src w' M d (q + 1) ∧ w.grownBy w' (some d) := by
  have HS : Hid (Src w M d q) := h
  clear h
  go_enter Try.func41, Try.ntmps41
  go_wp2_with (go_at_call 85; refine (next_any _ M d q n hn HS.out hq).mono ?_; rintro e w1 ⟨r, rfl, ⟨r0, r1, r2⟩, S1, K1⟩; have HF := hide (And.intro S1 K1); clear S1 K1)
  go_ret
  exact ⟨_, rfl, HF.out.1, HF.out.2⟩
/-- A size. -/
theorem size_any (w : World) (M : Fz) (d q : Nat) (n : Int) (h1 : 1 ≤ n) (hn : n ≤ 256) (h : Src w M d q) :
    Calls Try.prog 125 #[.pointer (some ⟨d, 0, none⟩), .int .i64 n] w fun e w' => ∃ r : Int, e = .returned (.int .i64 r) ∧ (1 ≤ r ∧ r ≤ n) ∧ ∃ m, w' = w.drewN m := by
  obtain ⟨ao, cap, xs, at_, sd, h, hat, hxl⟩ := h
  have c0 := h.c0
  clear h
  go_enter Try.func125, Try.ntmps125
  go_wp2
  all_goals
    go_ret
    exact ⟨_, rfl, by omega, 0, rfl⟩
end Go.Proofs.Ytklkglbimjajnaa.src

/- Contracts of the specification's bytes of a job. -/
namespace Go.Proofs.Ytklkglbimjajnaa.put
open Go.ChangeShapes Go.WideShapes Go.ChangeAt Go.RowKit
open Go.Proofs.Ytklkglbimjajnaa.bytes
set_option linter.unusedVariables false

/-- A number's bytes. -/
def putN (n : Nat) : List Int := if n < 128 then [(n : Int)] else ((n % 128 + 128 : Nat) : Int) :: putN (n / 128)
termination_by n
decreasing_by omega

theorem putN_lt {n : Nat} (h : n < 128) : putN n = [(n : Int)] := by rw [putN, if_pos h]
theorem putN_ge {n : Nat} (h : 128 ≤ n) : putN n = ((n % 128 + 128 : Nat) : Int) :: putN (n / 128) := by rw [putN, if_neg (by omega)]
theorem putN_len (k : Nat) : ∀ n, n < 128 ^ (k + 1) → (putN n).length ≤ k + 1 := by
  induction k with
  | zero => intro n h; rw [putN_lt (by omega)]; simp
  | succ k ih =>
    intro n h
    by_cases h1 : n < 128
    · rw [putN_lt h1]; simp
    · rw [putN_ge (by omega)]
      have := ih (n / 128) (Nat.div_lt_of_lt_mul (by rw [Nat.pow_succ, Nat.mul_comm] at h; exact h))
      simp; omega
theorem putN_bd (n : Nat) : ∀ x ∈ putN n, 0 ≤ x ∧ x ≤ 255 := by
  induction n using putN.induct with
  | case1 n h => rw [putN_lt h]; simp; omega
  | case2 n h ih => rw [putN_ge (by omega)]; simp only [List.mem_cons]; rintro x (rfl | hx); · omega
                    exact ih x hx

theorem put_len {n m : Nat} {pre : List Int} (hn : n ≤ 2 ^ 63 - 1) (h : pre ++ putN m = putN n) : pre.length < 10 := by
  have h1 := putN_len 9 n (by omega)
  rw [← h] at h1
  have h2 : 0 < (putN m).length := by
    by_cases h : m < 128
    · rw [putN_lt h]; simp
    · rw [putN_ge (by omega)]; simp
  simp at h1; omega

/-- One byte more behind what is owned. -/
theorem own_snoc {w w' : World} {base : Nat} {v' : Value} {pre : List Int} {x : Int} (hpre : ∀ y ∈ pre, 0 ≤ y ∧ y ≤ 255) (hx : 0 ≤ x ∧ x ≤ 255)
    (h : w'.ownsRow base 5 1 v' (pre.length + 1) (pre.map (Value.int .u8) ++ [.int .u8 x])) : Own w' base v' (pre ++ [x]) := by
  refine ⟨?_, by simpa using h⟩
  intro y hy
  simp only [List.mem_append, List.mem_singleton] at hy
  rcases hy with hy | rfl
  · exact hpre y hy
  · exact hx

theorem below_snoc {w wr w1 : World} {o : Obj} {row : Option Nat} (hb : Below w.heap.size w wr) (hg : (wr.alloc o).grownBy w1 row) (hr : ∀ k, row = some k → w.heap.size ≤ k) : Below w.heap.size w w1 :=
  (hb.alloc hb.size o).grown hg (by have := hb.size; simp; omega) hr

theorem u8_or128 (n : Int) : bits .or .u8 (n % 128) 128 = n % 128 + 128 := by
  obtain ⟨a, ha⟩ := Int.eq_ofNat_of_zero_le (show 0 ≤ n % 128 by omega)
  rw [ha]
  have hlt : a < 2 ^ 7 := by omega
  have key : (BitVec.ofInt 8 (a : Int) ||| BitVec.ofInt 8 128).toNat = a + 128 := by
    have h1 : (BitVec.ofInt 8 (a : Int)).toNat = a := by rw [BitVec.toNat_ofInt]; omega
    have h2 : (BitVec.ofInt 8 128).toNat = 128 := by decide
    rw [BitVec.toNat_or, h1, h2, Nat.or_comm, show (128 : Nat) = 2 ^ 7 * 1 from rfl, ← Nat.two_pow_add_eq_or_of_lt hlt]
    omega
  show IntKind.u8.wrap ((BitVec.ofInt 8 (a : Int) ||| BitVec.ofInt 8 128).toNat : Nat) = _
  rw [key]
  simp [IntKind.wrap, IntKind.bits, IntKind.signed]
  omega

set_option maxHeartbeats 400000 in
theorem l01Put_own (n : Nat) (w : World) (hn : n ≤ maxLen) :
    Calls Try.prog 86 #[.int .i64 n] w fun e w' => ∃ v, e = .returned v ∧ Own w' w.heap.size v (putN n) ∧ Below w.heap.size w w' := by
  unfold maxLen at hn
  obtain ⟨i0, hi, hz0, hz1, hz2⟩ := info_parts info5
  have HI : Hid (Try.prog.info? 5 = some i0 ∧ i0.zero = some (.int .u8 0) ∧ i0.size = 1 ∧ i0.bytes = 1) := ⟨hi, hz0, hz1, hz2⟩
  clear hi hz0 hz1 hz2
  go_enter Try.func86, Try.ntmps86
  go_wp2
  go_loopw [0, 3] (fun n' v wr => ∃ (m : Nat) (pre : List Int), m ≤ n ∧ n' = .int .i64 m ∧ Hid (pre ++ putN m = putN n ∧ Own wr w.heap.size v pre ∧ Below w.heap.size w wr)) (fun n' _ _ => (intOf n').toNat)
  case atStart => exact ⟨n, [], by omega, rfl, hide ⟨by simp, ⟨by simp, World.ownsRow_lit _ #[] 0 (Nat.le_refl _) (by simp [maxLen]) (by simp)⟩, (Below.refl _ _).alloc (Nat.le_refl _) _⟩⟩
  case round =>
    obtain ⟨m, pre, hm, rfl, HR⟩ := hrel
    have hpl := put_len hn HR.out.1
    have hsz := HR.out.2.2.size
    by_cases hlt : (128 : Int) ≤ m
    · have ho := u8_or128 (m : Int)
      go_wp2_with (at_builtin; refine wpList_append_own _ rfl _ _ 22 rfl w.heap.size 5 i0 (.int .u8 0) 1 1 Try.underlying22 HI.out.1 HI.out.2.1 HI.out.2.2.1 HI.out.2.2.2 rfl (by decide) _ _ _ rfl (HR.out.2.1.2.alloc _) ⟨wr.heap.size, 0, none⟩ 1 1 [.int .u8 ((m : Int) % 128 + 128)] rfl rfl (cell_one_new _ _ _) ?c2 ?c3 ?c4 ?c5 ?_)
      case c2 => intro u hu; simp at hu; subst hu; rfl
      case c3 => unfold maxLen; omega
      case c4 => omega
      case c5 => first | omega | (simp; omega)
      intro v' w1 hown' hgrow _
      have HS : Hid ((pre ++ [(m : Int) % 128 + 128]) ++ putN (m / 128) = putN n ∧ Own w1 w.heap.size v' (pre ++ [(m : Int) % 128 + 128]) ∧ Below w.heap.size w w1) := by
        refine hide ⟨?_, own_snoc (w := wr) HR.out.2.1.1 (by omega) hown', below_snoc HR.out.2.2 hgrow (fun k hk => (HR.out.2.1.lt k hk).1)⟩
        rw [← HR.out.1, putN_ge (n := m) (by omega)]
        simp
      clear hown' hgrow HR HI ho
      go_wp2
      go_roundw
      case rel => exact ⟨m / 128, _, by omega, by go_num, HS⟩
      case measure => simp [intOf]; omega
    · go_wp2_with (at_builtin; refine wpList_append_own _ rfl _ _ 22 rfl w.heap.size 5 i0 (.int .u8 0) 1 1 Try.underlying22 HI.out.1 HI.out.2.1 HI.out.2.2.1 HI.out.2.2.2 rfl (by decide) _ _ _ rfl (HR.out.2.1.2.alloc _) ⟨wr.heap.size, 0, none⟩ 1 1 [.int .u8 (m : Int)] rfl rfl (cell_one_new _ _ _) ?d2 ?d3 ?d4 ?d5 ?_)
      case d2 => first | (intro u hu; simp at hu; subst hu; rfl) | rfl
      case d3 => unfold maxLen; omega
      case d4 => omega
      case d5 => first | omega | (simp; omega)
      intro v' w1 hown' hgrow _
      have HS : Hid (Own w1 w.heap.size v' (putN n) ∧ Below w.heap.size w w1) := by
        refine hide ⟨?_, below_snoc HR.out.2.2 hgrow (fun k hk => (HR.out.2.1.lt k hk).1)⟩
        rw [← HR.out.1, putN_lt (n := m) (by omega)]
        exact own_snoc (w := wr) HR.out.2.1.1 (by omega) hown'
      clear hown' hgrow HR HI
      go_wp2
      go_ret
      exact ⟨_, rfl, HS.out⟩
end Go.Proofs.Ytklkglbimjajnaa.put

namespace Go.Proofs.Ytklkglbimjajnaa.jhelp
open Go.ChangeShapes Go.WideShapes Go.ChangeAt Go.RowKit
open Go.Proofs.Ytklkglbimjajnaa.bytes Go.Proofs.Ytklkglbimjajnaa.pile Go.Proofs.Ytklkglbimjajnaa.put
set_option linter.unusedVariables false

theorem more {W wx : World} (h : Below W.heap.size W wx) (o : Obj) : Below W.heap.size W (wx.alloc o) := h.alloc h.size o
theorem cell_at {w w' : World} {B : Nat} {a : Addr} {v : Value} (h : Below B w w') (hc : w.cell? a = some v) (hB : w.heap.size ≤ B) : w'.cell? a = some v := (h.cell (by have := cell_lt hc; omega)).trans hc
theorem kept {w w' : World} {B k : Nat} {o : Obj} (h : Below B w w') (hk : w.heap[k]? = some o) (hB : w.heap.size ≤ B) : w'.heap[k]? = some o := (h.block k (by have := (Array.getElem?_eq_some_iff.1 hk).1; omega)).trans hk
theorem new_at {w : World} {o : Obj} {k : Nat} (h : w.heap.size = k) : (w.alloc o).heap[k]? = some o := by subst h; exact heap_alloc_new w o
theorem cell_of {w : World} {b i : Nat} {cur : Array Value} {t : Nat} {v : Value} (h : w.heap[b]? = some (.cells cur t (0, 0))) (hv : cur[i]? = some v) : w.cell? ⟨b, i, none⟩ = some v := by simp [World.cell?, h, hv]
theorem frozen_of {w : World} {b : Nat} {cur : Array Value} {t : Nat} (h : w.heap[b]? = some (.cells cur t (0, 0))) (i : Nat) : w.frozen? ⟨b, i, none⟩ = false := by simp [World.frozen?, h]
theorem below_drew' {B : Nat} {w w' : World} (h : Below B w w') (n : Nat) : Below B w (w'.drewN n) := ⟨h.os, h.tape, h.output, h.size, h.block⟩

/-- The bytes of a text, as numbers. -/
def strN (s : ByteArray) : List Int := s.data.toList.map fun b => (b.toNat : Int)
theorem strN_length (s : ByteArray) : (strN s).length = s.size := by
  rw [strN, List.length_map, Array.length_toList]
  rfl
theorem strN_bd (s : ByteArray) : ∀ x ∈ strN s, 0 ≤ x ∧ x ≤ 255 := by
  intro x hx
  simp only [strN, List.mem_map] at hx
  obtain ⟨b, _, rfl⟩ := hx
  have := b.toNat_lt
  omega
theorem strCells_eq (s : ByteArray) : Lib.strCells s = (strN s).map (Value.int .u8) := by
  simp [Lib.strCells, strN]

/-- A number of clients, jobs or versions in its bounds. -/
def inT (lo n : Int) : Bool := decide (lo ≤ n ∧ n ≤ 1000000)

/-- A job is right. -/
def jobB (c s : Int) (F : Nat) (v : Int) (S T : Nat) : Bool := inT 1 c && (inT 1 s && (inT 0 v && (decide (F ≤ 40) && (decide (S ≤ 2000) && decide (T ≤ 2000)))))

/-- A text's bytes, and a job's. -/
def textN (s : ByteArray) : List Int := putN s.size ++ strN s
def flagN (e q : Bool) : Int := (if e then 1 else 0) + 2 * (if q then 1 else 0)
def jobN (c s : Int) (F : ByteArray) (v : Int) (S T : ByteArray) (e q : Bool) : List Int :=
  (((((putN c.toNat ++ putN s.toNat) ++ textN F) ++ putN v.toNat) ++ textN S) ++ textN T) ++ [flagN e q]

theorem inT_yes {lo n : Int} (h : inT lo n = true) : lo ≤ n ∧ n ≤ 1000000 := by simpa [inT] using h
theorem jobB_yes {c s v : Int} {F S T : Nat} (h : jobB c s F v S T = true) : (1 ≤ c ∧ c ≤ 1000000) ∧ (1 ≤ s ∧ s ≤ 1000000) ∧ (0 ≤ v ∧ v ≤ 1000000) ∧ F ≤ 40 ∧ S ≤ 2000 ∧ T ≤ 2000 := by
  simpa [jobB, inT] using h

theorem put3 {n : Nat} (h : n ≤ 1000000) : (putN n).length ≤ 3 := putN_len 2 n (by omega)
theorem textN_len {s : ByteArray} (h : s.size ≤ 2000) : (textN s).length ≤ 2003 := by
  have := put3 (n := s.size) (by omega)
  simp [textN, strN_length]
  omega
theorem flag_bd (e q : Bool) : 0 ≤ flagN e q ∧ flagN e q ≤ 3 := by cases e <;> cases q <;> simp [flagN]
theorem jobN_len {c s v : Int} {F S T : ByteArray} {e q : Bool} (h : jobB c s F.size v S.size T.size = true) : (jobN c s F v S T e q).length ≤ 6020 := by
  obtain ⟨h1, h2, h3, h4, h5, h6⟩ := jobB_yes h
  have a1 := put3 (n := c.toNat) (by omega)
  have a2 := put3 (n := s.toNat) (by omega)
  have a3 := put3 (n := v.toNat) (by omega)
  have a4 := textN_len (s := F) (by omega)
  have a5 := textN_len h5
  have a6 := textN_len h6
  simp [jobN]
  omega

/-- Own behind a string that is put behind. -/
theorem own_str {w' : World} {base : Nat} {v' : Value} {xs : List Int} {s : ByteArray} (hx : ∀ x ∈ xs, 0 ≤ x ∧ x ≤ 255) (h : w'.ownsRow base 5 1 v' (xs.length + s.size) (xs.map (Value.int .u8) ++ Lib.strCells s)) : Own w' base v' (xs ++ strN s) := by
  refine ⟨?_, ?_⟩
  · intro x hx'
    rcases List.mem_append.1 hx' with h' | h'
    · exact hx x h'
    · exact strN_bd s x h'
  · rw [List.length_append, strN_length, List.map_append, ← strCells_eq]
    exact h

theorem flag_any (w : World) (b : Bool) : Calls Try.prog 88 #[.bool b] w fun e w' => e = .returned (.int .i64 (if b then 1 else 0)) ∧ w' = w := by
  cases b
  · go_enter Try.func88, Try.ntmps88
    go_wp2
    go_ret
    exact ⟨rfl, rfl⟩
  · go_enter Try.func88, Try.ntmps88
    go_wp2
    go_ret
    exact ⟨rfl, rfl⟩

set_option maxHeartbeats 800000 in
theorem text_own (w : World) (s : ByteArray) (hs : s.size ≤ 1048576) : Calls Try.prog 87 #[.string s] w fun e w' => ∃ v, e = .returned v ∧ Own w' w.heap.size v (textN s) ∧ Below w.heap.size w w' := by
  obtain ⟨i0, hi, hz0, hz1, hz2⟩ := info_parts info5
  have HI : Hid (Try.prog.info? 5 = some i0 ∧ i0.zero = some (.int .u8 0) ∧ i0.size = 1 ∧ i0.bytes = 1) := ⟨hi, hz0, hz1, hz2⟩
  clear hi hz0 hz1 hz2
  have hpl : (putN s.size).length ≤ 10 := putN_len 9 s.size (by omega)
  have HC := l01Put_own s.size w (by unfold maxLen; omega)
  have HPL : Hid ((putN s.size).length ≤ 10) := hpl
  clear hpl
  go_enter Try.func87, Try.ntmps87
  go_wp2_with fail
  refine HC.mono ?_
  rintro e w1 ⟨v1, rfl, O1, b1⟩
  have s1 := b1.size
  have HO : Hid (Own w1 w.heap.size v1 (putN s.size)) := O1
  clear O1
  go_wp2_with (at_builtin; refine Lib.wpList_append_own_string w1 rfl _ _ 22 9 rfl w.heap.size 5 i0 Try.underlying22 Try.underlying9 HI.out.1 HI.out.2.1 HI.out.2.2.1 HI.out.2.2.2 v1 _ _ rfl HO.out.2 s rfl (by have := HPL.out; unfold maxLen; omega) (by have := HPL.out; omega) s1 ?_; intro v2 w2 hown2 hg2 _; have H2 : Hid (Own w2 w.heap.size v2 (textN s) ∧ Below w.heap.size w w2) := ⟨own_str HO.out.1 hown2, b1.grown hg2 s1 (fun k hk => (HO.out.lt k hk).1)⟩; clear hown2 hg2)
  go_ret
  exact ⟨_, rfl, H2.out⟩
end Go.Proofs.Ytklkglbimjajnaa.jhelp

namespace Go.Proofs.Ytklkglbimjajnaa.sjob
open Go.ChangeShapes Go.WideShapes Go.ChangeAt Go.RowKit
open Go.Proofs.Ytklkglbimjajnaa.bytes Go.Proofs.Ytklkglbimjajnaa.pile Go.Proofs.Ytklkglbimjajnaa.put Go.Proofs.Ytklkglbimjajnaa.jhelp 
set_option linter.unusedVariables false

/-- 'append(out, ys...)' within a region that draws its order. -/
theorem step_append_rd {P : Program} (w : World) {ops : Array Oper} {o : Oper} {a : Act} {K : Act → World → Prop} {Q : Exit → Act → World → Prop} {E : Prop} (hgd : o.guard = none) (s x : Operand) (t : TypeId)
    (ho : o.op = .call { callee := .builtin .append, args := #[s, x], argTypes := #[t, t] }) (ht : P.underlying t = some (.slice 5))
    (hi : (P.info? 5).map (fun i => (i.zero, i.size, i.bytes)) = some (some (.int .u8 0), 1, 1))
    (base : Nat) (v : Value) (xs : List Int) (hs : a.eval s = v) (hown : Own w base v xs) (u : Value) (ys : List Int) (hx : a.eval x = u) (hr : RdA w u ys)
    (hlen : xs.length + ys.length ≤ 140737488355328) (hbase : base ≤ w.heap.size)
    (h : ∀ v' w', Own w' base v' (xs ++ ys) → w.grownBy w' v.ownBlock → K (a.put o.dst v') w') :
    if Region.wanted o (yielded ops a.tmps) = true then Oper.wp P o a w K Q else E := by
  have hw : Region.wanted o (yielded ops a.tmps) = true := by simp [Region.wanted, hgd]
  rw [if_pos hw]
  obtain ⟨i0, hi1, hz0, hz1, hz2⟩ := info_parts hi
  obtain ⟨⟨ao, cap, rfl, h1, h2, h3, h4⟩, hnil⟩ := hr
  have hall : ∀ y ∈ xs ++ ys, 0 ≤ y ∧ y ≤ 255 := by
    intro y hy
    rcases List.mem_append.1 hy with hy | hy
    · exact hown.1 y hy
    · exact h3 y hy
  cases ao with
  | none =>
    have e := hnil _ _ rfl
    simp only [Value.slice.injEq, true_and] at e
    have hys : ys = [] := List.length_eq_zero_iff.1 e.1
    subst hys
    obtain rfl : cap = 0 := e.2
    have hrun := run_append_owned_none (P := P) (w := w) base t o.type 5 i0 1 ht hi1 v xs.length _ hown.2
    have hK := h v w (by simpa using hown) (World.grownBy.refl _ _)
    unfold Oper.wp
    simp only [List.length_nil] at hx
    simp [execOp, ho, resolve, invoke, builtin, hs, hx, hrun, Result.andThen]
    exact hK
  | some ad =>
    refine wp_append_own w s x t ho base 5 i0 (.int .u8 0) 1 1 ht hi1 hz0 hz1 hz2 rfl (by decide) v xs.length _ hs hown.2 ad ys.length cap (ys.map (Value.int .u8)) hx (by simp) ?_ ?_ (by unfold maxLen; omega) (by omega) hbase ?_
    · intro j y hy
      simp only [List.getElem?_map, Option.map_eq_some_iff] at hy
      obtain ⟨z, hz, rfl⟩ := hy
      have hj : j < ys.length := (List.getElem?_eq_some_iff.1 hz).1
      obtain ⟨b, off, e, hc⟩ := h4 (by omega)
      simp only [Option.some.injEq] at e
      subst e
      rw [add_at, hc j hj]
      simp [List.getD_eq_getElem?_getD, hz]
    · intro y hy
      obtain ⟨z, _, rfl⟩ := List.mem_map.1 hy
      rfl
    · intro v' w' hown' hgrow _
      refine h v' w' ⟨hall, ?_⟩ hgrow
      rw [List.length_append, List.map_append]
      exact hown'

theorem lit_rdA {wx : World} {k : Nat} {x : Int} (h : wx.heap[k]? = some (.cells #[.int .u8 x] 5 (0, 0))) (hx : 0 ≤ x ∧ x ≤ 255) : RdA wx (.slice (some ⟨k, 0, none⟩) 1 1) [x] := by
  refine ⟨⟨some ⟨k, 0, none⟩, 1, rfl, by simp, by simp [maxLen], by simpa using hx, fun _ => ⟨k, 0, rfl, fun i hi => ?_⟩⟩, fun n c e => by simp at e⟩
  have : i = 0 := by simp at hi; omega
  subst this
  simp [World.cell?, h]

theorem lit_at {w : World} {k base : Nat} {x : Int} (h : w.heap[k]? = some (.cells #[.int .u8 x] 5 (0, 0))) (hb : base ≤ k) (hx : 0 ≤ x ∧ x ≤ 255) : Own w base (.slice (some ⟨k, 0, none⟩) 1 1) [x] :=
  ⟨by simpa using hx, rfl, .inr ⟨k, 1, #[.int .u8 x], rfl, hb, h, Nat.le_refl _, by simp [maxLen], by simp, by simp⟩⟩

set_option maxRecDepth 20000 in
set_option maxHeartbeats 6400000 in
theorem specBytes (w : World) (C Q V : Nat) (F S T : ByteArray) (e q : Bool) (hR : jobB C Q F.size V S.size T.size = true) :
    Calls Try.prog 42 #[.agg #[.int .i64 (C : Nat), .int .i64 (Q : Nat), .string F, .int .i64 (V : Nat), .string S, .string T, .bool e, .bool q]] w fun r w' => ∃ u, r = .returned u ∧ Own w' w.heap.size u (jobN C Q F V S T e q) ∧ Below w.heap.size w w' := by
  obtain ⟨r1, r2, r3, r4, r5, r6⟩ := jobB_yes hR
  have l1 := put3 (n := C) (by omega)
  have l2 := put3 (n := Q) (by omega)
  have l3 := put3 (n := V) (by omega)
  have l4 := textN_len (s := F) (by omega)
  have l5 := textN_len r5
  have l6 := textN_len r6
  have HL : Hid ((putN C).length ≤ 3 ∧ (putN Q).length ≤ 3 ∧ (putN V).length ≤ 3 ∧ (textN F).length ≤ 2003 ∧ (textN S).length ≤ 2003 ∧ (textN T).length ≤ 2003) := ⟨l1, l2, l3, l4, l5, l6⟩
  have HRg : Hid (C ≤ 1000000 ∧ Q ≤ 1000000 ∧ V ≤ 1000000 ∧ F.size ≤ 40 ∧ S.size ≤ 2000 ∧ T.size ≤ 2000) := ⟨by omega, by omega, by omega, r4, r5, r6⟩
  obtain ⟨W, hWW⟩ : ∃ W, W = w.alloc (.cells #[.int .i64 (C : Nat), .int .i64 (Q : Nat), .string F, .int .i64 (V : Nat), .string S, .string T, .bool e, .bool q] 94) := ⟨_, rfl⟩
  have bW : Below w.heap.size w W := by rw [hWW]; exact (Below.refl _ _).alloc (Nat.le_refl _) _
  have k0 : W.heap[w.heap.size]? = some (.cells #[.int .i64 (C : Nat), .int .i64 (Q : Nat), .string F, .int .i64 (V : Nat), .string S, .string T, .bool e, .bool q] 94 (0, 0)) := by rw [hWW]; exact heap_alloc_new w _
  have x0 : W.cell? ⟨w.heap.size, 0, none⟩ = some (.int .i64 C) := cell_of k0 rfl
  have x1 : W.cell? ⟨w.heap.size, 1, none⟩ = some (.int .i64 Q) := cell_of k0 rfl
  have x2 : W.cell? ⟨w.heap.size, 2, none⟩ = some (.string F) := cell_of k0 rfl
  have x3 : W.cell? ⟨w.heap.size, 3, none⟩ = some (.int .i64 V) := cell_of k0 rfl
  have x4 : W.cell? ⟨w.heap.size, 4, none⟩ = some (.string S) := cell_of k0 rfl
  have x5 : W.cell? ⟨w.heap.size, 5, none⟩ = some (.string T) := cell_of k0 rfl
  have x6 : W.cell? ⟨w.heap.size, 6, none⟩ = some (.bool e) := cell_of k0 rfl
  have x7 : W.cell? ⟨w.heap.size, 7, none⟩ = some (.bool q) := cell_of k0 rfl
  have HS : Hid (∀ wx, Below W.heap.size W wx → (wx.cell? ⟨w.heap.size, 0, none⟩ = some (.int .i64 C) ∧ wx.cell? ⟨w.heap.size, 1, none⟩ = some (.int .i64 Q)) ∧ Below W.heap.size W wx) := fun wx h => ⟨⟨cell_at h x0 (Nat.le_refl _), cell_at h x1 (Nat.le_refl _)⟩, h⟩
  have HN : Hid (∀ n : Nat, n ≤ 1000000 → ∀ wx, Below W.heap.size W wx → Calls Try.prog 86 #[.int .i64 n] wx fun r w' => ∃ o m c, r = .returned (.slice o m c) ∧ Hid (Own w' wx.heap.size (.slice o m c) (putN n)) ∧ Hid (Below wx.heap.size wx w') ∧ Below W.heap.size W w' ∧ W.heap.size ≤ w'.heap.size) := fun n hn wx hb => by
    refine (l01Put_own n wx (by unfold maxLen; omega)).mono ?_
    rintro r w' ⟨u, rfl, HO, hB⟩
    obtain ⟨o, c, e, _⟩ := HO.rd
    subst e
    have hq := hb.trans (hB.mono hb.size)
    exact ⟨o, _, c, rfl, HO, hB, hq, hq.size⟩
  have HEnd : Hid (Below w.heap.size w W) := bW
  have hs0 : w.heap.size ≤ W.heap.size := bW.size
  clear r1 r2 r3 r4 r5 r6 l1 l2 l3 l4 l5 l6 hR k0 bW
  go_enter Try.func42, Try.ntmps42
  go_wp2
  rw [← hWW]
  clear hWW
  go_region_held_law (fun wx => (wx.cell? ⟨w.heap.size, 0, none⟩ = some (.int .i64 C) ∧ wx.cell? ⟨w.heap.size, 1, none⟩ = some (.int .i64 Q)) ∧ Below W.heap.size W wx)
    ((refine HS.out _ ?_; first | assumption | exact Below.refl _ _ | exact (Below.refl _ _).drew))
    (first
      | (go_at_call 86; have _h1 := B1; refine (HN.out _ (by have := HRg.out; omega) _ (by first | assumption | exact And.right (by assumption))).mono ?_; rintro r w2 ⟨o2, m2, c2, rfl, R2, B2, D2, s2⟩)
      | (go_at_call 86; refine (HN.out _ (by have := HRg.out; omega) _ (by first | assumption | exact And.right (by assumption))).mono ?_; rintro r w1 ⟨o1, m1, c1, rfl, R1, B1, D1, s1⟩)
      | (refine step_append_rd _ rfl _ _ 22 rfl Try.underlying22 info5 W.heap.size _ (putN C) rfl ((R1.out.below B2.out (Nat.le_refl _)).mono (by first | exact Nat.le_refl _ | omega | (have := D1.size; omega) | (have := B1.out.size; simp at this ⊢; omega))) _ (putN Q) rfl (Own.rdA R2.out) (by have := HL.out; omega) (by exact s2) ?_
         intro v0 w0' O0 G0
         have D0 : Below W.heap.size W w0' := D2.grown G0 s2 (fun k hk => by have := (R1.out.lt k hk).1; first | exact this | omega | (simp at this; omega))
         have H0 : Hid (Own w0' W.heap.size v0 (putN C ++ putN Q)) := O0
         clear O0 G0))
  have cl02 := cell_at D0 x2 (Nat.le_refl _)
  clear x0 x1 HS HN R1 B1 D1 s1 R2 B2 D2 s2
  have y0 := D0.size
  go_wp2_with fail
  refine (text_own _ F (by have := HRg.out; omega)).mono ?_
  rintro r u0 ⟨t0, rfl, A0, b0⟩
  have E0 : Below W.heap.size W u0 := D0.trans (b0.mono (by omega))
  have HA0 : Hid (RdA u0 t0 _) := Own.rdA A0
  have HO0 : Hid (Own u0 W.heap.size v0 _) := H0.out.below b0 (Nat.le_refl _)
  have z0 : W.heap.size ≤ u0.heap.size := by have := b0.size; omega
  clear A0 b0 cl02 H0 D0 y0
  go_wp2_with (at_builtin; refine wpList_append_rd _ rfl _ _ 22 rfl Try.underlying22 info5 W.heap.size _ _ rfl HO0.out _ _ rfl HA0.out (by have := HL.out; simp only [List.length_append]; omega) (by exact z0) ?_; intro v1 w1' O1 G1; have D1 : Below W.heap.size W w1' := E0.grown G1 (by exact z0) (fun k hk => (HO0.out.lt k hk).1); have H1 : Hid (Own w1' W.heap.size v1 _) := O1; clear O1 G1; have cl13 := cell_at D1 x3 (Nat.le_refl _))
  clear HA0 HO0 E0 z0
  have y1 := D1.size
  go_wp2_with fail
  refine (l01Put_own V _ (by have := HRg.out; unfold maxLen; omega)).mono ?_
  rintro r u1 ⟨t1, rfl, A1, b1⟩
  have E1 : Below W.heap.size W u1 := D1.trans (b1.mono (by omega))
  have HA1 : Hid (RdA u1 t1 _) := Own.rdA A1
  have HO1 : Hid (Own u1 W.heap.size v1 _) := H1.out.below b1 (Nat.le_refl _)
  have z1 : W.heap.size ≤ u1.heap.size := by have := b1.size; omega
  clear A1 b1 cl13 H1 D1 y1
  go_wp2_with (at_builtin; refine wpList_append_rd _ rfl _ _ 22 rfl Try.underlying22 info5 W.heap.size _ _ rfl HO1.out _ _ rfl HA1.out (by have := HL.out; simp only [List.length_append]; omega) (by exact z1) ?_; intro v2 w2' O2 G2; have D2 : Below W.heap.size W w2' := E1.grown G2 (by exact z1) (fun k hk => (HO1.out.lt k hk).1); have H2 : Hid (Own w2' W.heap.size v2 _) := O2; clear O2 G2; have cl24 := cell_at D2 x4 (Nat.le_refl _))
  clear HA1 HO1 E1 z1
  have y2 := D2.size
  go_wp2_with fail
  refine (text_own _ S (by have := HRg.out; omega)).mono ?_
  rintro r u2 ⟨t2, rfl, A2, b2⟩
  have E2 : Below W.heap.size W u2 := D2.trans (b2.mono (by omega))
  have HA2 : Hid (RdA u2 t2 _) := Own.rdA A2
  have HO2 : Hid (Own u2 W.heap.size v2 _) := H2.out.below b2 (Nat.le_refl _)
  have z2 : W.heap.size ≤ u2.heap.size := by have := b2.size; omega
  clear A2 b2 cl24 H2 D2 y2
  go_wp2_with (at_builtin; refine wpList_append_rd _ rfl _ _ 22 rfl Try.underlying22 info5 W.heap.size _ _ rfl HO2.out _ _ rfl HA2.out (by have := HL.out; simp only [List.length_append]; omega) (by exact z2) ?_; intro v3 w3' O3 G3; have D3 : Below W.heap.size W w3' := E2.grown G3 (by exact z2) (fun k hk => (HO2.out.lt k hk).1); have H3 : Hid (Own w3' W.heap.size v3 _) := O3; clear O3 G3; have cl35 := cell_at D3 x5 (Nat.le_refl _))
  clear HA2 HO2 E2 z2
  have y3 := D3.size
  go_wp2_with fail
  refine (text_own _ T (by have := HRg.out; omega)).mono ?_
  rintro r u3 ⟨t3, rfl, A3, b3⟩
  have E3 : Below W.heap.size W u3 := D3.trans (b3.mono (by omega))
  have HA3 : Hid (RdA u3 t3 _) := Own.rdA A3
  have HO3 : Hid (Own u3 W.heap.size v3 _) := H3.out.below b3 (Nat.le_refl _)
  have z3 : W.heap.size ≤ u3.heap.size := by have := b3.size; omega
  clear A3 b3 cl35 H3 D3 y3
  go_wp2_with (at_builtin; refine wpList_append_rd _ rfl _ _ 22 rfl Try.underlying22 info5 W.heap.size _ _ rfl HO3.out _ _ rfl HA3.out (by have := HL.out; simp only [List.length_append]; omega) (by exact z3) ?_; intro v4 w4' O4 G4; have D4 : Below W.heap.size W w4' := E3.grown G4 (by exact z3) (fun k hk => (HO3.out.lt k hk).1); have H4 : Hid (Own w4' W.heap.size v4 _) := O4; clear O4 G4; have cl46 := cell_at D4 x6 (Nat.le_refl _); have cl47 := cell_at D4 x7 (Nat.le_refl _))
  clear HA3 HO3 E3 z3
  have y4 := D4.size
  obtain ⟨zs, hzs⟩ : ∃ zs, zs = putN C ++ putN Q ++ textN F ++ putN V ++ textN S ++ textN T := ⟨_, rfl⟩
  have HZ : Hid (zs = putN C ++ putN Q ++ textN F ++ putN V ++ textN S ++ textN T ∧ zs.length ≤ 6018) := ⟨hzs, by rw [hzs]; have := HL.out; simp only [List.length_append]; omega⟩
  rw [← hzs] at H4
  clear hzs
  have HS6 : Hid (∀ wx, Below W.heap.size W wx → (wx.cell? ⟨w.heap.size, 6, none⟩ = some (.bool e) ∧ wx.cell? ⟨w.heap.size, 7, none⟩ = some (.bool q)) ∧ Below W.heap.size W wx) := fun wx h => ⟨⟨cell_at h x6 (Nat.le_refl _), cell_at h x7 (Nat.le_refl _)⟩, h⟩
  obtain ⟨x, hx⟩ : ∃ x : Int, x = if e then 1 else 0 := ⟨_, rfl⟩
  obtain ⟨y, hy⟩ : ∃ x : Int, x = if q then 1 else 0 := ⟨_, rfl⟩
  have HE : Hid (∀ wx, Calls Try.prog 88 #[.bool e] wx fun r w' => r = .returned (.int .i64 x) ∧ w' = wx) := fun wx => by rw [hx]; exact flag_any wx e
  have HQ : Hid (∀ wx, Calls Try.prog 88 #[.bool q] wx fun r w' => r = .returned (.int .i64 y) ∧ w' = wx) := fun wx => by rw [hy]; exact flag_any wx q
  have HF : Hid (flagN e q = x + 2 * y) := by unfold Hid flagN; rw [hx, hy]
  have hx0 : 0 ≤ x ∧ x ≤ 1 := by rw [hx]; cases e <;> simp
  have hy0 : 0 ≤ y ∧ y ≤ 1 := by rw [hy]; cases q <;> simp
  have f1 : IntKind.i64.wrap (2 * y) = 2 * y := by rw [IntKind.wrap_i64]; omega
  have f2 : IntKind.i64.wrap (x + 2 * y) = x + 2 * y := by rw [IntKind.wrap_i64]; omega
  have f3 : IntKind.u8.wrap (x + 2 * y) = x + 2 * y := by simp [IntKind.wrap, IntKind.bits, IntKind.signed]; omega
  have f4 : (x + 2 * y) % 256 = x + 2 * y := by omega
  have HXY : Hid (0 ≤ x + 2 * y ∧ x + 2 * y ≤ 255) := ⟨by omega, by omega⟩
  have HD4 : Hid (Below W.heap.size W w4') := D4
  clear hx hy cl46 cl47 x2 x3 x4 x5 x6 x7 D4 hx0 hy0
  go_region_held_law (fun wx => (wx.cell? ⟨w.heap.size, 6, none⟩ = some (.bool e) ∧ wx.cell? ⟨w.heap.size, 7, none⟩ = some (.bool q)) ∧ Below W.heap.size W wx)
    ((refine HS6.out _ ?_; first | assumption | exact HD4.out | exact HD4.out.drew | exact (HD4.out.alloc y4 _).drew | exact HD4.out.alloc y4 _ | exact (more (Below.refl _ _) _).drew | exact more (Below.refl _ _) _ | exact Below.refl _ _ | exact (Below.refl _ _).drew | exact And.right (by assumption)))
    (first
      | (go_at_call 88; with_reducible (refine (HE.out _).mono ?_); rintro r wf ⟨rfl, rfl⟩)
      | (go_at_call 88; with_reducible (refine (HQ.out _).mono ?_); rintro r wf ⟨rfl, rfl⟩)
      | (refine step_append_rd _ rfl _ _ 22 rfl Try.underlying22 info5 W.heap.size _ zs rfl (H4.out.below (by first | exact (more (Below.refl _ _) _).drew | exact more (Below.refl _ _) _ | exact more ((Below.refl _ _).drew) _ | exact more (by assumption) _ | exact more (And.right (by assumption)) _) (Nat.le_refl _)) _ [x + 2 * y] rfl (lit_rdA (by exact new_at (by first | rfl | simp)) HXY.out) (by have := HZ.out.2; simp; omega) (by first | omega | (simp; omega)) ?_
         intro v5 w5 O5 G5
         have D5 : Below W.heap.size W w5 := HD4.out.trans (Below.mono (Below.grown (B := W.heap.size) (by first | exact ((more (Below.refl _ _) _).drew).mono y4 | exact (more (Below.refl _ _) _).mono y4 | exact (more ((Below.refl _ _).drew) _).mono y4 | exact (more (by assumption) _).mono y4) G5 (by first | omega | (simp; omega)) (fun k hk => (H4.out.lt k hk).1)) (Nat.le_refl _))
         have H5 : Hid (Own w5 W.heap.size v5 (zs ++ [x + 2 * y])) := O5
         clear O5 G5))
  all_goals
    have HFin : Hid (Own w5 w.heap.size v5 (jobN C Q F V S T e q) ∧ Below w.heap.size w w5) := by
      refine hide ⟨?_, HEnd.out.trans (D5.mono hs0)⟩
      have h := H5.out
      rw [HZ.out.1, ← HF.out] at h
      have := h.mono hs0
      simpa [jobN] using this
    clear H5 D5
    go_wp2
    go_ret
    refine ⟨v5, ?_, HFin.out⟩
    first | rfl | simp
end Go.Proofs.Ytklkglbimjajnaa.sjob

/- Draws: a row being made while is drawn; bytes, one of some texts. -/
namespace Go.Proofs.Ytklkglbimjajnaa.drb
open Go.ChangeShapes Go.WideShapes Go.ChangeAt Go.RowKit
open Go.Proofs.Ytklkglbimjajnaa.Raft Go.Proofs.Ytklkglbimjajnaa.mem Go.Proofs.Ytklkglbimjajnaa.grp Go.Proofs.Ytklkglbimjajnaa.src
set_option linter.unusedVariables false

theorem info5 : (Try.prog.info? 5).map (fun i => (i.zero, i.size, i.bytes)) = some (some (.int .u8 0), 1, 1) := by kernel_rfl
def u8s (ys : List Int) : List Value := ys.map (Value.int .u8)
/-- What a draw leaves: more is frozen, the source's block and new ones are written. -/
structure Dr (w : World) (M : Fz) (d : Nat) (w' : World) (M' : Fz) : Prop where
  le : Le M M'
  inn : In M' w'
  grown : w.grownBy w' (some d)
  new : ∀ b, M' b ≠ none → M b ≠ none ∨ w.heap.size ≤ b
theorem Dr.trans {w w1 w' : World} {M M1 M' : Fz} {d : Nat} (h : Dr w M d w1 M1) (k : Dr w1 M1 d w' M') : Dr w M d w' M' := ⟨h.le.trans k.le, k.inn, grown_trans h.grown k.grown, fun b hb => by
  rcases k.new b hb with g | g
  · exact h.new b g
  · exact .inr (Nat.le_trans h.grown.size g)⟩
theorem Dr.of {w w' : World} {M : Fz} {d q : Nat} (h : Src w' M d q) (g : w.grownBy w' (some d)) : Dr w M d w' M := ⟨Le.refl _, h.inn, g, fun _ hb => .inl hb⟩
theorem Dr.below {w w1 w' : World} {M M1 : Fz} {d : Nat} (h : Dr w M d w1 M1) (hb : Below w1.heap.size w1 w') : Dr w M d w' M1 := ⟨h.le, h.inn.below hb, grown_trans h.grown (below_grown hb _), h.new⟩
theorem Dr.kept {w w' : World} {M M' : Fz} {d : Nat} (h : Dr w M d w' M') {b : Nat} (hb : M b = none) (hl : b < w.heap.size) : M' b = none := by
  cases e : M' b with
  | none => rfl
  | some o =>
    rcases h.new b (by rw [e]; simp) with g | g
    · exact absurd hb g
    · omega
theorem Src.free {w : World} {M : Fz} {d q : Nat} (h : Src w M d q) : M d = none := by obtain ⟨ao, cap, xs, at_, sd, hs, h1, h2⟩ := h; exact hs.free
/-- A row of the call's own that is being made while is drawn. -/
structure Mk (e sz : Nat) (w : World) (M : Fz) (d q n : Nat) (xs : List Value) (v : Value) (wr : World) (M' : Fz) : Prop where
  row : wr.ownsRow w.heap.size e sz v n xs
  src : Src wr M' d q
  dr : Dr w M d wr M'
  free : ∀ g, v.ownBlock = some g → M' g = none
  lt : d < w.heap.size
section
variable {e sz : Nat} {w wr w1 : World} {M M' M1 : Fz} {d q n : Nat} {xs : List Value} {v : Value}
theorem Mk.ne (h : Mk e sz w M d q n xs v wr M') : ∀ g, v.ownBlock = some g → g ≠ d ∧ g < wr.heap.size ∧ w.heap.size ≤ g := fun g hg => ⟨by have := (row_lt h.row hg).1; have := h.lt; omega, (row_lt h.row hg).2, (row_lt h.row hg).1⟩
theorem Mk.draw (h : Mk e sz w M d q n xs v wr M') {p : Nat} (hs : Src w1 M1 d p) (hd : Dr wr M' d w1 M1) : Mk e sz w M d p n xs v w1 M1 :=
  ⟨row_kept h.row (fun g hg => hd.grown.block g (h.ne g hg).2.1 (fun e => (h.ne g hg).1 (by simpa using e))), hs, h.dr.trans hd, fun g hg => hd.kept (h.free g hg) (h.ne g hg).2.1, h.lt⟩
theorem Mk.below (h : Mk e sz w M d q n xs v wr M') (hb : Below wr.heap.size wr w1) : Mk e sz w M d q n xs v w1 M' :=
  ⟨row_kept h.row (fun g hg => hb.block g (h.ne g hg).2.1), h.src.below hb, h.dr.below hb, h.free, h.lt⟩
theorem Mk.more (h : Mk e sz w M d q n xs v wr M') {p : Nat} (hp : q ≤ p) : Mk e sz w M d p n xs v wr M' := ⟨h.row, h.src.more hp, h.dr, h.free, h.lt⟩
theorem Mk.push (h : Mk e sz w M d q n xs v wr M') {w' : World} {g cap m : Nat} {ys : List Value} (p1 : w'.ownsRow w.heap.size e sz (.slice (some ⟨g, 0, none⟩) m cap) m ys) (p2 : wr.grownBy w' v.ownBlock) (p3 : v.ownBlock = some g ∨ g = wr.heap.size) : Mk e sz w M d q m ys (.slice (some ⟨g, 0, none⟩) m cap) w' M' := by
  have hI : In M' w' := h.dr.inn.grown p2 h.free
  refine ⟨p1, h.src.grown p2 (fun b hb => ⟨(h.ne b hb).1, h.free b hb⟩), ⟨h.dr.le, hI, ?_, h.dr.new⟩, ?_, h.lt⟩
  · exact ⟨p2.os.trans h.dr.grown.os, p2.tape.trans h.dr.grown.tape, p2.output.trans h.dr.grown.output, Nat.le_trans h.dr.grown.size p2.size, fun b hb hbd => (p2.block b (Nat.lt_of_lt_of_le hb h.dr.grown.size) (fun e => by have := (h.ne b e.symm).2.2; omega)).trans (h.dr.grown.block b hb hbd)⟩
  · intro g' hg'
    obtain rfl : g = g' := by simpa [Value.ownBlock] using hg'
    rcases p3 with p3 | p3
    · exact h.free g p3
    · exact h.dr.inn.fresh (by omega)
/-- The row is frozen. -/
theorem Mk.done (h : Mk e sz w M d q n xs v wr M') : ∃ M2, Le M' M2 ∧ RowM M2 v n sz xs ∧ Src wr M2 d q ∧ Dr w M d wr M2 := by
  obtain ⟨M2, q1, q2, q3, q4⟩ := RowM.freeze h.row h.dr.inn h.free
  have hd2 : M2 d = none := by
    cases e : M2 d with
    | none => rfl
    | some o =>
      rcases q4 d (by rw [e]; simp) with g | g
      · exact absurd (drb.Src.free h.src) g
      · exact absurd rfl (h.ne d g).1
  refine ⟨M2, q1, q3, h.src.le q1 q2 hd2, h.dr.le.trans q1, q2, h.dr.grown, fun b hb => ?_⟩
  rcases q4 b hb with g | g
  · exact h.dr.new b g
  · exact .inr (h.ne b g).2.2
end
theorem empty_row (w : World) (e sz : Nat) : (w.alloc (.cells #[] e)).ownsRow w.heap.size e sz (.slice (some ⟨w.heap.size, 0, none⟩) 0 0) 0 [] :=
  ⟨by simp, .inr ⟨w.heap.size, 0, #[], rfl, Nat.le_refl _, heap_alloc_new w _, Nat.le_refl _, by simp [maxLen], by simp, by simp⟩⟩
/-- A new row with nothing in it. -/
theorem Mk.first {w : World} {M : Fz} {d q : Nat} (h : Src w M d q) (e sz : Nat) {X : World} (hX : w.alloc (.cells #[] e) = X) : Mk e sz w M d q 0 [] (.slice (some ⟨w.heap.size, 0, none⟩) 0 0) X M := by
  have bX : Below w.heap.size w X := by rw [← hX]; exact grp.more (Below.refl _ _) _
  refine ⟨by rw [← hX]; exact empty_row w e sz, h.below bX, Dr.of (h.below bX) (below_grown bX _), fun g hg => ?_, h.lt⟩
  obtain rfl : w.heap.size = g := by simpa [Value.ownBlock] using hg
  exact h.inn.fresh (Nat.le_refl _)
/-- Bytes are drawn: their row is frozen. -/
def BytesE (w : World) (M : Fz) (d q : Nat) (e : Ending) (w' : World) : Prop := ∃ (o : Option Addr) (l c : Nat) (ys : List Int) (M' : Fz), e = .returned (.slice o l c) ∧ BytesM M' (.slice o l c) ys ∧ ys.length ≤ 255 ∧ Src w' M' d q ∧ Dr w M d w' M'
def BI (w : World) (M : Fz) (d q k : Nat) (v : Value) (wr : World) : Prop := ∃ ys : List Int, Mk 5 1 w M d (q + 1 + k) k (u8s ys) v wr M ∧ ys.length = k ∧ ∀ y ∈ ys, 0 ≤ y ∧ y ≤ 255
theorem BI.fin {w wr : World} {M : Fz} {d q k : Nat} {so : Option Addr} {sn sc : Nat} (h : BI w M d q k (.slice so sn sc) wr) (hk : k ≤ 255) : BytesE w M d (q + 256) (.returned (.slice so sn sc)) wr := by
  obtain ⟨ys, hm, hl, hy⟩ := h
  obtain ⟨M2, q1, q2, q3, q4⟩ := hm.done
  refine ⟨so, sn, sc, ys, M2, rfl, ⟨by rw [hl]; exact q2, hy⟩, by omega, q3.more (by omega), q4⟩
theorem BI.step {w wr : World} {M : Fz} {d q k : Nat} {so : Option Addr} {sn sc : Nat} (h : BI w M d q k (.slice so sn sc) wr) (hq : q + k ≤ 100000000000) :
    Calls Try.prog 85 #[.pointer (some ⟨d, 0, none⟩), .int .i64 256] wr fun e w1 => ∃ (r : Int) (Y : World), e = .returned (.int .i64 r) ∧ (0 ≤ r ∧ r ≤ 255) ∧ w1.alloc (.cells #[.int .u8 r] 5) = Y ∧
      Hid (∃ zs, Y.ownsRow w.heap.size 5 1 (.slice so sn sc) k zs ∧ (∀ j u, ([.int .u8 r] : List Value)[j]? = some u → Y.cell? ((⟨w1.heap.size, 0, none⟩ : Addr).add j) = some u) ∧ w.heap.size ≤ Y.heap.size ∧
        ∀ g cap w', w'.ownsRow w.heap.size 5 1 (.slice (some ⟨g, 0, none⟩) (k + 1) cap) (k + 1) (zs ++ [.int .u8 r]) → Y.grownBy w' (Value.slice so sn sc).ownBlock → ((Value.slice so sn sc).ownBlock = some g ∨ g = Y.heap.size) → BI w M d q (k + 1) (.slice (some ⟨g, 0, none⟩) (k + 1) cap) w') := by
  obtain ⟨ys, hm, hl, hy⟩ := h
  refine (next_any wr M d _ 256 (by omega) hm.src (by omega)).mono ?_
  rintro e w1 ⟨r, rfl, ⟨r0, _, r1⟩, s1, g1⟩
  obtain ⟨Y, hY⟩ : ∃ Y, w1.alloc (.cells #[.int .u8 r] 5) = Y := ⟨_, rfl⟩
  have bY : Below w1.heap.size w1 Y := by rw [← hY]; exact more (Below.refl _ _) _
  have hB : Y.heap[w1.heap.size]? = some (.cells #[.int .u8 r] 5 (0, 0)) := by rw [← hY]; exact heap_alloc_new w1 _
  have hm1 := (hm.draw s1 (Dr.of s1 g1)).below bY
  refine ⟨r, Y, rfl, ⟨r0, r1⟩, hY, u8s ys, hm1.row, ?_, hm1.dr.grown.size, ?_⟩
  · intro j u hu
    rw [pile.add_at, Nat.zero_add]
    exact cell_of hB (by simpa using hu)
  · intro g cap w' p1 p2 p3
    refine ⟨ys ++ [r], (hm1.push (by simpa [u8s] using p1) p2 p3).more (by omega), by simp [hl], ?_⟩
    intro y hy'
    rcases List.mem_append.1 hy' with h' | h'
    · exact hy y h'
    · rw [List.mem_singleton.1 h']; exact ⟨r0, r1⟩

set_option maxRecDepth 20000 in
set_option maxHeartbeats 1000000 in
theorem bytes_any (w : World) (M : Fz) (d q : Nat) (h : Src w M d q) (hq : q ≤ 10000000000) (n : Int) (h0 : 0 ≤ n) (hn : n ≤ 254) :
    Calls Try.prog 124 #[.pointer (some ⟨d, 0, none⟩), .int .i64 n] w fun e w' => BytesE w M d (q + 256) e w' := by
  obtain ⟨X, hX⟩ : ∃ X, w.alloc (.cells #[] 5) = X := ⟨_, rfl⟩
  have hm := Mk.first h 5 1 hX
  have HN : Hid (∀ m : Int, m ≤ 255 → Calls Try.prog 85 #[.pointer (some ⟨d, 0, none⟩), .int .i64 m] X fun e w1 => ∃ r : Nat, e = .returned (.int .i64 (r : Int)) ∧ r ≤ 255 ∧ Hid (BI w M d q 0 (.slice (some ⟨w.heap.size, 0, none⟩) 0 0) w1)) := fun m hm9 => by
    refine (next_any X M d q m (by omega) hm.src (by omega)).mono ?_
    rintro e w1 ⟨r, rfl, ⟨r0, _, r1⟩, s1, g1⟩
    exact ⟨r.toNat, by rw [Int.toNat_of_nonneg r0], by omega, [], hm.draw s1 (Dr.of s1 g1), rfl, by simp⟩
  obtain ⟨i0, hii, hz0, hz1, hz2⟩ := info_parts info5
  have HI3 : Hid (Try.prog.info? 5 = some i0 ∧ i0.zero = some (.int .u8 0) ∧ i0.size = 1 ∧ i0.bytes = 1) := ⟨hii, hz0, hz1, hz2⟩
  clear hm h hii hz0 hz1 hz2
  go_enter Try.func124, Try.ntmps124
  go_wp2_with (go_at_call 85; refine (HN.out _ (by omega)).mono ?_; rintro e w1 ⟨r, rfl, hr, H1⟩)
  go_loopw [5, 6] (fun v i wr => ∃ (k j : Nat) (so : Option Addr) (sc : Nat), k + j = r ∧ v = .slice so k sc ∧ i = .int .i64 j ∧ Hid (BI w M d q k v wr)) (fun _ i _ => (intOf i).toNat)
  case atStart => exact ⟨0, r, _, _, by omega, rfl, rfl, H1⟩
  case round =>
    clear hX H1 HN
    obtain ⟨k, j, so, sc, hk, rfl, rfl, HR⟩ := hrel
    by_cases hlt : 0 < j
    · have hltI : (0 : Int) < j := by omega
      have HJ := hide (HR.out.step (by omega))
      go_wp2_with (first
        | (go_at_call 85; refine HJ.out.mono ?_; rintro e w2 ⟨b, Y, rfl, ⟨b0, b1⟩, hY, HE⟩; have hcv : b % 256 = b := (by omega))
        | (at_builtin; obtain ⟨ys, y1, y2, y3, y4⟩ := HE.out; refine wpList_append_lies _ rfl _ _ 22 rfl w.heap.size 5 i0 (.int .u8 0) 1 1 Try.underlying22 HI3.out.1 HI3.out.2.1 HI3.out.2.2.1 HI3.out.2.2.2 rfl (by decide) _ k ys rfl y1 ⟨w2.heap.size, 0, none⟩ 1 1 [.int .u8 b] rfl rfl y2 (fun u' hu' => by simp only [List.mem_cons, List.not_mem_nil, or_false] at hu'; rcases hu' with rfl; rfl) (by decide) (by unfold maxLen; omega) (by omega) y3 _ rfl ?_; intro g2 cap2 w3 z1 z2 z3 z4; have HN := hide (y4 g2 cap2 w3 z1 z2 z3); clear z1 z2 z3 z4 y1 y2 y3 y4))
      go_roundw
      case rel => exact ⟨k + 1, j - 1, _, _, by omega, rfl, by go_num, HN⟩
      case measure => simp [intOf]; omega
    · have hlt2 : ¬ (0 : Int) < j := by omega
      go_wp2
      go_ret
      exact HR.out.fin (by omega)
set_option maxHeartbeats 1000000 in
/-- One of some texts. -/
theorem pick_any (w : World) (M : Fz) (d q : Nat) (h : Src w M d q) (hq : q ≤ 10000000000) (b : Nat) (hbd : b ≠ d) (l : List ByteArray) (h1 : 1 ≤ l.length) (h2 : l.length ≤ 256) (hc : ∀ i s, l[i]? = some s → w.cell? ⟨b, i, none⟩ = some (.string s)) (cap : Nat) (hcap : l.length ≤ cap) :
    Calls Try.prog 89 #[.pointer (some ⟨d, 0, none⟩), .slice (some ⟨b, 0, none⟩) l.length cap] w fun e w' => ∃ s, e = .returned (.string s) ∧ s ∈ l ∧ Src w' M d (q + 1) ∧ w.grownBy w' (some d) := by
  have HN : Hid (Calls Try.prog 85 #[.pointer (some ⟨d, 0, none⟩), .int .i64 l.length] w fun e w1 => ∃ (r : Nat) (s : ByteArray), e = .returned (.int .i64 (r : Int)) ∧ (r : Int) < l.length ∧ w1.cell? ⟨b, r, none⟩ = some (.string s) ∧ Hid (s ∈ l ∧ Src w1 M d (q + 1) ∧ w.grownBy w1 (some d))) := by
    refine (next_any w M d q l.length (by omega) h (by omega)).mono ?_
    rintro e w1 ⟨r, rfl, ⟨r0, r2, r1⟩, s1, g1⟩
    have hlt : r.toNat < l.length := by omega
    have hs : l[r.toNat]? = some l[r.toNat] := List.getElem?_eq_getElem hlt
    have hcell := hc _ _ hs
    refine ⟨r.toNat, l[r.toNat], by rw [Int.toNat_of_nonneg r0], by omega, ?_, List.getElem_mem hlt, s1, g1⟩
    rw [World.cell?_of_block (g1.block b (World.block_lt_of_cell? w _ hcell) (fun e => hbd (by simpa using e)))]
    exact hcell
  obtain ⟨L, eL⟩ : ∃ L, l.length = L := ⟨_, rfl⟩
  rw [eL] at HN h1 h2 hcap ⊢
  have hne : (L : Int) ≠ 0 := by omega
  have hneb : ((L : Int) == 0) = false := by simp; omega
  clear h hc
  go_enter Try.func89, Try.ntmps89
  go_wp2_with (go_at_call 85; refine HN.out.mono ?_; rintro e w1 ⟨r, s, rfl, hr, hcl, H1⟩)
  go_ret
  exact ⟨s, rfl, H1.out⟩
end Go.Proofs.Ytklkglbimjajnaa.drb

/- A job is drawn. -/
namespace Go.Proofs.Ytklkglbimjajnaa.jobd
open Go.ChangeShapes Go.WideShapes Go.ChangeAt Go.RowKit
open Go.Proofs.Ytklkglbimjajnaa.Raft Go.Proofs.Ytklkglbimjajnaa.mem Go.Proofs.Ytklkglbimjajnaa.grp Go.Proofs.Ytklkglbimjajnaa.ndw Go.Proofs.Ytklkglbimjajnaa.src Go.Proofs.Ytklkglbimjajnaa.drb
set_option linter.unusedVariables false

def names : List ByteArray := [⟨#[97]⟩, ⟨#[98]⟩, ⟨#[100, 101, 115, 107]⟩]
def scripts : List ByteArray := [⟨#[115, 47, 97, 47, 98, 47, 103]⟩, ⟨#[112]⟩, ⟨#[36, 100]⟩, ⟨#[49, 33, 71, 59, 104, 59, 36, 33, 100]⟩, ⟨#[115, 47]⟩, ⟨#[119, 32, 120]⟩, ⟨#[121, 47, 97, 98, 47, 98, 97, 47]⟩, ⟨#[58, 97, 10, 98, 32, 97]⟩, ⟨#[105, 32, 116, 111, 112]⟩]
def texts : List ByteArray := [⟨#[]⟩, ⟨#[97, 10, 98, 10]⟩, ⟨#[97, 98, 97, 98, 10]⟩]
theorem names_sz : ∀ s ∈ names, s.size ≤ 40 := by
  have h : names.all (fun s => decide (s.size ≤ 40)) = true := by rfl
  intro s hs
  simpa using List.all_eq_true.1 h s hs
theorem scripts_sz : ∀ s ∈ scripts, s.size ≤ 40 := by
  have h : scripts.all (fun s => decide (s.size ≤ 40)) = true := by rfl
  intro s hs
  simpa using List.all_eq_true.1 h s hs
theorem texts_sz : ∀ s ∈ texts, s.size ≤ 40 := by
  have h : texts.all (fun s => decide (s.size ≤ 40)) = true := by rfl
  intro s hs
  simpa using List.all_eq_true.1 h s hs
/-- The way of the draws so far. -/
def Way (W : World) (M : Fz) (d q : Nat) (wx : World) : Prop := Src wx M d q ∧ W.grownBy wx (some d)
theorem Way.next {W wx : World} {M : Fz} {d q : Nat} (h : Way W M d q wx) (hq : q ≤ 1000000000) (n : Int) (h1 : 1 ≤ n) (hn : n ≤ 256) : Calls Try.prog 85 #[.pointer (some ⟨d, 0, none⟩), .int .i64 n] wx fun e w1 => ∃ r : Nat, e = .returned (.int .i64 (r : Int)) ∧ (r : Int) < n ∧ Hid (Way W M d (q + 1) w1 ∧ wx.grownBy w1 (some d)) := by
  refine (next_any wx M d q n hn h.1 (by omega)).mono ?_
  rintro e w1 ⟨r, rfl, ⟨r0, r2, r1⟩, s1, g1⟩
  exact ⟨r.toNat, by rw [Int.toNat_of_nonneg r0], by omega, ⟨s1, grown_trans h.2 g1⟩, g1⟩
theorem Way.chance {W wx : World} {M : Fz} {d q : Nat} (h : Way W M d q wx) (hq : q ≤ 1000000000) (n : Int) (h1 : 1 ≤ n) (hn : n ≤ 256) : Calls Try.prog 41 #[.pointer (some ⟨d, 0, none⟩), .int .i64 n] wx fun e w1 => ∃ r : Bool, e = .returned (.bool r) ∧ Hid (Way W M d (q + 1) w1 ∧ wx.grownBy w1 (some d)) := by
  refine (chance_any wx M d q n h1 hn h.1 (by omega)).mono ?_
  rintro e w1 ⟨r, rfl, s1, g1⟩
  exact ⟨r, rfl, ⟨s1, grown_trans h.2 g1⟩, g1⟩
theorem Way.below {W wx w1 : World} {M : Fz} {d q : Nat} (h : Way W M d q wx) (hb : Below wx.heap.size wx w1) : Way W M d q w1 := ⟨h.1.below hb, grown_trans h.2 (below_grown hb _)⟩
theorem Way.pick {W wx X : World} {M : Fz} {d q : Nat} (h : Way W M d q wx) (hq : q ≤ 1000000000) (l : List ByteArray) (h1 : 1 ≤ l.length) (h2 : l.length ≤ 256) {cur : Array Value} (hX : wx.alloc (.cells cur 9) = X) (hc : cur.toList = l.map Value.string) : Calls Try.prog 89 #[.pointer (some ⟨d, 0, none⟩), .slice (some ⟨wx.heap.size, 0, none⟩) l.length l.length] X fun e w1 => ∃ s, e = .returned (.string s) ∧ Hid (s ∈ l ∧ Way W M d (q + 1) w1 ∧ wx.grownBy w1 (some d)) := by
  have bX : Below wx.heap.size wx X := by rw [← hX]; exact grp.more (Below.refl _ _) _
  have hB : X.heap[wx.heap.size]? = some (.cells cur 9 (0, 0)) := by rw [← hX]; exact heap_alloc_new wx _
  have hlt := h.1.lt
  refine (pick_any X M d q (h.1.below bX) (by omega) wx.heap.size (by omega) l h1 h2 (fun i s hs => cell_of hB ?_) l.length (Nat.le_refl _)).mono ?_
  · rw [← Array.getElem?_toList, hc, List.getElem?_map, hs]; rfl
  · rintro e w1 ⟨s, rfl, hs, s1, g1⟩
    exact ⟨s, rfl, hs, ⟨s1, grown_trans (h.below bX).2 g1⟩, grown_trans (below_grown bX _) g1⟩
theorem blk_way {wx w1 : World} {d b : Nat} {o : Obj} (g : wx.grownBy w1 (some d)) (h : wx.heap[b]? = some o) (hb : b ≠ d) : w1.heap[b]? = some o := (g.block b (Array.getElem?_eq_some_iff.1 h).1 (fun e => hb (by simpa using e))).trans h
theorem set_way {W wx : World} {M : Fz} {d q : Nat} (h : Way W M d q wx) {b : Nat} (hb : W.heap.size ≤ b) (hd : d < W.heap.size) (hM : M b = none) (i : Nat) (u : Value) : Way W M d q (wx.setCell ⟨b, i, none⟩ u) := by
  have g : wx.grownBy (wx.setCell ⟨b, i, none⟩ u) (some b) := set_grown _ _ _ _
  refine ⟨h.1.grown g (fun x hx => by simp only [Option.some.injEq] at hx; subst hx; exact ⟨by omega, hM⟩), ⟨h.2.os, h.2.tape, h.2.output, by rw [World.size_setCell]; exact h.2.size, fun k hk hr => ?_⟩⟩
  exact (Below.heap_setCell wx ⟨b, i, none⟩ u k (show k ≠ b by omega)).trans (h.2.block k hk hr)
/-- A job. -/
def JobE (w : World) (M : Fz) (d q : Nat) (e : Ending) (w' : World) : Prop := ∃ (C Q V : Nat) (F S T : ByteArray) (ee qq : Bool), e = .returned (.agg #[.int .i64 (C : Int), .int .i64 (Q : Int), .string F, .int .i64 (V : Int), .string S, .string T, .bool ee, .bool qq]) ∧ jhelp.jobB C Q F.size V S.size T.size = true ∧ Src w' M d q ∧ w.grownBy w' (some d)

set_option maxRecDepth 20000 in
set_option maxHeartbeats 2000000 in
theorem job_any (w : World) (M : Fz) (d q : Nat) (h : Src w M d q) (hq : q ≤ 100000000) :
    Calls Try.prog 43 #[.pointer (some ⟨d, 0, none⟩)] w fun e w' => JobE w M d (q + 10) e w' := by
  obtain ⟨W, hW⟩ : ∃ W, w.alloc (.cells #[.int .i64 0, .int .i64 0, .string ⟨#[]⟩, .int .i64 0, .string ⟨#[]⟩, .string ⟨#[]⟩, .bool false, .bool false] 94) = W := ⟨_, rfl⟩
  have bW : Below w.heap.size w W := by rw [← hW]; exact grp.more (Below.refl _ _) _
  have sW : W.heap.size = w.heap.size + 1 := by rw [← hW]; exact World.size_alloc ..
  have hZ : W.heap[w.heap.size]? = some (.cells #[.int .i64 0, .int .i64 0, .string ⟨#[]⟩, .int .i64 0, .string ⟨#[]⟩, .string ⟨#[]⟩, .bool false, .bool false] 94 (0, 0)) := by rw [← hW]; exact heap_alloc_new w _
  have hdl := h.lt
  have K0 : Way W M d q W := ⟨h.below bW, below_grown (Below.refl _ _) _⟩
  have HMF : Hid (∀ b, w.heap.size ≤ b → M b = none) := fun b hb => h.inn.fresh hb
  have HC0 := hide (K0.next (by omega) 3 (by omega) (by omega))
  clear h
  go_enter Try.func43, Try.ntmps43
  go_wp2_with fail
  refine HC0.out.mono ?_
  rintro e w1 ⟨r1, rfl, l1, H1⟩
  have k1 := H1.out.1
  have HC1 := hide (k1.next (by omega) 4 (by omega) (by omega))
  have a1 : IntKind.i64.wrap (1 + (r1 : Int)) = 1 + (r1 : Int) := by rw [IntKind.wrap_i64]; omega
  clear HC0 H1
  have HK1 := hide k1
  clear k1
  go_wp2_with fail
  refine HC1.out.mono ?_
  rintro e w2 ⟨r2, rfl, l2, H2⟩
  have k2 := H2.out.1
  obtain ⟨X1, hX1⟩ : ∃ X, w2.alloc (.cells #[.string ⟨#[97]⟩, .string ⟨#[98]⟩, .string ⟨#[100, 101, 115, 107]⟩] 9) = X := ⟨_, rfl⟩
  have HC2 := hide (k2.pick (by omega) names (by decide) (by decide) hX1 rfl)
  have a2 : IntKind.i64.wrap (1 + (r2 : Int)) = 1 + (r2 : Int) := by rw [IntKind.wrap_i64]; omega
  clear HC1 H2 HK1 k2
  go_wp2_with fail
  refine HC2.out.mono ?_
  rintro e w3 ⟨F, rfl, H3⟩
  have HF := hide (names_sz F H3.out.1)
  have k3 := H3.out.2.1
  have HC3 := hide (k3.next (by omega) 3 (by omega) (by omega))
  clear HC2 H3 hX1 k3
  go_wp2_with fail
  refine HC3.out.mono ?_
  rintro e w4 ⟨r3, rfl, l3, H4⟩
  have k4 := H4.out.1
  obtain ⟨X2, hX2⟩ : ∃ X, w4.alloc (.cells #[.string ⟨#[115, 47, 97, 47, 98, 47, 103]⟩, .string ⟨#[112]⟩, .string ⟨#[36, 100]⟩, .string ⟨#[49, 33, 71, 59, 104, 59, 36, 33, 100]⟩, .string ⟨#[115, 47]⟩, .string ⟨#[119, 32, 120]⟩, .string ⟨#[121, 47, 97, 98, 47, 98, 97, 47]⟩, .string ⟨#[58, 97, 10, 98, 32, 97]⟩, .string ⟨#[105, 32, 116, 111, 112]⟩] 9) = X := ⟨_, rfl⟩
  have HC4 := hide (k4.pick (by omega) scripts (by decide) (by decide) hX2 rfl)
  clear HC3 H4 k4
  go_wp2_with fail
  refine HC4.out.mono ?_
  rintro e w5 ⟨S, rfl, H5⟩
  have HSz := hide (scripts_sz S H5.out.1)
  have k5 := H5.out.2.1
  clear HC4 H5 hX2
  have s5 : W.heap.size ≤ w5.heap.size := k5.2.size
  have hZ5 := blk_way k5.2 hZ (by omega)
  obtain ⟨B, hB⟩ : ∃ B, w5.alloc (.cells #[.int .i64 (1 + (r1 : Int)), .int .i64 (1 + (r2 : Int)), .string F, .int .i64 (r3 : Int), .string S, .string ⟨#[]⟩, .bool false, .bool false] 94) = B := ⟨_, rfl⟩
  have bB : Below w5.heap.size w5 B := by rw [← hB]; exact grp.more (Below.refl _ _) _
  have hbj : B.heap[w5.heap.size]? = some (.cells #[.int .i64 (1 + (r1 : Int)), .int .i64 (1 + (r2 : Int)), .string F, .int .i64 (r3 : Int), .string S, .string ⟨#[]⟩, .bool false, .bool false] 94 (0, 0)) := by rw [← hB]; exact heap_alloc_new w5 _
  have kB := k5.below bB
  have hZB : B.heap[w.heap.size]? = some (.cells #[.int .i64 0, .int .i64 0, .string ⟨#[]⟩, .int .i64 0, .string ⟨#[]⟩, .string ⟨#[]⟩, .bool false, .bool false] 94 (0, 0)) := (bB.block _ (by omega)).trans hZ5
  have HBq := hide hB
  clear hB
  go_upto_region 2 with fail
  rw [HBq.out]
  have hB := HBq.out
  clear HBq
  obtain ⟨bj, ebj⟩ : ∃ bj, w5.heap.size = bj := ⟨_, rfl⟩
  rw [ebj] at hbj
  rw [ebj]
  have hbl : W.heap.size ≤ bj := by omega
  have hMb : M bj = none := HMF.out bj (by omega)
  have HX : Hid (∀ (T : ByteArray) wx qx, T.size ≤ 40 → qx ≤ q + 8 → Way W M d qx wx → wx.heap[bj]? = some (.cells #[.int .i64 (1 + (r1 : Int)), .int .i64 (1 + (r2 : Int)), .string F, .int .i64 (r3 : Int), .string S, .string T, .bool false, .bool false] 94 (0, 0)) → wx.heap[w.heap.size]? = some (.cells #[.int .i64 0, .int .i64 0, .string ⟨#[]⟩, .int .i64 0, .string ⟨#[]⟩, .string ⟨#[]⟩, .bool false, .bool false] 94 (0, 0)) →
      Calls Try.prog 41 #[.pointer (some ⟨d, 0, none⟩), .int .i64 5] wx fun e w7 => ∃ (ee : Bool) (Y : World), e = .returned (.bool ee) ∧ w7.setCell ⟨bj, 6, none⟩ (.bool ee) = Y ∧ (w7.cell? ⟨bj, 6, none⟩ = some (.bool false) ∧ w7.frozen? ⟨bj, 6, none⟩ = false) ∧
        Hid (Calls Try.prog 41 #[.pointer (some ⟨d, 0, none⟩), .int .i64 5] Y fun e w8 => ∃ (qq : Bool) (V : World), e = .returned (.bool qq) ∧ w8.setCell ⟨bj, 7, none⟩ (.bool qq) = V ∧ (w8.cell? ⟨bj, 7, none⟩ = some (.bool false) ∧ w8.frozen? ⟨bj, 7, none⟩ = false) ∧
          Hid (V.heap[bj]? = some (.cells #[.int .i64 (1 + (r1 : Int)), .int .i64 (1 + (r2 : Int)), .string F, .int .i64 (r3 : Int), .string S, .string T, .bool ee, .bool qq] 94 (0, 0)) ∧ V.heap[w.heap.size]? = some (.cells #[.int .i64 0, .int .i64 0, .string ⟨#[]⟩, .int .i64 0, .string ⟨#[]⟩, .string ⟨#[]⟩, .bool false, .bool false] 94 (0, 0)) ∧ JobE w M d (q + 10) (.returned (.agg #[.int .i64 (1 + (r1 : Int)), .int .i64 (1 + (r2 : Int)), .string F, .int .i64 (r3 : Int), .string S, .string T, .bool ee, .bool qq])) (sets V w.heap.size [(0, .int .i64 (1 + (r1 : Int))), (1, .int .i64 (1 + (r2 : Int))), (2, .string F), (3, .int .i64 (r3 : Int)), (4, .string S), (5, .string T), (6, .bool ee), (7, .bool qq)])))) := fun T wx qx hT hqx kx hb1 hz1 => by
    refine (kx.chance (by omega) 5 (by omega) (by omega)).mono ?_
    rintro e w7 ⟨ee, rfl, H7⟩
    obtain ⟨k7, g7⟩ := H7.out
    have hb7 := blk_way g7 hb1 (by omega)
    have hz7 := blk_way g7 hz1 (by omega)
    obtain ⟨Y, hY⟩ : ∃ Y, w7.setCell ⟨bj, 6, none⟩ (.bool ee) = Y := ⟨_, rfl⟩
    have kY : Way W M d (qx + 1) Y := by rw [← hY]; exact set_way k7 hbl (by omega) hMb 6 _
    have hbY : Y.heap[bj]? = some (.cells #[.int .i64 (1 + (r1 : Int)), .int .i64 (1 + (r2 : Int)), .string F, .int .i64 (r3 : Int), .string S, .string T, .bool ee, .bool false] 94 (0, 0)) := by rw [← hY]; exact set_at hb7 6 _ rfl
    have hzY : Y.heap[w.heap.size]? = some (.cells #[.int .i64 0, .int .i64 0, .string ⟨#[]⟩, .int .i64 0, .string ⟨#[]⟩, .string ⟨#[]⟩, .bool false, .bool false] 94 (0, 0)) := by rw [← hY]; exact (Below.heap_setCell w7 ⟨bj, 6, none⟩ _ _ (show w.heap.size ≠ bj by omega)).trans hz7
    refine ⟨ee, Y, rfl, hY, ⟨cell_of hb7 rfl, frozen_of hb7 6⟩, ?_⟩
    refine (kY.chance (by omega) 5 (by omega) (by omega)).mono ?_
    rintro e w8 ⟨qq, rfl, H8⟩
    obtain ⟨k8, g8⟩ := H8.out
    have hb8 := blk_way g8 hbY (by omega)
    have hz8 := blk_way g8 hzY (by omega)
    obtain ⟨V, hV⟩ : ∃ V, w8.setCell ⟨bj, 7, none⟩ (.bool qq) = V := ⟨_, rfl⟩
    have kV : Way W M d (qx + 2) V := by rw [← hV]; exact set_way k8 hbl (by omega) hMb 7 _
    have hbV : V.heap[bj]? = some (.cells #[.int .i64 (1 + (r1 : Int)), .int .i64 (1 + (r2 : Int)), .string F, .int .i64 (r3 : Int), .string S, .string T, .bool ee, .bool qq] 94 (0, 0)) := by rw [← hV]; exact set_at hb8 7 _ rfl
    have hzV : V.heap[w.heap.size]? = some (.cells #[.int .i64 0, .int .i64 0, .string ⟨#[]⟩, .int .i64 0, .string ⟨#[]⟩, .string ⟨#[]⟩, .bool false, .bool false] 94 (0, 0)) := by rw [← hV]; exact (Below.heap_setCell w8 ⟨bj, 7, none⟩ _ _ (show w.heap.size ≠ bj by omega)).trans hz8
    refine ⟨qq, V, rfl, hV, ⟨cell_of hb8 rfl, frozen_of hb8 7⟩, hbV, hzV, 1 + r1, 1 + r2, r3, F, S, T, ee, qq, by simp, ?_, ?_, ?_⟩
    · have := HF.out; have := HSz.out
      simp [jhelp.jobB, jhelp.inT]
      omega
    · have : Src V M d (q + 10) := kV.1.more (by omega)
      refine Src.grown (row := some w.heap.size) this ⟨?_, ?_, ?_, ?_, fun k hk hr => sets_ne _ V (fun e => hr (by rw [e]))⟩ (fun x hx => ?_)
      · simp [sets, World.setCell]
      · simp [sets, World.setCell]
      · simp [sets, World.setCell]
      · simp [sets]
      · simp only [Option.some.injEq] at hx
        subst hx
        exact ⟨by omega, HMF.out _ (Nat.le_refl _)⟩
    · have g9 : w.grownBy V (some d) := grown_trans (below_grown bW _) kV.2
      refine ⟨?_, ?_, ?_, ?_, fun k hk hr => (sets_ne _ V (by omega)).trans (g9.block k hk hr)⟩
      · rw [← g9.os]; simp [sets, World.setCell]
      · rw [← g9.tape]; simp [sets, World.setCell]
      · rw [← g9.output]; simp [sets, World.setCell]
      · have := g9.size; simp [sets]; omega
  have c3 := cell_of (i := 3) hbj (v := .int .i64 (r3 : Int)) rfl
  have hwb : w.heap.size < bj := by omega
  have hdW : d < W.heap.size := by omega
  clear HMF hZ k5 hZ5 s5 sW
  obtain ⟨X3, hX3⟩ : ∃ X, B.alloc (.cells #[.string ⟨#[]⟩, .string ⟨#[97, 10, 98, 10]⟩, .string ⟨#[97, 98, 97, 98, 10]⟩] 9) = X := ⟨_, rfl⟩
  have HSB : Hid (B.heap.size = bj + 1) := by unfold Hid; rw [← hB, World.size_alloc, ebj]
  clear hB ebj hW bW
  by_cases h0 : r3 = 0
  · have h0I : ((r3 : Int) == 0) = true := by simp; omega
    have HC6 := hide (kB.pick (by omega) texts (by decide) (by decide) hX3 rfl)
    have HB9 := hide (And.intro hbj hZB)
    clear kB hbj hZB h0
    go_wp2_with fail
    refine HC6.out.mono ?_
    rintro e w6 ⟨T, rfl, H6⟩
    have hT := texts_sz T H6.out.1
    obtain ⟨k6, g6⟩ := H6.out.2
    have hb6 := blk_way g6 HB9.out.1 (by omega)
    have hz6 := blk_way g6 HB9.out.2 (by omega)
    have y5 := cell_of (i := 5) hb6 (v := .string ⟨#[]⟩) rfl
    have yf5 := frozen_of hb6 5
    obtain ⟨U, hU⟩ : ∃ U, w6.setCell ⟨bj, 5, none⟩ (.string T) = U := ⟨_, rfl⟩
    have kU := set_way k6 hbl (by omega) hMb 5 (.string T)
    have hbU := set_at hb6 5 (.string T) rfl
    have hzU := (Below.heap_setCell w6 ⟨bj, 5, none⟩ (.string T) w.heap.size (show w.heap.size ≠ bj by omega)).trans hz6
    rw [hU] at kU hbU hzU
    have HE1 := hide (HX.out T U _ hT (by omega) kU hbU hzU)
    clear H6 k6 g6 hb6 hz6 kU hbU hzU hT
    go_wp2_with (first
      | (go_at_call 41; with_reducible (refine HE1.out.mono ?_); rintro e w7 ⟨ee, Y, rfl, hY, ⟨y6, yf6⟩, HE2⟩)
      | (go_at_call 41; with_reducible (refine HE2.out.mono ?_); rintro e w8 ⟨qq, V, rfl, hV, ⟨y7, yf7⟩, HE3⟩; have g0 := cell_of (i := 0) HE3.out.1 (v := .int .i64 (1 + (r1 : Int))) rfl; have g1 := cell_of (i := 1) HE3.out.1 (v := .int .i64 (1 + (r2 : Int))) rfl; have g2 := cell_of (i := 2) HE3.out.1 (v := .string F) rfl; have g3 := cell_of (i := 3) HE3.out.1 (v := .int .i64 (r3 : Int)) rfl; have g4 := cell_of (i := 4) HE3.out.1 (v := .string S) rfl; have g5 := cell_of (i := 5) HE3.out.1 (v := .string T) rfl; have g6 := cell_of (i := 6) HE3.out.1 (v := .bool ee) rfl; have g7 := cell_of (i := 7) HE3.out.1 (v := .bool qq) rfl; have z0 := cell_of (i := 0) HE3.out.2.1 (v := .int .i64 0) rfl; have z1 := cell_of (i := 1) HE3.out.2.1 (v := .int .i64 0) rfl; have z2 := cell_of (i := 2) HE3.out.2.1 (v := .string ⟨#[]⟩) rfl; have z3 := cell_of (i := 3) HE3.out.2.1 (v := .int .i64 0) rfl; have z4 := cell_of (i := 4) HE3.out.2.1 (v := .string ⟨#[]⟩) rfl; have z5 := cell_of (i := 5) HE3.out.2.1 (v := .string ⟨#[]⟩) rfl; have z6 := cell_of (i := 6) HE3.out.2.1 (v := .bool false) rfl; have z7 := cell_of (i := 7) HE3.out.2.1 (v := .bool false) rfl; have f0 := frozen_of HE3.out.2.1 0; have f1 := frozen_of HE3.out.2.1 1; have f2 := frozen_of HE3.out.2.1 2; have f3 := frozen_of HE3.out.2.1 3; have f4 := frozen_of HE3.out.2.1 4; have f5 := frozen_of HE3.out.2.1 5; have f6 := frozen_of HE3.out.2.1 6; have f7 := frozen_of HE3.out.2.1 7))
    obtain ⟨WF, hWF⟩ : ∃ WF, sets V w.heap.size [(0, .int .i64 (1 + (r1 : Int))), (1, .int .i64 (1 + (r2 : Int))), (2, .string F), (3, .int .i64 (r3 : Int)), (4, .string S), (5, .string T), (6, .bool ee), (7, .bool qq)] = WF := ⟨_, rfl⟩
    have hblk : WF.heap[w.heap.size]? = some (.cells #[.int .i64 (1 + (r1 : Int)), .int .i64 (1 + (r2 : Int)), .string F, .int .i64 (r3 : Int), .string S, .string T, .bool ee, .bool qq] 94 (0, 0)) := by
      rw [← hWF]
      have q2 := sets_at [(0, .int .i64 (1 + (r1 : Int))), (1, .int .i64 (1 + (r2 : Int))), (2, .string F), (3, .int .i64 (r3 : Int)), (4, .string S), (5, .string T), (6, .bool ee), (7, .bool qq)] HE3.out.2.1
      have e : setsA #[.int .i64 0, .int .i64 0, .string ⟨#[]⟩, .int .i64 0, .string ⟨#[]⟩, .string ⟨#[]⟩, .bool false, .bool false] [(0, .int .i64 (1 + (r1 : Int))), (1, .int .i64 (1 + (r2 : Int))), (2, .string F), (3, .int .i64 (r3 : Int)), (4, .string S), (5, .string T), (6, .bool ee), (7, .bool qq)] = #[.int .i64 (1 + (r1 : Int)), .int .i64 (1 + (r2 : Int)), .string F, .int .i64 (r3 : Int), .string S, .string T, .bool ee, .bool qq] := by simp [setsA]
      rw [e] at q2
      exact q2
    have k0 := cell_of (i := 0) hblk (v := .int .i64 (1 + (r1 : Int))) rfl
    have k1 := cell_of (i := 1) hblk (v := .int .i64 (1 + (r2 : Int))) rfl
    have k2 := cell_of (i := 2) hblk (v := .string F) rfl
    have k3 := cell_of (i := 3) hblk (v := .int .i64 (r3 : Int)) rfl
    have k4 := cell_of (i := 4) hblk (v := .string S) rfl
    have k5 := cell_of (i := 5) hblk (v := .string T) rfl
    have k6 := cell_of (i := 6) hblk (v := .bool ee) rfl
    have k7 := cell_of (i := 7) hblk (v := .bool qq) rfl
    have HT2 := HE3.out.2.2
    rw [hWF] at HT2
    simp only [sets] at hWF
    rw [hWF]
    refine bodyPost_ret (v := .agg #[.int .i64 (1 + (r1 : Int)), .int .i64 (1 + (r2 : Int)), .string F, .int .i64 (r3 : Int), .string S, .string T, .bool ee, .bool qq]) ?_ rfl HT2
    simp [results, Try.results43, go_sem, k0, k1, k2, k3, k4, k5, k6, k7]
  · have h0I : ((r3 : Int) == 0) = false := by simp; omega
    have HE1 := hide (HX.out ⟨#[]⟩ B _ (by decide) (by omega) kB hbj hZB)
    clear kB hbj hZB h0 hX3 HSB
    go_wp2_with (first
      | (go_at_call 41; with_reducible (refine HE1.out.mono ?_); rintro e w7 ⟨ee, Y, rfl, hY, ⟨y6, yf6⟩, HE2⟩)
      | (go_at_call 41; with_reducible (refine HE2.out.mono ?_); rintro e w8 ⟨qq, V, rfl, hV, ⟨y7, yf7⟩, HE3⟩; have g0 := cell_of (i := 0) HE3.out.1 (v := .int .i64 (1 + (r1 : Int))) rfl; have g1 := cell_of (i := 1) HE3.out.1 (v := .int .i64 (1 + (r2 : Int))) rfl; have g2 := cell_of (i := 2) HE3.out.1 (v := .string F) rfl; have g3 := cell_of (i := 3) HE3.out.1 (v := .int .i64 (r3 : Int)) rfl; have g4 := cell_of (i := 4) HE3.out.1 (v := .string S) rfl; have g5 := cell_of (i := 5) HE3.out.1 (v := .string ⟨#[]⟩) rfl; have g6 := cell_of (i := 6) HE3.out.1 (v := .bool ee) rfl; have g7 := cell_of (i := 7) HE3.out.1 (v := .bool qq) rfl; have z0 := cell_of (i := 0) HE3.out.2.1 (v := .int .i64 0) rfl; have z1 := cell_of (i := 1) HE3.out.2.1 (v := .int .i64 0) rfl; have z2 := cell_of (i := 2) HE3.out.2.1 (v := .string ⟨#[]⟩) rfl; have z3 := cell_of (i := 3) HE3.out.2.1 (v := .int .i64 0) rfl; have z4 := cell_of (i := 4) HE3.out.2.1 (v := .string ⟨#[]⟩) rfl; have z5 := cell_of (i := 5) HE3.out.2.1 (v := .string ⟨#[]⟩) rfl; have z6 := cell_of (i := 6) HE3.out.2.1 (v := .bool false) rfl; have z7 := cell_of (i := 7) HE3.out.2.1 (v := .bool false) rfl; have f0 := frozen_of HE3.out.2.1 0; have f1 := frozen_of HE3.out.2.1 1; have f2 := frozen_of HE3.out.2.1 2; have f3 := frozen_of HE3.out.2.1 3; have f4 := frozen_of HE3.out.2.1 4; have f5 := frozen_of HE3.out.2.1 5; have f6 := frozen_of HE3.out.2.1 6; have f7 := frozen_of HE3.out.2.1 7))
    obtain ⟨WF, hWF⟩ : ∃ WF, sets V w.heap.size [(0, .int .i64 (1 + (r1 : Int))), (1, .int .i64 (1 + (r2 : Int))), (2, .string F), (3, .int .i64 (r3 : Int)), (4, .string S), (5, .string ⟨#[]⟩), (6, .bool ee), (7, .bool qq)] = WF := ⟨_, rfl⟩
    have hblk : WF.heap[w.heap.size]? = some (.cells #[.int .i64 (1 + (r1 : Int)), .int .i64 (1 + (r2 : Int)), .string F, .int .i64 (r3 : Int), .string S, .string ⟨#[]⟩, .bool ee, .bool qq] 94 (0, 0)) := by
      rw [← hWF]
      have q2 := sets_at [(0, .int .i64 (1 + (r1 : Int))), (1, .int .i64 (1 + (r2 : Int))), (2, .string F), (3, .int .i64 (r3 : Int)), (4, .string S), (5, .string ⟨#[]⟩), (6, .bool ee), (7, .bool qq)] HE3.out.2.1
      have e : setsA #[.int .i64 0, .int .i64 0, .string ⟨#[]⟩, .int .i64 0, .string ⟨#[]⟩, .string ⟨#[]⟩, .bool false, .bool false] [(0, .int .i64 (1 + (r1 : Int))), (1, .int .i64 (1 + (r2 : Int))), (2, .string F), (3, .int .i64 (r3 : Int)), (4, .string S), (5, .string ⟨#[]⟩), (6, .bool ee), (7, .bool qq)] = #[.int .i64 (1 + (r1 : Int)), .int .i64 (1 + (r2 : Int)), .string F, .int .i64 (r3 : Int), .string S, .string ⟨#[]⟩, .bool ee, .bool qq] := by simp [setsA]
      rw [e] at q2
      exact q2
    have k0 := cell_of (i := 0) hblk (v := .int .i64 (1 + (r1 : Int))) rfl
    have k1 := cell_of (i := 1) hblk (v := .int .i64 (1 + (r2 : Int))) rfl
    have k2 := cell_of (i := 2) hblk (v := .string F) rfl
    have k3 := cell_of (i := 3) hblk (v := .int .i64 (r3 : Int)) rfl
    have k4 := cell_of (i := 4) hblk (v := .string S) rfl
    have k5 := cell_of (i := 5) hblk (v := .string ⟨#[]⟩) rfl
    have k6 := cell_of (i := 6) hblk (v := .bool ee) rfl
    have k7 := cell_of (i := 7) hblk (v := .bool qq) rfl
    have HT2 := HE3.out.2.2
    rw [hWF] at HT2
    simp only [sets] at hWF
    rw [hWF]
    refine bodyPost_ret (v := .agg #[.int .i64 (1 + (r1 : Int)), .int .i64 (1 + (r2 : Int)), .string F, .int .i64 (r3 : Int), .string S, .string ⟨#[]⟩, .bool ee, .bool qq]) ?_ rfl HT2
    simp [results, Try.results43, go_sem, k0, k1, k2, k3, k4, k5, k6, k7]
end Go.Proofs.Ytklkglbimjajnaa.jobd

namespace Go.Proofs.Ytklkglbimjajnaa.evd
open Go.ChangeShapes Go.WideShapes Go.ChangeAt Go.RowKit
open Go.Proofs.Ytklkglbimjajnaa.Raft Go.Proofs.Ytklkglbimjajnaa.mem Go.Proofs.Ytklkglbimjajnaa.grp Go.Proofs.Ytklkglbimjajnaa.ndw Go.Proofs.Ytklkglbimjajnaa.src Go.Proofs.Ytklkglbimjajnaa.drb Go.Proofs.Ytklkglbimjajnaa.crun
set_option linter.unusedVariables false

theorem info58 : (Try.prog.info? 58).map (fun i => (i.zero, i.size, i.bytes)) = some (some (.agg #[.int .i64 0, .int .i64 0, .slice none 0 0]), 3, 40) := by kernel_rfl
theorem bytesM_nil (M : Fz) : BytesM M (.slice none 0 0) [] := ⟨RowM.nil _ _, by simp⟩
/-- A row of events that is being drawn, and data that are to come into it. -/
def EP (w : World) (M : Fz) (d q n : Nat) (v dv : Value) (wr : World) : Prop := ∃ (us : List EV) (M' : Fz) (ys : List Int), us.length = n ∧ Mk 58 3 w M d q n (us.flatMap evCells) v wr M' ∧ (∀ x ∈ us, BytesM M' x.dv x.e.data) ∧ BytesM M' dv ys
/-- A row of events that is being drawn. -/
def EI (w : World) (M : Fz) (d q n : Nat) (v : Value) (wr : World) : Prop := EP w M d q n v (.slice none 0 0) wr
section
variable {w wr w1 : World} {M : Fz} {d q n : Nat} {v dv : Value}
theorem EP.draw (h : EP w M d q n v dv wr) {p : Nat} (hs : ∀ M', Src wr M' d q → Src w1 M' d p) (g : wr.grownBy w1 (some d)) : EP w M d p n v dv w1 := by
  obtain ⟨us, M', ys, hl, hm, hd, hy⟩ := h
  have s1 := hs M' hm.src
  exact ⟨us, M', ys, hl, hm.draw s1 (Dr.of s1 g), hd, hy⟩
theorem EP.below (h : EP w M d q n v dv wr) (hb : Below wr.heap.size wr w1) : EP w M d q n v dv w1 := by
  obtain ⟨us, M', ys, hl, hm, hd, hy⟩ := h
  exact ⟨us, M', ys, hl, hm.below hb, hd, hy⟩
theorem EP.more (h : EP w M d q n v dv wr) {p : Nat} (hp : q ≤ p) : EP w M d p n v dv wr := by
  obtain ⟨us, M', ys, hl, hm, hd, hy⟩ := h
  exact ⟨us, M', ys, hl, hm.more hp, hd, hy⟩
theorem EP.plain (h : EP w M d q n v dv wr) : EI w M d q n v wr := by
  obtain ⟨us, M', ys, hl, hm, hd, hy⟩ := h
  exact ⟨us, M', [], hl, hm, hd, bytesM_nil _⟩
theorem EP.size (h : EP w M d q n v dv wr) : w.heap.size ≤ wr.heap.size := by obtain ⟨us, M', ys, hl, hm, hd, hy⟩ := h; exact hm.dr.grown.size
theorem EP.next (h : EP w M d q n v dv wr) (hq : q ≤ 1000000000) (m : Int) (hm : m ≤ 256) : Calls Try.prog 85 #[.pointer (some ⟨d, 0, none⟩), .int .i64 m] wr fun e w1 => ∃ r : Nat, e = .returned (.int .i64 (r : Int)) ∧ ((r : Int) < m ∨ r = 0) ∧ wr.grownBy w1 (some d) ∧ Hid (EP w M d (q + 1) n v dv w1) := by
  obtain ⟨us, M', ys, hl, hk, hd, hy⟩ := h
  refine (next_any wr M' d q m hm hk.src (by omega)).mono ?_
  rintro e w1 ⟨r, rfl, ⟨r0, r2, r1⟩, s1, g1⟩
  exact ⟨r.toNat, by rw [Int.toNat_of_nonneg r0], by omega, g1, us, M', ys, hl, hk.draw s1 (Dr.of s1 g1), hd, hy⟩
theorem EP.chance (h : EP w M d q n v dv wr) (hq : q ≤ 1000000000) (m : Int) (h1 : 1 ≤ m) (hm : m ≤ 256) : Calls Try.prog 41 #[.pointer (some ⟨d, 0, none⟩), .int .i64 m] wr fun e w1 => ∃ r : Bool, e = .returned (.bool r) ∧ Hid (EP w M d (q + 1) n v dv w1) := by
  obtain ⟨us, M', ys, hl, hk, hd, hy⟩ := h
  refine (chance_any wr M' d q m h1 hm hk.src (by omega)).mono ?_
  rintro e w1 ⟨r, rfl, s1, g1⟩
  exact ⟨r, rfl, us, M', ys, hl, hk.draw s1 (Dr.of s1 g1), hd, hy⟩
theorem EP.bytes (h : EP w M d q n v dv wr) (hq : q ≤ 1000000000) : Calls Try.prog 124 #[.pointer (some ⟨d, 0, none⟩), .int .i64 3] wr fun e w1 => ∃ (o : Option Addr) (l c : Nat), e = .returned (.slice o l c) ∧ Hid (EP w M d (q + 256) n v (.slice o l c) w1) := by
  obtain ⟨us, M', ys, hl, hk, hd, hy⟩ := h
  refine (bytes_any wr M' d q hk.src (by omega) 3 (by omega) (by omega)).mono ?_
  rintro e w1 ⟨o, l, c, zs, M2, rfl, h1, h2, s2, d2⟩
  exact ⟨o, l, c, rfl, us, M2, zs, hl, hk.draw s2 d2, fun x hx => (hd x hx).le d2.le, h1⟩
end
/-- One event of no data, or of the data that are to come, and perhaps a tick behind it. -/
theorem EP.lit {w wr X : World} {M : Fz} {d q n : Nat} {so : Option Addr} {sn sc : Nat} {dv : Value} (h : EP w M d q n (.slice so sn sc) dv wr) (k m : Int) (hX : wr.alloc (.cells #[.int .i64 k, .int .i64 m, dv] 58) = X) :
    ∃ ys, X.ownsRow w.heap.size 58 3 (.slice so sn sc) n ys ∧ (∀ j u, ([.int .i64 k, .int .i64 m, dv] : List Value)[j]? = some u → X.cell? ((⟨wr.heap.size, 0, none⟩ : Addr).add j) = some u) ∧ w.heap.size ≤ X.heap.size ∧
      ∀ g cap w', w'.ownsRow w.heap.size 58 3 (.slice (some ⟨g, 0, none⟩) (n + 1) cap) (n + 1) (ys ++ [.int .i64 k, .int .i64 m, dv]) → X.grownBy w' (Value.slice so sn sc).ownBlock → ((Value.slice so sn sc).ownBlock = some g ∨ g = X.heap.size) → EI w M d q (n + 1) (.slice (some ⟨g, 0, none⟩) (n + 1) cap) w' := by
  obtain ⟨us, M', ys, hl, hk, hd, hy⟩ := h
  have bX : Below wr.heap.size wr X := by rw [← hX]; exact grp.more (Below.refl _ _) _
  have hB : X.heap[wr.heap.size]? = some (.cells #[.int .i64 k, .int .i64 m, dv] 58 (0, 0)) := by rw [← hX]; exact heap_alloc_new wr _
  have hm1 := hk.below bX
  refine ⟨_, hm1.row, ?_, hm1.dr.grown.size, ?_⟩
  · intro j u hu
    rw [pile.add_at, Nat.zero_add]
    exact cell_of hB (by simpa using hu)
  · intro g cap w' p1 p2 p3
    refine ⟨us ++ [⟨⟨k, m, ys⟩, dv⟩], M', [], by simp [hl], hm1.push (by simpa [evCells] using p1) p2 p3, ?_, bytesM_nil _⟩
    intro x hx
    rcases List.mem_append.1 hx with h' | h'
    · exact hd x h'
    · rw [List.mem_singleton.1 h']; exact hy
theorem EP.lit2 {w wr X : World} {M : Fz} {d q n : Nat} {so : Option Addr} {sn sc : Nat} {dv : Value} (h : EP w M d q n (.slice so sn sc) dv wr) (k m k2 m2 : Int) (hX : wr.alloc (.cells #[.int .i64 k, .int .i64 m, dv, .int .i64 k2, .int .i64 m2, .slice none 0 0] 58) = X) :
    ∃ ys, X.ownsRow w.heap.size 58 3 (.slice so sn sc) n ys ∧ (∀ j u, ([.int .i64 k, .int .i64 m, dv, .int .i64 k2, .int .i64 m2, .slice none 0 0] : List Value)[j]? = some u → X.cell? ((⟨wr.heap.size, 0, none⟩ : Addr).add j) = some u) ∧ w.heap.size ≤ X.heap.size ∧
      ∀ g cap w', w'.ownsRow w.heap.size 58 3 (.slice (some ⟨g, 0, none⟩) (n + 2) cap) (n + 2) (ys ++ [.int .i64 k, .int .i64 m, dv, .int .i64 k2, .int .i64 m2, .slice none 0 0]) → X.grownBy w' (Value.slice so sn sc).ownBlock → ((Value.slice so sn sc).ownBlock = some g ∨ g = X.heap.size) → EI w M d q (n + 2) (.slice (some ⟨g, 0, none⟩) (n + 2) cap) w' := by
  obtain ⟨us, M', ys, hl, hk, hd, hy⟩ := h
  have bX : Below wr.heap.size wr X := by rw [← hX]; exact grp.more (Below.refl _ _) _
  have hB : X.heap[wr.heap.size]? = some (.cells #[.int .i64 k, .int .i64 m, dv, .int .i64 k2, .int .i64 m2, .slice none 0 0] 58 (0, 0)) := by rw [← hX]; exact heap_alloc_new wr _
  have hm1 := hk.below bX
  refine ⟨_, hm1.row, ?_, hm1.dr.grown.size, ?_⟩
  · intro j u hu
    rw [pile.add_at, Nat.zero_add]
    exact cell_of hB (by simpa using hu)
  · intro g cap w' p1 p2 p3
    refine ⟨us ++ [⟨⟨k, m, ys⟩, dv⟩, ⟨⟨k2, m2, []⟩, .slice none 0 0⟩], M', [], by simp [hl], hm1.push (by simpa [evCells] using p1) p2 p3, ?_, bytesM_nil _⟩
    intro x hx
    simp only [List.mem_append, List.mem_cons, List.not_mem_nil, or_false] at hx
    rcases hx with h' | rfl | rfl
    · exact hd x h'
    · exact hy
    · exact bytesM_nil _
theorem EI.first {w X : World} {M : Fz} {d q : Nat} (h : Src w M d q) (k m : Int) (hX : w.alloc (.cells #[.int .i64 k, .int .i64 m, .slice none 0 0] 58) = X) : EI w M d q 1 (.slice (some ⟨w.heap.size, 0, none⟩) 1 1) X := by
  have bX : Below w.heap.size w X := by rw [← hX]; exact grp.more (Below.refl _ _) _
  have hB : X.heap[w.heap.size]? = some (.cells #[.int .i64 k, .int .i64 m, .slice none 0 0] 58 (0, 0)) := by rw [← hX]; exact heap_alloc_new w _
  refine ⟨[⟨⟨k, m, []⟩, .slice none 0 0⟩], M, [], rfl, ⟨⟨by simp [evCells], .inr ⟨w.heap.size, 1, _, rfl, Nat.le_refl _, hB, Nat.le_refl _, by simp [maxLen], by simp, by simp [evCells]⟩⟩, h.below bX, Dr.of (h.below bX) (below_grown bX _), fun g hg => ?_, h.lt⟩, ?_, bytesM_nil _⟩
  · obtain rfl : w.heap.size = g := by simpa [Value.ownBlock] using hg
    exact h.inn.fresh (Nat.le_refl _)
  · intro x hx
    rw [List.mem_singleton.1 hx]; exact bytesM_nil _
theorem EI.none {w X : World} {M : Fz} {d q : Nat} (h : Src w M d q) (hX : w.alloc (.cells #[] 58) = X) : EI w M d q 0 (.slice (some ⟨w.heap.size, 0, none⟩) 0 0) X := ⟨[], M, [], rfl, Mk.first h 58 3 hX, by simp, bytesM_nil _⟩
/-- The base of a row that began later. -/
theorem EP.base {w w1 wr : World} {M : Fz} {d q n p : Nat} {v dv : Value} (h : EP w1 M d q n v dv wr) (hs : Src w M d p) (g : w.grownBy w1 (some d)) : EP w M d q n v dv wr := by
  obtain ⟨us, M', ys, hl, hk, hd, hy⟩ := h
  have hsz := g.size
  have hlt := hs.lt
  refine ⟨us, M', ys, hl, ⟨?_, hk.src, ⟨hk.dr.le, hk.dr.inn, grown_trans g hk.dr.grown, fun b hb => (hk.dr.new b hb).imp id (fun h => by omega)⟩, hk.free, hlt⟩, hd, hy⟩
  obtain ⟨h1, h2⟩ := hk.row
  refine ⟨h1, ?_⟩
  rcases h2 with h2 | ⟨gg, cap, cur, e1, e2, e3⟩
  · exact .inl h2
  · exact .inr ⟨gg, cap, cur, e1, by omega, e3⟩
/-- What a drawn row of events is. -/
def EvsE (w : World) (M : Fz) (d q L : Nat) (e : Ending) (w' : World) : Prop := ∃ (o : Option Addr) (n c : Nat), e = .returned (.slice o n c) ∧ n ≤ L ∧ Hid (EI w M d q n (.slice o n c) w')

set_option maxRecDepth 20000 in
set_option maxHeartbeats 2000000 in
theorem calm_any (w : World) (M : Fz) (d q : Nat) (h : Src w M d q) (hq : q ≤ 100000000) (n : Nat) (h1 : 1 ≤ n) (h7 : n ≤ 7) :
    Calls Try.prog 83 #[.pointer (some ⟨d, 0, none⟩), .int .i64 n] w fun e w' => EvsE w M d (q + 2000) 130 e w' := by
  have HC0 : Hid (Calls Try.prog 85 #[.pointer (some ⟨d, 0, none⟩), .int .i64 n] w fun e w1 => ∃ (r : Nat) (X : World), e = .returned (.int .i64 (r : Int)) ∧ w1.alloc (.cells #[.int .i64 1, .int .i64 r, .slice none 0 0] 58) = X ∧ Hid (EI w M d (q + 1) 1 (.slice (some ⟨w1.heap.size, 0, none⟩) 1 1) X)) := by
    refine (next_any w M d q n (by omega) h (by omega)).mono ?_
    rintro e w1 ⟨r, rfl, ⟨r0, r2, r1⟩, s1, g1⟩
    exact ⟨r.toNat, _, by rw [Int.toNat_of_nonneg r0], rfl, EP.base (EI.first s1 1 _ rfl) h g1⟩
  obtain ⟨i0, hii, hz0, hz1, hz2⟩ := info_parts info58
  have HI3 : Hid (Try.prog.info? 58 = some i0 ∧ i0.zero = some (.agg #[.int .i64 0, .int .i64 0, .slice none 0 0]) ∧ i0.size = 3 ∧ i0.bytes = 40) := ⟨hii, hz0, hz1, hz2⟩
  clear hii hz0 hz1 hz2 h
  go_enter Try.func83, Try.ntmps83
  go_wp2_with fail
  refine HC0.out.mono ?_
  rintro e w1 ⟨r, X, rfl, hX, H1⟩
  have HC1 := hide (EP.next H1.out (by omega) 4 (by omega))
  clear HC0
  go_wp2_with (go_at_call 85; refine HC1.out.mono ?_; rintro e w2 ⟨t, rfl, ht, g2, H2⟩; have a2 : IntKind.i64.wrap (2 + (t : Int)) = 2 + (t : Int) := (by rw [IntKind.wrap_i64]; omega))
  clear HC1 H1 hX
  go_loopw [6, 7, 8] (fun v i j wr => ∃ (k l s : Nat) (so : Option Addr) (sc : Nat), k + l = 2 + t ∧ s ≤ 1 + k * 23 ∧ v = .slice so s sc ∧ i = .int .i64 l ∧ Hid (EI w M d (q + 2 + k * 256) s v wr)) (fun _ i _ _ => (intOf i).toNat)
  case atStart => exact ⟨0, 2 + t, 1, _, _, by omega, by omega, rfl, by go_num, H2⟩
  case round =>
    clear H2
    obtain ⟨k, l, s, so, sc, hkl, hs, rfl, rfl, HR⟩ := hrel
    by_cases hlt : 0 < l
    · have hltI : (0 : Int) < l := by omega
      have a3 : IntKind.i64.wrap (3 * (n : Int)) = 3 * (n : Int) := by rw [IntKind.wrap_i64]; omega
      go_wp2
      go_loopw [6, 8] (fun v j wr => ∃ (a b : Nat) (so : Option Addr) (sc : Nat), a + b = 3 * n ∧ v = .slice so (s + a) sc ∧ j = .int .i64 b ∧ Hid (EI w M d (q + 2 + k * 256) (s + a) v wr)) (fun _ j _ => (intOf j).toNat)
      case atStart => exact ⟨0, 3 * n, _, _, by omega, rfl, by go_num, HR⟩
      case round =>
        clear HR
        obtain ⟨a, b, so, sc, hab, rfl, rfl, HR⟩ := hrel
        by_cases hlt2 : 0 < b
        · have hlt2I : (0 : Int) < b := by omega
          obtain ⟨X, hX⟩ : ∃ X, wr.alloc (.cells #[.int .i64 2, .int .i64 0, .slice none 0 0] 58) = X := ⟨_, rfl⟩
          have HJ1 := hide (EP.lit HR.out 2 0 hX)
          go_wp2_with (at_builtin; obtain ⟨ys, y1, y2, y3, y4⟩ := HJ1.out; refine wpList_append_lies _ rfl _ _ 24 rfl w.heap.size 58 i0 (.agg #[.int .i64 0, .int .i64 0, .slice none 0 0]) 3 40 Try.underlying24 HI3.out.1 HI3.out.2.1 HI3.out.2.2.1 HI3.out.2.2.2 rfl (by decide) _ (s + a) ys rfl y1 ⟨wr.heap.size, 0, none⟩ 1 1 [.int .i64 2, .int .i64 0, .slice none 0 0] rfl rfl y2 (fun u' hu' => by simp only [List.mem_cons, List.not_mem_nil, or_false] at hu'; rcases hu' with rfl | rfl | rfl <;> rfl) (by decide) (by unfold maxLen; omega) (by omega) y3 _ rfl ?_; intro g2 cap2 wn z1 z2 z3 z4; have HN := hide (y4 g2 cap2 wn z1 z2 z3); clear z1 z2 z3 z4 y1 y2 y3 y4)
          go_roundw
          case rel => exact ⟨a + 1, b - 1, some ⟨g2, 0, none⟩, cap2, by omega, congrArg (fun n => Value.slice (some ⟨g2, 0, none⟩) n cap2) (by omega), by go_num, HN⟩
          case measure => simp [intOf]; omega
        · have hlt3 : ¬ (0 : Int) < b := by omega
          have HB := hide (EP.bytes HR.out (by omega))
          clear HR
          go_wp2_with (first
            | (go_at_call 124; refine HB.out.mono ?_; rintro e w3 ⟨o3, l3, c3, rfl, H3⟩; obtain ⟨X, hX⟩ : ∃ X, w3.alloc (.cells #[.int .i64 7, .int .i64 r, .slice o3 l3 c3, .int .i64 1, .int .i64 r, .slice none 0 0] 58) = X := ⟨_, rfl⟩; have HJ2 := hide (EP.lit2 H3.out 7 r 1 r hX))
            | (at_builtin; obtain ⟨ys, y1, y2, y3, y4⟩ := HJ2.out; refine wpList_append_lies _ rfl _ _ 24 rfl w.heap.size 58 i0 (.agg #[.int .i64 0, .int .i64 0, .slice none 0 0]) 3 40 Try.underlying24 HI3.out.1 HI3.out.2.1 HI3.out.2.2.1 HI3.out.2.2.2 rfl (by decide) _ (s + a) ys rfl y1 ⟨w3.heap.size, 0, none⟩ 2 2 [.int .i64 7, .int .i64 r, .slice o3 l3 c3, .int .i64 1, .int .i64 r, .slice none 0 0] rfl rfl y2 (fun u' hu' => by simp only [List.mem_cons, List.not_mem_nil, or_false] at hu'; rcases hu' with rfl | rfl | rfl | rfl | rfl | rfl <;> rfl) (by decide) (by unfold maxLen; omega) (by omega) y3 _ rfl ?_; intro g2 cap2 wn z1 z2 z3 z4; have HN := hide (y4 g2 cap2 wn z1 z2 z3); clear z1 z2 z3 z4 y1 y2 y3 y4))
          go_roundw
          case rel => exact ⟨k + 1, l - 1, s + a + 2, some ⟨g2, 0, none⟩, cap2, by omega, by omega, rfl, by go_num, EP.more HN.out (by omega)⟩
          case measure => simp [intOf]; omega
    · have hlt2 : ¬ (0 : Int) < l := by omega
      go_wp2
      go_ret
      exact ⟨so, s, sc, rfl, by omega, EP.more HR.out (by omega)⟩
end Go.Proofs.Ytklkglbimjajnaa.evd
