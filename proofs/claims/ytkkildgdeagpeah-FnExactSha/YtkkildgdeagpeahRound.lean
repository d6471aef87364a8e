/- One round of the hash, as the program does it. -/
import Derived.Test.YtkkildgdeagpeahRule
namespace Go.Proofs.Ytkkildgdeagpeah.round
open Go.ChangeShapes Go.WideShapes Go.ChangeAt Go.RowKit
open Go.Proofs.Ytkkildgdeagpeah.bytes Go.Proofs.Ytkkildgdeagpeah.rot Go.Proofs.Ytkkildgdeagpeah.root Go.Proofs.Ytkkildgdeagpeah.arr Go.Proofs.Ytkkildgdeagpeah.primes Go.Proofs.Ytkkildgdeagpeah.rule
set_option linter.unusedVariables false

def bg0 (x : Nat) : Nat := rotr x 2 ^^^ rotr x 13 ^^^ rotr x 22
def bg1 (x : Nat) : Nat := rotr x 6 ^^^ rotr x 11 ^^^ rotr x 25
def chN (e f g : Nat) : Nat := (e &&& f) ^^^ ((e ^^^ 4294967295) &&& g)
def majN (a b c : Nat) : Nat := (a &&& b) ^^^ (a &&& c) ^^^ (b &&& c)
/-- One round: the eight numbers, and a word with its constant. -/
def rnd (s : List Nat) (x : Nat) : List Nat :=
  [(s.getD 7 0 + bg1 (s.getD 4 0) + chN (s.getD 4 0) (s.getD 5 0) (s.getD 6 0) + x + (bg0 (s.getD 0 0) + majN (s.getD 0 0) (s.getD 1 0) (s.getD 2 0))) % 4294967296, s.getD 0 0, s.getD 1 0, s.getD 2 0,
   (s.getD 3 0 + (s.getD 7 0 + bg1 (s.getD 4 0) + chN (s.getD 4 0) (s.getD 5 0) (s.getD 6 0) + x)) % 4294967296, s.getD 4 0, s.getD 5 0, s.getD 6 0]

theorem bg0_lt {x : Nat} (h : x < 4294967296) : bg0 x < 4294967296 := Nat.xor_lt_two_pow (n := 32) (Nat.xor_lt_two_pow (n := 32) (rotr_lt _ _ h) (rotr_lt _ _ h)) (rotr_lt _ _ h)
theorem bg1_lt {x : Nat} (h : x < 4294967296) : bg1 x < 4294967296 := Nat.xor_lt_two_pow (n := 32) (Nat.xor_lt_two_pow (n := 32) (rotr_lt _ _ h) (rotr_lt _ _ h)) (rotr_lt _ _ h)
theorem ch_lt {e f g : Nat} (he : e < 4294967296) (hf : f < 4294967296) (hg : g < 4294967296) : chN e f g < 4294967296 := Nat.xor_lt_two_pow (n := 32) (Nat.and_lt_two_pow (n := 32) e hf) (Nat.and_lt_two_pow (n := 32) _ hg)
theorem maj_lt {a b c : Nat} (ha : a < 4294967296) (hb : b < 4294967296) (hc : c < 4294967296) : majN a b c < 4294967296 := Nat.xor_lt_two_pow (n := 32) (Nat.xor_lt_two_pow (n := 32) (Nat.and_lt_two_pow (n := 32) a hb) (Nat.and_lt_two_pow (n := 32) a hc)) (Nat.and_lt_two_pow (n := 32) b hc)
theorem bg0_bits (x : Nat) (h : x < 4294967296) : bits .xor .u32 (bits .xor .u32 ((rotr x 2 : Nat) : Int) ((rotr x 13 : Nat) : Int)) ((rotr x 22 : Nat) : Int) = ((bg0 x : Nat) : Int) := by
  have h1 := rot.u32_xor (rotr x 2) (rotr x 13) (rotr_lt _ _ h) (rotr_lt _ _ h)
  have h2 := rot.u32_xor (rotr x 2 ^^^ rotr x 13) (rotr x 22) (Nat.xor_lt_two_pow (n := 32) (rotr_lt _ _ h) (rotr_lt _ _ h)) (rotr_lt _ _ h)
  rw [h1, h2]
  rfl
theorem bg1_bits (x : Nat) (h : x < 4294967296) : bits .xor .u32 (bits .xor .u32 ((rotr x 6 : Nat) : Int) ((rotr x 11 : Nat) : Int)) ((rotr x 25 : Nat) : Int) = ((bg1 x : Nat) : Int) := by
  have h1 := rot.u32_xor (rotr x 6) (rotr x 11) (rotr_lt _ _ h) (rotr_lt _ _ h)
  have h2 := rot.u32_xor (rotr x 6 ^^^ rotr x 11) (rotr x 25) (Nat.xor_lt_two_pow (n := 32) (rotr_lt _ _ h) (rotr_lt _ _ h)) (rotr_lt _ _ h)
  rw [h1, h2]
  rfl
theorem ch_bits (e f g : Nat) (he : e < 4294967296) (hf : f < 4294967296) (hg : g < 4294967296) : bits .xor .u32 (bits .and .u32 (e : Int) (f : Int)) (bits .and .u32 (bits .xor .u32 IntKind.u32.max (e : Int)) (g : Int)) = ((chN e f g : Nat) : Int) := by
  have h1 := rot.u32_and e f he hf
  have h0 : bits .xor .u32 IntKind.u32.max (e : Int) = ((e ^^^ 4294967295 : Nat) : Int) := by
    rw [show IntKind.u32.max = ((4294967295 : Nat) : Int) from by decide, rot.u32_xor 4294967295 e (by decide) he, Nat.xor_comm]
  have hl : e ^^^ 4294967295 < 4294967296 := Nat.xor_lt_two_pow (n := 32) he (by decide)
  have h2 := rot.u32_and (e ^^^ 4294967295) g hl hg
  have h3 := rot.u32_xor (e &&& f) ((e ^^^ 4294967295) &&& g) (Nat.and_lt_two_pow (n := 32) e hf) (Nat.and_lt_two_pow (n := 32) _ hg)
  rw [h0, h1, h2, h3]
  rfl
theorem maj_bits (a b c : Nat) (ha : a < 4294967296) (hb : b < 4294967296) (hc : c < 4294967296) : bits .xor .u32 (bits .xor .u32 (bits .and .u32 (a : Int) (b : Int)) (bits .and .u32 (a : Int) (c : Int))) (bits .and .u32 (b : Int) (c : Int)) = ((majN a b c : Nat) : Int) := by
  have h1 := rot.u32_and a b ha hb
  have h2 := rot.u32_and a c ha hc
  have h3 := rot.u32_and b c hb hc
  have h4 := rot.u32_xor (a &&& b) (a &&& c) (Nat.and_lt_two_pow (n := 32) a hb) (Nat.and_lt_two_pow (n := 32) a hc)
  have h5 := rot.u32_xor ((a &&& b) ^^^ (a &&& c)) (b &&& c) (Nat.xor_lt_two_pow (n := 32) (Nat.and_lt_two_pow (n := 32) a hb) (Nat.and_lt_two_pow (n := 32) a hc)) (Nat.and_lt_two_pow (n := 32) b hc)
  rw [h1, h2, h3, h4, h5]
  rfl
theorem size54 : (Try.prog.info? 54).map (·.size) = some 8 := by kernel_rfl

set_option maxRecDepth 20000 in
set_option maxHeartbeats 8000000 in
theorem round_any (w : World) (g : Nat) (a b c d e f h i x : Nat) (la : a < 4294967296) (lb : b < 4294967296) (lc : c < 4294967296) (ld : d < 4294967296) (le : e < 4294967296) (lf : f < 4294967296) (lh : h < 4294967296) (li : i < 4294967296) (lx : x < 4294967296)
    (hA : Arr w g 54 .u32 [a, b, c, d, e, f, h, i]) :
    Calls Try.prog 61 #[.pointer (some ⟨g, 0, none⟩), .int .u32 x] w fun e' w' => e' = .returned (.tuple #[]) ∧ ∃ m, w' = (w.drewN m).setRow g (vals .u32 (rnd [a, b, c, d, e, f, h, i] x)).toArray := by
  have k0 : w.cell? ⟨g, 0, none⟩ = some (.int .u32 a) := hA.cell (i := 0) (by simp)
  have k1 : w.cell? ⟨g, 1, none⟩ = some (.int .u32 b) := hA.cell (i := 1) (by simp)
  have k2 : w.cell? ⟨g, 2, none⟩ = some (.int .u32 c) := hA.cell (i := 2) (by simp)
  have k3 : w.cell? ⟨g, 3, none⟩ = some (.int .u32 d) := hA.cell (i := 3) (by simp)
  have k4 : w.cell? ⟨g, 4, none⟩ = some (.int .u32 e) := hA.cell (i := 4) (by simp)
  have k5 : w.cell? ⟨g, 5, none⟩ = some (.int .u32 f) := hA.cell (i := 5) (by simp)
  have k6 : w.cell? ⟨g, 6, none⟩ = some (.int .u32 h) := hA.cell (i := 6) (by simp)
  have k7 : w.cell? ⟨g, 7, none⟩ = some (.int .u32 i) := hA.cell (i := 7) (by simp)
  have HA := hide hA
  clear hA
  have HX1 := hide (bg1_bits e le)
  have HX0 := hide (bg0_bits a la)
  have HCh := hide (ch_bits e f h le lf lh)
  have HMj := hide (maj_bits a b c la lb lc)
  have HG := hide (And.intro (bg1_lt le) (And.intro (bg0_lt la) (And.intro (ch_lt le lf lh) (maj_lt la lb lc))))
  have HRn : Hid (rnd [a, b, c, d, e, f, h, i] x = [(i + bg1 e + chN e f h + x + (bg0 a + majN a b c)) % 4294967296, a, b, c, (d + (i + bg1 e + chN e f h + x)) % 4294967296, e, f, h]) := by
    unfold Hid rnd
    simp only [List.getD_cons_zero, List.getD_cons_succ]
  go_enter Try.func61, Try.ntmps61
  go_wp2
  go_quiet (fail)
  go_wp2_with fail
  refine (rot6 _ e le).mono ?_
  rintro e' w' ⟨rfl, rfl⟩
  go_wp2_with fail
  refine (rot11 _ e le).mono ?_
  rintro e' w' ⟨rfl, rfl⟩
  go_wp2_with fail
  refine (rot25 _ e le).mono ?_
  rintro e' w' ⟨rfl, rfl⟩
  have hx1 := HX1.out
  generalize rotr e 6 = B1 at hx1 ⊢
  generalize rotr e 11 = B2 at hx1 ⊢
  generalize rotr e 25 = B3 at hx1 ⊢
  go_wp2_with fail
  refine (rot2 _ a la).mono ?_
  rintro e' w' ⟨rfl, rfl⟩
  go_wp2_with fail
  refine (rot13 _ a la).mono ?_
  rintro e' w' ⟨rfl, rfl⟩
  go_wp2_with fail
  refine (rot22 _ a la).mono ?_
  rintro e' w' ⟨rfl, rfl⟩
  have hx0 := HX0.out
  generalize rotr a 2 = B4 at hx0 ⊢
  generalize rotr a 13 = B5 at hx0 ⊢
  generalize rotr a 22 = B6 at hx0 ⊢
  have hsg : IntKind.u32.signed = false := rfl
  have hch := HCh.out
  have hmj := HMj.out
  obtain ⟨g1, g0, gc, gm⟩ := HG.out
  generalize bg1 e = S1 at hx1 HRn g1 ⊢
  generalize bg0 a = S0 at hx0 HRn g0 ⊢
  generalize chN e f h = C at hch HRn gc
  generalize majN a b c = M at hmj HRn gm
  go_wp2_with ((refine wpList_store_row rfl _ _ _ rfl g _ rfl rfl 54 _ HA.out (size54.trans (by simp)) (by simp [vals]) (by simp [Value.oneCell']) ?_))
  have HV : Hid ((vals .u32 (rnd [a, b, c, d, e, f, h, i] x)).toArray = #[.int .u32 (((i : Int) + S1 + C + x + (S0 + M)) % 4294967296), .int .u32 a, .int .u32 b, .int .u32 c, .int .u32 (((d : Int) + (i + S1 + C + x)) % 4294967296), .int .u32 e, .int .u32 f, .int .u32 h]) := by
    unfold Hid
    rw [HRn.out]
    unfold vals
    simp only [List.map_cons, List.map_nil]
    have e1 : (((i + S1 + C + x + (S0 + M)) % 4294967296 : Nat) : Int) = ((i : Int) + S1 + C + x + (S0 + M)) % 4294967296 := by omega
    have e2 : (((d + (i + S1 + C + x)) % 4294967296 : Nat) : Int) = ((d : Int) + (i + S1 + C + x)) % 4294967296 := by omega
    rw [e1, e2]
  rw [← HV.out]
  go_end0
  exact ⟨rfl, _, rfl⟩
end Go.Proofs.Ytkkildgdeagpeah.round
