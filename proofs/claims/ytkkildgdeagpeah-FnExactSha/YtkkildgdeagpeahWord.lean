/- Words of a block, and its schedule, as the program reckons them. -/
import Derived.Test.YtkkildgdeagpeahRule
namespace Go.Proofs.Ytkkildgdeagpeah.word
open Go.ChangeShapes Go.WideShapes Go.ChangeAt Go.RowKit
open Go.Proofs.Ytkkildgdeagpeah.bytes Go.Proofs.Ytkkildgdeagpeah.rot Go.Proofs.Ytkkildgdeagpeah.root Go.Proofs.Ytkkildgdeagpeah.arr Go.Proofs.Ytkkildgdeagpeah.primes Go.Proofs.Ytkkildgdeagpeah.rule
set_option linter.unusedVariables false

/-- Four bytes as a word. -/
def wordN (a b c d : Nat) : Nat := a * 16777216 ||| b * 65536 ||| c * 256 ||| d
theorem wordN_lt (a b c d : Nat) (ha : a < 256) (hb : b < 256) (hc : c < 256) (hd : d < 256) : wordN a b c d < 4294967296 :=
  Nat.or_lt_two_pow (n := 32) (Nat.or_lt_two_pow (n := 32) (Nat.or_lt_two_pow (n := 32) (by omega) (by omega)) (by omega)) (by omega)
theorem word_or (a b c d : Nat) (ha : a < 256) (hb : b < 256) (hc : c < 256) (hd : d < 256) :
    bits .or .u32 (bits .or .u32 (bits .or .u32 ((a : Int) * 16777216) ((b : Int) * 65536)) ((c : Int) * 256)) (d : Int) = ((wordN a b c d : Nat) : Int) := by
  obtain ⟨x, hx⟩ : ∃ x : Nat, x = a * 16777216 := ⟨_, rfl⟩
  obtain ⟨y, hy⟩ : ∃ y : Nat, y = b * 65536 := ⟨_, rfl⟩
  obtain ⟨z, hz⟩ : ∃ z : Nat, z = c * 256 := ⟨_, rfl⟩
  have e1 : (a : Int) * 16777216 = (x : Int) := by omega
  have e2 : (b : Int) * 65536 = (y : Int) := by omega
  have e3 : (c : Int) * 256 = (z : Int) := by omega
  have l1 : x < 4294967296 := by omega
  have l2 : y < 4294967296 := by omega
  have l3 : z < 4294967296 := by omega
  have e4 : wordN a b c d = (x ||| y ||| z ||| d) := by rw [hx, hy, hz]; rfl
  rw [e1, e2, e3, e4]
  have h1 := rot.u32_or x y l1 l2
  have h2 := rot.u32_or (x ||| y) z (Nat.or_lt_two_pow (n := 32) l1 l2) l3
  have h3 := rot.u32_or (x ||| y ||| z) d (Nat.or_lt_two_pow (n := 32) (Nat.or_lt_two_pow (n := 32) l1 l2) l3) (by omega)
  rw [h1, h2, h3]
set_option maxHeartbeats 1600000 in
theorem wordOf_any (w : World) (b o n cap : Nat) (x0 x1 x2 x3 : Nat) (h0 : x0 < 256) (h1 : x1 < 256) (h2 : x2 < 256) (h3 : x3 < 256) (hn : 4 ≤ n)
    (c0 : w.cell? ⟨b, o, none⟩ = some (.int .u8 x0)) (c1 : w.cell? ⟨b, o + 1, none⟩ = some (.int .u8 x1)) (c2 : w.cell? ⟨b, o + 2, none⟩ = some (.int .u8 x2)) (c3 : w.cell? ⟨b, o + 3, none⟩ = some (.int .u8 x3)) :
    Calls Try.prog 65 #[.slice (some ⟨b, o, none⟩) n cap] w fun e w' => e = .returned (.int .u32 (wordN x0 x1 x2 x3)) ∧ ∃ m, w' = w.drewN m := by
  go_enter Try.func65, Try.ntmps65
  go_wp2
  go_quiet (fail)
  go_wp2
  go_ret
  refine ⟨?_, _, rfl⟩
  rw [← word_or x0 x1 x2 x3 h0 h1 h2 h3]
  rfl

def sg0 (x : Nat) : Nat := rotr x 7 ^^^ rotr x 18 ^^^ x / 8
def sg1 (x : Nat) : Nat := rotr x 17 ^^^ rotr x 19 ^^^ x / 1024
/-- The word of number j of a block's schedule, the words ahead of it given. -/
def scVal (bs s : List Nat) (j : Nat) : Nat :=
  if j < 16 then wordN (bs.getD (4 * j) 0) (bs.getD (4 * j + 1) 0) (bs.getD (4 * j + 2) 0) (bs.getD (4 * j + 3) 0)
  else (s.getD (j - 16) 0 + sg0 (s.getD (j - 15) 0) + s.getD (j - 7) 0 + sg1 (s.getD (j - 2) 0)) % 4294967296
def sc (bs : List Nat) : Nat → List Nat
  | 0 => List.replicate 64 0
  | j + 1 => (sc bs j).set j (scVal bs (sc bs j) j)
theorem sc_length (bs : List Nat) (j : Nat) : (sc bs j).length = 64 := by
  induction j with
  | zero => rfl
  | succ j ih => rw [sc, List.length_set, ih]
theorem sg0_lt {x : Nat} (h : x < 4294967296) : sg0 x < 4294967296 := Nat.xor_lt_two_pow (n := 32) (Nat.xor_lt_two_pow (n := 32) (rotr_lt _ _ h) (rotr_lt _ _ h)) (by omega)
theorem sg1_lt {x : Nat} (h : x < 4294967296) : sg1 x < 4294967296 := Nat.xor_lt_two_pow (n := 32) (Nat.xor_lt_two_pow (n := 32) (rotr_lt _ _ h) (rotr_lt _ _ h)) (by omega)
theorem sg0_bits (x : Nat) (h : x < 4294967296) : bits .xor .u32 (bits .xor .u32 ((rotr x 7 : Nat) : Int) ((rotr x 18 : Nat) : Int)) ((x : Int) / 8) = ((sg0 x : Nat) : Int) := by
  have h1 := rot.u32_xor (rotr x 7) (rotr x 18) (rotr_lt _ _ h) (rotr_lt _ _ h)
  have h2 := rot.u32_xor (rotr x 7 ^^^ rotr x 18) (x / 8) (Nat.xor_lt_two_pow (n := 32) (rotr_lt _ _ h) (rotr_lt _ _ h)) (by omega)
  have e : (x : Int) / 8 = ((x / 8 : Nat) : Int) := by omega
  rw [e, h1, h2]
  rfl
theorem sg1_bits (x : Nat) (h : x < 4294967296) : bits .xor .u32 (bits .xor .u32 ((rotr x 17 : Nat) : Int) ((rotr x 19 : Nat) : Int)) ((x : Int) / 1024) = ((sg1 x : Nat) : Int) := by
  have h1 := rot.u32_xor (rotr x 17) (rotr x 19) (rotr_lt _ _ h) (rotr_lt _ _ h)
  have h2 := rot.u32_xor (rotr x 17 ^^^ rotr x 19) (x / 1024) (Nat.xor_lt_two_pow (n := 32) (rotr_lt _ _ h) (rotr_lt _ _ h)) (by omega)
  have e : (x : Int) / 1024 = ((x / 1024 : Nat) : Int) := by omega
  rw [e, h1, h2]
  rfl
theorem getD_lt {l : List Nat} {m : Nat} (hm : 0 < m) (h : ∀ x ∈ l, x < m) (i : Nat) : l.getD i 0 < m := by
  rw [List.getD_eq_getElem?_getD]
  cases e : l[i]? with
  | none => simpa using hm
  | some x => exact h x (List.mem_of_getElem? e)
theorem sc_lt {bs : List Nat} (hb : ∀ x ∈ bs, x < 256) (j : Nat) : ∀ x ∈ sc bs j, x < 4294967296 := by
  induction j with
  | zero => intro x hx; have := List.eq_of_mem_replicate hx; omega
  | succ j ih =>
    intro x hx
    rw [sc] at hx
    rcases List.mem_or_eq_of_mem_set hx with h | rfl
    · exact ih x h
    · unfold scVal
      split
      · exact wordN_lt _ _ _ _ (getD_lt (by decide) hb _) (getD_lt (by decide) hb _) (getD_lt (by decide) hb _) (getD_lt (by decide) hb _)
      · exact Nat.mod_lt _ (by decide)
theorem size55 : (Try.prog.info? 55).map (·.size) = some 64 := by kernel_rfl

set_option maxRecDepth 20000 in
set_option maxHeartbeats 4000000 in
theorem schedule_any (w : World) (b o cap : Nat) (bs : List Nat) (hl : bs.length = 64) (hb : ∀ x ∈ bs, x < 256) (hcap : 64 ≤ cap) (hcap2 : cap ≤ maxLen) (hlt : b < w.heap.size)
    (hc : ∀ i, i < 64 → w.cell? ⟨b, o + i, none⟩ = some (.int .u8 (bs.getD i 0 : Nat))) :
    Calls Try.prog 60 #[.slice (some ⟨b, o, none⟩) 64 cap] w fun e w' => e = .returned (.agg (vals .u32 (sc bs 64)).toArray) ∧ Below w.heap.size w w' := by
  unfold maxLen at hcap2
  obtain ⟨W2, hW2⟩ : ∃ W2, W2 = (w.alloc (.cells #[.int .u32 0, .int .u32 0, .int .u32 0, .int .u32 0, .int .u32 0, .int .u32 0, .int .u32 0, .int .u32 0, .int .u32 0, .int .u32 0, .int .u32 0, .int .u32 0, .int .u32 0, .int .u32 0, .int .u32 0, .int .u32 0, .int .u32 0, .int .u32 0, .int .u32 0, .int .u32 0, .int .u32 0, .int .u32 0, .int .u32 0, .int .u32 0, .int .u32 0, .int .u32 0, .int .u32 0, .int .u32 0, .int .u32 0, .int .u32 0, .int .u32 0, .int .u32 0, .int .u32 0, .int .u32 0, .int .u32 0, .int .u32 0, .int .u32 0, .int .u32 0, .int .u32 0, .int .u32 0, .int .u32 0, .int .u32 0, .int .u32 0, .int .u32 0, .int .u32 0, .int .u32 0, .int .u32 0, .int .u32 0, .int .u32 0, .int .u32 0, .int .u32 0, .int .u32 0, .int .u32 0, .int .u32 0, .int .u32 0, .int .u32 0, .int .u32 0, .int .u32 0, .int .u32 0, .int .u32 0, .int .u32 0, .int .u32 0, .int .u32 0, .int .u32 0] 55)).alloc (.cells #[.int .u32 0, .int .u32 0, .int .u32 0, .int .u32 0, .int .u32 0, .int .u32 0, .int .u32 0, .int .u32 0, .int .u32 0, .int .u32 0, .int .u32 0, .int .u32 0, .int .u32 0, .int .u32 0, .int .u32 0, .int .u32 0, .int .u32 0, .int .u32 0, .int .u32 0, .int .u32 0, .int .u32 0, .int .u32 0, .int .u32 0, .int .u32 0, .int .u32 0, .int .u32 0, .int .u32 0, .int .u32 0, .int .u32 0, .int .u32 0, .int .u32 0, .int .u32 0, .int .u32 0, .int .u32 0, .int .u32 0, .int .u32 0, .int .u32 0, .int .u32 0, .int .u32 0, .int .u32 0, .int .u32 0, .int .u32 0, .int .u32 0, .int .u32 0, .int .u32 0, .int .u32 0, .int .u32 0, .int .u32 0, .int .u32 0, .int .u32 0, .int .u32 0, .int .u32 0, .int .u32 0, .int .u32 0, .int .u32 0, .int .u32 0, .int .u32 0, .int .u32 0, .int .u32 0, .int .u32 0, .int .u32 0, .int .u32 0, .int .u32 0, .int .u32 0] 55) := ⟨_, rfl⟩
  have HS : Hid (Arr W2 w.heap.size 55 .u32 (List.replicate 64 0) ∧ Arr W2 (w.heap.size + 1) 55 .u32 (List.replicate 64 0) ∧ Below w.heap.size w W2) := by
    refine hide ⟨?_, ?_, ?_⟩
    · rw [hW2]; exact (Arr.new w 55 .u32 (List.replicate 64 0) #[.int .u32 0, .int .u32 0, .int .u32 0, .int .u32 0, .int .u32 0, .int .u32 0, .int .u32 0, .int .u32 0, .int .u32 0, .int .u32 0, .int .u32 0, .int .u32 0, .int .u32 0, .int .u32 0, .int .u32 0, .int .u32 0, .int .u32 0, .int .u32 0, .int .u32 0, .int .u32 0, .int .u32 0, .int .u32 0, .int .u32 0, .int .u32 0, .int .u32 0, .int .u32 0, .int .u32 0, .int .u32 0, .int .u32 0, .int .u32 0, .int .u32 0, .int .u32 0, .int .u32 0, .int .u32 0, .int .u32 0, .int .u32 0, .int .u32 0, .int .u32 0, .int .u32 0, .int .u32 0, .int .u32 0, .int .u32 0, .int .u32 0, .int .u32 0, .int .u32 0, .int .u32 0, .int .u32 0, .int .u32 0, .int .u32 0, .int .u32 0, .int .u32 0, .int .u32 0, .int .u32 0, .int .u32 0, .int .u32 0, .int .u32 0, .int .u32 0, .int .u32 0, .int .u32 0, .int .u32 0, .int .u32 0, .int .u32 0, .int .u32 0, .int .u32 0] rfl).alloc _
    · rw [hW2]
      have h := Arr.new (w.alloc (.cells #[.int .u32 0, .int .u32 0, .int .u32 0, .int .u32 0, .int .u32 0, .int .u32 0, .int .u32 0, .int .u32 0, .int .u32 0, .int .u32 0, .int .u32 0, .int .u32 0, .int .u32 0, .int .u32 0, .int .u32 0, .int .u32 0, .int .u32 0, .int .u32 0, .int .u32 0, .int .u32 0, .int .u32 0, .int .u32 0, .int .u32 0, .int .u32 0, .int .u32 0, .int .u32 0, .int .u32 0, .int .u32 0, .int .u32 0, .int .u32 0, .int .u32 0, .int .u32 0, .int .u32 0, .int .u32 0, .int .u32 0, .int .u32 0, .int .u32 0, .int .u32 0, .int .u32 0, .int .u32 0, .int .u32 0, .int .u32 0, .int .u32 0, .int .u32 0, .int .u32 0, .int .u32 0, .int .u32 0, .int .u32 0, .int .u32 0, .int .u32 0, .int .u32 0, .int .u32 0, .int .u32 0, .int .u32 0, .int .u32 0, .int .u32 0, .int .u32 0, .int .u32 0, .int .u32 0, .int .u32 0, .int .u32 0, .int .u32 0, .int .u32 0, .int .u32 0] 55)) 55 .u32 (List.replicate 64 0) #[.int .u32 0, .int .u32 0, .int .u32 0, .int .u32 0, .int .u32 0, .int .u32 0, .int .u32 0, .int .u32 0, .int .u32 0, .int .u32 0, .int .u32 0, .int .u32 0, .int .u32 0, .int .u32 0, .int .u32 0, .int .u32 0, .int .u32 0, .int .u32 0, .int .u32 0, .int .u32 0, .int .u32 0, .int .u32 0, .int .u32 0, .int .u32 0, .int .u32 0, .int .u32 0, .int .u32 0, .int .u32 0, .int .u32 0, .int .u32 0, .int .u32 0, .int .u32 0, .int .u32 0, .int .u32 0, .int .u32 0, .int .u32 0, .int .u32 0, .int .u32 0, .int .u32 0, .int .u32 0, .int .u32 0, .int .u32 0, .int .u32 0, .int .u32 0, .int .u32 0, .int .u32 0, .int .u32 0, .int .u32 0, .int .u32 0, .int .u32 0, .int .u32 0, .int .u32 0, .int .u32 0, .int .u32 0, .int .u32 0, .int .u32 0, .int .u32 0, .int .u32 0, .int .u32 0, .int .u32 0, .int .u32 0, .int .u32 0, .int .u32 0, .int .u32 0] rfl
      simpa using h
    · rw [hW2]; exact ((Below.refl _ _).alloc (Nat.le_refl _) _).alloc (by simp) _
  have HC := hide hc
  clear hc
  go_enter Try.func60, Try.ntmps60
  go_wp2
  rw [← hW2]
  clear hW2
  go_loopw [9] (fun i wr => ∃ j : Nat, j ≤ 64 ∧ i = .int .i64 j ∧ Hid (Arr wr w.heap.size 55 .u32 (List.replicate 64 0) ∧ Arr wr (w.heap.size + 1) 55 .u32 (sc bs j) ∧ Below w.heap.size w wr)) (fun i _ => 64 - (intOf i).toNat)
  case atStart => exact ⟨0, by omega, rfl, HS⟩
  case round =>
    obtain ⟨j, hj, rfl, HR⟩ := hrel
    clear HS
    by_cases h64 : j < 64
    · have hsl := sc_length bs j
      have HV : Hid (sc bs (j + 1) = (sc bs j).set j (scVal bs (sc bs j) j)) := hide rfl
      have cj := HR.out.2.1.cell (i := j) (by omega)
      have fj := HR.out.2.1.frozen j
      by_cases h16 : j < 16
      · have HW := hide (wordOf_any wr b (o + 4 * j) (64 - 4 * j) (cap - 4 * j) _ _ _ _ (getD_lt (by decide) hb (4 * j)) (getD_lt (by decide) hb (4 * j + 1)) (getD_lt (by decide) hb (4 * j + 2)) (getD_lt (by decide) hb (4 * j + 3)) (by omega)
          (by rw [HR.out.2.2.cell hlt]; exact HC.out (4 * j) (by omega)) (by rw [HR.out.2.2.cell hlt]; exact HC.out (4 * j + 1) (by omega)) (by rw [HR.out.2.2.cell hlt]; exact HC.out (4 * j + 2) (by omega)) (by rw [HR.out.2.2.cell hlt]; exact HC.out (4 * j + 3) (by omega)))
        have HVv : Hid (scVal bs (sc bs j) j = wordN (bs.getD (4 * j) 0) (bs.getD (4 * j + 1) 0) (bs.getD (4 * j + 2) 0) (bs.getD (4 * j + 3) 0)) := by unfold Hid scVal; rw [if_pos h16]
        go_wp2_with fail
        refine HW.out.mono ?_
        rintro e w' ⟨rfl, m, rfl⟩
        have HR3 : Hid (Arr (wr.drewN m) w.heap.size 55 .u32 (List.replicate 64 0) ∧ Arr (wr.drewN m) (w.heap.size + 1) 55 .u32 (sc bs j) ∧ Below w.heap.size w (wr.drewN m)) := hide ⟨HR.out.1, HR.out.2.1, HR.out.2.2.trans ⟨rfl, rfl, rfl, Nat.le_refl _, fun _ _ => rfl⟩⟩
        rw [HVv.out] at HV
        generalize wordN (bs.getD (4 * j) 0) (bs.getD (4 * j + 1) 0) (bs.getD (4 * j + 2) 0) (bs.getD (4 * j + 3) 0) = V at HV ⊢
        generalize wr.drewN m = W3 at HR3 ⊢
        have cj3 := HR3.out.2.1.cell (i := j) (by omega)
        have fj3 := HR3.out.2.1.frozen j
        clear cj fj HR HW HVv
        go_wp2
        go_roundw
        case rel => exact ⟨j + 1, by omega, by go_num, hide ⟨HR3.out.1.setNe (by omega) _ _, by rw [HV.out]; exact HR3.out.2.1.set j _ _ rfl, HR3.out.2.2.setCell (by simp) _⟩⟩
        case measure => simp [intOf]; omega
      · obtain ⟨k, rfl⟩ : ∃ k, j = k + 16 := ⟨j - 16, by omega⟩
        have k16 := HR.out.2.1.cell (i := k) (by omega)
        have k15 := HR.out.2.1.cell (i := k + 1) (by omega)
        have k7 := HR.out.2.1.cell (i := k + 9) (by omega)
        have k2 := HR.out.2.1.cell (i := k + 14) (by omega)
        have HVv : Hid (scVal bs (sc bs (k + 16)) (k + 16) = ((sc bs (k + 16)).getD k 0 + sg0 ((sc bs (k + 16)).getD (k + 1) 0) + (sc bs (k + 16)).getD (k + 9) 0 + sg1 ((sc bs (k + 16)).getD (k + 14) 0)) % 4294967296) := by
          unfold Hid scVal
          rw [if_neg (by omega)]
          rfl
        have hm := sc_lt hb (k + 16)
        have l16 := getD_lt (by decide) hm k
        have l15 := getD_lt (by decide) hm (k + 1)
        have l7 := getD_lt (by decide) hm (k + 9)
        have l2 := getD_lt (by decide) hm (k + 14)
        clear hm
        generalize (sc bs (k + 16)).getD k 0 = A16 at k16 HVv l16
        generalize (sc bs (k + 16)).getD (k + 1) 0 = A15 at k15 HVv l15
        generalize (sc bs (k + 16)).getD (k + 9) 0 = A7 at k7 HVv l7
        generalize (sc bs (k + 16)).getD (k + 14) 0 = A2 at k2 HVv l2
        generalize (sc bs (k + 16)).getD (k + 16) 0 = A0 at cj
        have HX0 := hide (sg0_bits A15 l15)
        have HX1 := hide (sg1_bits A2 l2)
        have HG := hide (And.intro (sg0_lt l15) (sg1_lt l2))
        go_wp2
        go_quiet (fail)
        go_wp2_with fail
        refine (rot7 _ A15 l15).mono ?_
        rintro e w' ⟨rfl, rfl⟩
        go_wp2_with fail
        refine (rot18 _ A15 l15).mono ?_
        rintro e w' ⟨rfl, rfl⟩
        have hx0 := HX0.out
        generalize rotr A15 7 = B1 at hx0 ⊢
        generalize rotr A15 18 = B2 at hx0 ⊢
        go_wp2_with fail
        refine (rot17 _ A2 l2).mono ?_
        rintro e w' ⟨rfl, rfl⟩
        go_wp2_with fail
        refine (rot19 _ A2 l2).mono ?_
        rintro e w' ⟨rfl, rfl⟩
        have hx1 := HX1.out
        generalize rotr A2 17 = B3 at hx1 ⊢
        generalize rotr A2 19 = B4 at hx1 ⊢
        obtain ⟨g0, g1⟩ := HG.out
        generalize sg0 A15 = S0 at hx0 HVv g0 ⊢
        generalize sg1 A2 = S1 at hx1 HVv g1 ⊢
        go_wp2
        go_region
        have HR4 : Hid (Arr (wr.drewN (nq + 1)) w.heap.size 55 .u32 (List.replicate 64 0) ∧ Arr (wr.drewN (nq + 1)) (w.heap.size + 1) 55 .u32 (sc bs (k + 16)) ∧ Below w.heap.size w (wr.drewN (nq + 1))) := hide ⟨HR.out.1, HR.out.2.1, HR.out.2.2.trans ⟨rfl, rfl, rfl, Nat.le_refl _, fun _ _ => rfl⟩⟩
        have HVw : Hid ((.int .u32 (((A16 : Int) + S0 + A7 + S1) % 4294967296) : Value) = .int .u32 ((scVal bs (sc bs (k + 16)) (k + 16) : Nat) : Int)) := by
          unfold Hid
          rw [HVv.out]
          congr 1
        generalize wr.drewN (nq + 1) = W4 at HR4 ⊢
        clear hx0 hx1 g0 g1 HX0 HX1 HG k16 k15 k7 k2 cj fj HR
        go_wp2
        go_roundw
        case rel => exact ⟨k + 16 + 1, by omega, by go_num, hide ⟨HR4.out.1.setNe (by omega) _ _, by rw [HV.out]; exact HR4.out.2.1.set (k + 16) _ _ HVw.out, HR4.out.2.2.setCell (by simp) _⟩⟩
        case measure => simp [intOf]; omega
    · obtain rfl : j = 64 := by omega
      have HA0 := hide HR.out.1
      have HA1 := hide HR.out.2.1
      have HB := hide HR.out.2.2
      clear HR
      go_wp2_with (first | (refine wpList_load_row rfl _ _ rfl (w.heap.size + 1) rfl 55 _ (0, 0) _ HA1.out Try.underlying55 rfl (by rw [vsize, sc_length]; exact size55) ?_) | (refine wpList_store_row rfl _ _ _ rfl w.heap.size _ rfl rfl 55 _ HA0.out (by rw [vsize, sc_length]; exact size55) (by rw [vsize, vsize, sc_length]; rfl) (vals_all _ _) ?_))
      have HX := hide (HA0.out.setRow (sc bs 64))
      have HY := hide (below_setRow HB.out (Nat.le_refl _) (vals .u32 (sc bs 64)).toArray)
      exact bodyPost_ret (results_cell_row rfl _ _ w.heap.size 55 _ (0, 0) _ rfl HX.out Try.underlying55 rfl (by rw [vsize, sc_length]; exact size55)) rfl ⟨rfl, HY.out⟩
end Go.Proofs.Ytkkildgdeagpeah.word
