/- A product of numbers of 16-bit digits, as the specification reckons it. -/
import Derived.Test.YtkkildgdeagpeahSpecPr
namespace Go.Proofs.Ytkkildgdeagpeah.times
open Go.ChangeShapes Go.WideShapes Go.ChangeAt Go.RowKit
open Go.Proofs.Ytkkildgdeagpeah.bytes Go.Proofs.Ytkkildgdeagpeah.pile Go.Proofs.Ytkkildgdeagpeah.rot Go.Proofs.Ytkkildgdeagpeah.root Go.Proofs.Ytkkildgdeagpeah.arr Go.Proofs.Ytkkildgdeagpeah.primes Go.Proofs.Ytkkildgdeagpeah.specpr
set_option linter.unusedVariables false

/-- One digit of the first number against the second: k of its digits done; and what is carried. -/
def tIn (b : List Nat) (ai i : Nat) (out : List Nat) : Nat → List Nat × Nat
  | 0 => (out, 0)
  | k + 1 => ((tIn b ai i out k).1.set (i + k) (((tIn b ai i out k).1.getD (i + k) 0 + ai * b.getD k 0 + (tIn b ai i out k).2) % 65536), ((tIn b ai i out k).1.getD (i + k) 0 + ai * b.getD k 0 + (tIn b ai i out k).2) / 65536)
def tOut (a b : List Nat) : Nat → List Nat
  | 0 => List.replicate (a.length + b.length) 0
  | i + 1 => (tIn b (a.getD i 0) i (tOut a b i) b.length).1.set (i + b.length) (tIn b (a.getD i 0) i (tOut a b i) b.length).2
theorem tIn_len (b : List Nat) (ai i : Nat) (out : List Nat) (k : Nat) : (tIn b ai i out k).1.length = out.length := by
  induction k with
  | zero => rfl
  | succ k ih => rw [tIn]; simp only [List.length_set]; exact ih
theorem tOut_len (a b : List Nat) (i : Nat) : (tOut a b i).length = a.length + b.length := by
  induction i with
  | zero => simp [tOut]
  | succ i ih => rw [tOut, List.length_set, tIn_len, ih]
theorem gD_lt {l : List Nat} {m : Nat} (hm : 0 < m) (h : ∀ x ∈ l, x < m) (i : Nat) : l.getD i 0 < m := by
  rw [List.getD_eq_getElem?_getD]
  cases e : l[i]? with
  | none => simpa using hm
  | some x => exact h x (List.mem_of_getElem? e)
theorem dig_sum {x a b c : Nat} (hx : x < 65536) (ha : a < 65536) (hb : b < 65536) (hc : c < 65536) : x + a * b + c < 4294967296 := by
  have : a * b ≤ 65535 * 65535 := Nat.mul_le_mul (by omega) (by omega)
  omega
theorem tIn_lt {b : List Nat} {ai i : Nat} {out : List Nat} (hb : ∀ x ∈ b, x < 65536) (ha : ai < 65536) (ho : ∀ x ∈ out, x < 65536) (k : Nat) : (∀ x ∈ (tIn b ai i out k).1, x < 65536) ∧ (tIn b ai i out k).2 < 65536 := by
  induction k with
  | zero => exact ⟨ho, by show 0 < 65536; decide⟩
  | succ k ih =>
    have hs := dig_sum (gD_lt (by decide) ih.1 (i + k)) ha (gD_lt (by decide) hb k) ih.2
    rw [tIn]
    refine ⟨fun x hx => ?_, by simp only; omega⟩
    rcases List.mem_or_eq_of_mem_set hx with h | rfl
    · exact ih.1 x h
    · exact Nat.mod_lt _ (by decide)
theorem tOut_lt {a b : List Nat} (ha : ∀ x ∈ a, x < 65536) (hb : ∀ x ∈ b, x < 65536) (i : Nat) : ∀ x ∈ tOut a b i, x < 65536 := by
  induction i with
  | zero => intro x hx; have := List.eq_of_mem_replicate hx; omega
  | succ i ih =>
    intro x hx
    have h2 := tIn_lt hb (gD_lt (by decide) ha i) ih (i := i) b.length
    rw [tOut] at hx
    rcases List.mem_or_eq_of_mem_set hx with h | rfl
    · exact h2.1 x h
    · exact h2.2
theorem row_arr {w : World} {base g n : Nat} {xs : List Nat} (hn : xs.length = n) (h : w.ownsRow base 3 1 (.slice (some ⟨g, 0, none⟩) n n) n (vals .i64 xs)) : Arr w g 3 .i64 xs := by
  obtain ⟨_, ⟨e, _⟩ | ⟨g', cap, cur, e, _, hg, _, _, hs, ht⟩⟩ := h
  · simp at e
  · simp only [Value.slice.injEq, Option.some.injEq, Addr.mk.injEq] at e
    obtain ⟨⟨rfl, _⟩, _, rfl⟩ := e
    unfold Arr
    rw [hg]
    congr 2
    apply Array.toList_inj.1
    rw [← ht]
    rw [List.take_of_length_le (by simp [hs])]
theorem made_i64 (n : Nat) : (madeCells (Value.int .i64 0).cells (n * 1)).toList = vals .i64 (List.replicate n 0) := by
  rw [Nat.mul_one]
  exact (toList_madeCells_one (.int .i64 0) n).trans (by simp [vals])

set_option maxRecDepth 20000 in
set_option maxHeartbeats 8000000 in
theorem times_any (w : World) (ga gb ca cb : Nat) (a b : List Nat) (hA : Arr w ga 3 .i64 a) (hB : Arr w gb 3 .i64 b) (la : a.length ≤ 20) (lb : b.length ≤ 20) (da : ∀ x ∈ a, x < 65536) (db : ∀ x ∈ b, x < 65536) :
    Calls Try.prog 64 #[.slice (some ⟨ga, 0, none⟩) a.length ca, .slice (some ⟨gb, 0, none⟩) b.length cb] w fun e w' => e = .returned (.slice (some ⟨w.heap.size, 0, none⟩) (a.length + b.length) (a.length + b.length)) ∧ Arr w' w.heap.size 3 .i64 (tOut a b a.length) ∧ Below w.heap.size w w' := by
  have hga := hA.lt
  have hgb := hB.lt
  have HA := hide hA
  have HB := hide hB
  clear hA hB
  obtain ⟨i0, hi, hz0, hz1, hz2⟩ := info_parts info3
  have HI := hide (And.intro hi (And.intro hz0 (And.intro hz1 hz2)))
  clear hi hz0 hz1 hz2
  obtain ⟨n, hn⟩ : ∃ n, n = a.length + b.length := ⟨_, rfl⟩
  obtain ⟨p, hp⟩ : ∃ p, p = a.length := ⟨_, rfl⟩
  obtain ⟨q, hq⟩ : ∃ q, q = b.length := ⟨_, rfl⟩
  have HN := hide (And.intro hn (And.intro hp hq))
  rw [← hn, ← hp, ← hq]
  have hnpq : (p : Int) + (q : Int) = (n : Int) := by omega
  have hp20 : p ≤ 20 := by omega
  have hq20 : q ≤ 20 := by omega
  have hn40 : n ≤ 40 := by omega
  clear hn hp hq la lb
  go_enter Try.func64, Try.ntmps64
  go_wp2_with (at_make; refine wpList_make_full _ rfl _ _ 77 rfl w.heap.size 3 i0 (.int .i64 0) 1 Try.underlying77 HI.out.1 HI.out.2.1 HI.out.2.2.1 .i64 .i64 _ _ n rfl rfl (by first | rfl | exact hnpq) (by first | rfl | exact hnpq) (by rw [HI.out.2.2.2]; omega) (by unfold maxLen; omega) (Nat.le_refl _) ?_; intro w1 hown1 hgrow1)
  have HS1 : Hid (Arr w1 w.heap.size 3 .i64 (tOut a b 0) ∧ Below w.heap.size w w1) := by
    refine hide ⟨?_, (Below.refl _ _).grown hgrow1 (Nat.le_refl _) (fun k hk => by simp at hk)⟩
    rw [made_i64] at hown1
    have h := row_arr (by simp) hown1
    rw [HN.out.1] at h
    exact h
  clear hown1 hgrow1 HI
  go_loopw [6] (fun iv wr => ∃ i : Nat, i ≤ p ∧ iv = .int .i64 i ∧ Hid (Arr wr w.heap.size 3 .i64 (tOut a b i) ∧ Below w.heap.size w wr)) (fun iv _ => p - (intOf iv).toNat)
  case atStart => exact ⟨0, by omega, rfl, HS1⟩
  case round =>
    obtain ⟨i, hi, rfl, HR⟩ := hrel
    clear HS1
    by_cases hip : i < p
    · have hlo := tOut_len a b i
      have HLo := hide hlo
      clear hlo
      have hdo := tOut_lt da db i
      have HAi : Hid (∀ W, Below w.heap.size w W → W.cell? ⟨ga, i, none⟩ = some (.int .i64 (a.getD i 0 : Nat))) := hide (fun W hW => by rw [hW.cell hga]; exact HA.out.cell (by have := HN.out; omega))
      have lai := gD_lt (by decide) da i
      have HO : Hid (tOut a b (i + 1) = (tIn b (a.getD i 0) i (tOut a b i) b.length).1.set (i + b.length) (tIn b (a.getD i 0) i (tOut a b i) b.length).2) := hide rfl
      generalize a.getD i 0 = ai at HAi lai HO
      have HS2 : Hid (Arr wr w.heap.size 3 .i64 (tIn b ai i (tOut a b i) 0).1 ∧ Below w.heap.size w wr) := hide HR.out
      generalize tOut a b i = ot at HLo hdo HO HS2
      clear HR
      have hipI : decide ((i : Int) < (p : Int)) = true := by simp; omega
      go_wp2
      go_loopw [7, 8] (fun cv kv wx => ∃ k : Nat, k ≤ q ∧ kv = .int .i64 k ∧ cv = .int .i64 ((tIn b ai i ot k).2 : Nat) ∧ Hid (Arr wx w.heap.size 3 .i64 (tIn b ai i ot k).1 ∧ Below w.heap.size w wx)) (fun _ kv _ => q - (intOf kv).toNat)
      case atStart => exact ⟨0, by omega, rfl, rfl, HS2⟩
      case round =>
        obtain ⟨k, hk, rfl, rfl, HX⟩ := hrel
        clear HS2
        by_cases hkq : k < q
        · have hts := tIn_lt db lai hdo (i := i) k
          have co := HX.out.1.cell (i := i + k) (by rw [tIn_len, HLo.out]; have := HN.out; omega)
          have fo := HX.out.1.frozen (i + k)
          have cA := HAi.out _ HX.out.2
          have HBk : Hid (∀ W, Below w.heap.size w W → W.cell? ⟨gb, k, none⟩ = some (.int .i64 (b.getD k 0 : Nat))) := hide (fun W hW => by rw [hW.cell hgb]; exact HB.out.cell (by have := HN.out; omega))
          have cB := HBk.out _ HX.out.2
          clear HBk
          have HT1 : Hid ((tIn b ai i ot (k + 1)).1 = (tIn b ai i ot k).1.set (i + k) (((tIn b ai i ot k).1.getD (i + k) 0 + ai * b.getD k 0 + (tIn b ai i ot k).2) % 65536)) := hide rfl
          have HT2 : Hid ((tIn b ai i ot (k + 1)).2 = ((tIn b ai i ot k).1.getD (i + k) 0 + ai * b.getD k 0 + (tIn b ai i ot k).2) / 65536) := hide rfl
          have hsum := dig_sum (gD_lt (by decide) hts.1 (i + k)) lai (gD_lt (by decide) db k) hts.2
          have lX := gD_lt (by decide) hts.1 (i + k)
          have lB := gD_lt (by decide) db k
          have lC := hts.2
          clear hts
          generalize (tIn b ai i ot k).1.getD (i + k) 0 = X at co HT1 HT2 hsum lX
          generalize b.getD k 0 = Bk at cB HT1 HT2 hsum lB
          generalize (tIn b ai i ot k).2 = C at HT1 HT2 hsum lC ⊢
          obtain ⟨Pm, hPm⟩ : ∃ Pm, Pm = ai * Bk := ⟨_, rfl⟩
          rw [← hPm] at HT1 HT2 hsum
          have hPi : (ai : Int) * (Bk : Int) = (Pm : Int) := by rw [hPm, Int.natCast_mul]
          have HPm := hide hPm
          clear hPm
          have hikI : (i : Int) + (k : Int) < (n : Int) := by have := HN.out; omega
          go_wp2
          go_quiet (fail)
          have HX4 : Hid (Arr (wr.drewN nq) w.heap.size 3 .i64 (tIn b ai i ot k).1 ∧ Below w.heap.size w (wr.drewN nq)) := hide ⟨HX.out.1, HX.out.2.trans ⟨rfl, rfl, rfl, Nat.le_refl _, fun _ _ => rfl⟩⟩
          have co4 : (wr.drewN nq).cell? ⟨w.heap.size, i + k, none⟩ = some (.int .i64 (X : Nat)) := co
          have fo4 := HX4.out.1.frozen (i + k)
          generalize wr.drewN nq = W4 at HX4 co4 fo4 ⊢
          clear HX co fo cA cB hPi
          go_wp2
          go_roundw
          case rel => exact ⟨k + 1, by omega, by go_num, by rw [HT2.out]; first | (congr 1; done) | (congr 1; omega), hide ⟨by rw [HT1.out]; exact HX4.out.1.set (i + k) _ _ (by first | (congr 1; done) | (congr 1; omega)), HX4.out.2.setCell (Nat.le_refl _) _⟩⟩
          case measure => simp [intOf]; omega
        · obtain rfl : k = q := by omega
          rw [← HN.out.2.2] at HO
          have lC := (tIn_lt db lai hdo (i := i) k).2
          have co := HX.out.1.cell (i := i + k) (by rw [tIn_len, HLo.out]; have := HN.out; omega)
          have fo := HX.out.1.frozen (i + k)
          generalize (tIn b ai i ot k).1.getD (i + k) 0 = X at co
          generalize (tIn b ai i ot k).2 = C at HO lC ⊢
          generalize (tIn b ai i ot k).1 = ol at HX HO
          have hikI : (i : Int) + (k : Int) < (n : Int) := by have := HN.out; omega
          go_wp2
          go_roundw
          case rel => exact ⟨i + 1, by omega, by go_num, hide ⟨by rw [HO.out]; exact HX.out.1.set (i + k) _ _ rfl, HX.out.2.setCell (Nat.le_refl _) _⟩⟩
          case measure => simp [intOf]; omega
    · obtain rfl : i = p := by omega
      go_wp2
      go_ret
      exact ⟨rfl, HR.out.1, HR.out.2⟩
end Go.Proofs.Ytkkildgdeagpeah.times
