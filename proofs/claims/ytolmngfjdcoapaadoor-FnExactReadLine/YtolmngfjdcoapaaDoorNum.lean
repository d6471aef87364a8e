/- Numbers as texts: those that have just one text, of at most eighteen digits. No program, no world. -/
import Derived.Lib.AtoiAll
import Derived.Lib.ItoaNum
namespace Go.Proofs.YtolmngfjdcoapaaDoor.num
open Go.Lib
set_option linter.unusedVariables false
/-- What decimal digits spell, behind acc. -/
def dv (acc : Nat) : List UInt8 → Option Nat
  | [] => some acc
  | c :: r => if 48 ≤ c.toNat ∧ c.toNat ≤ 57 then dv (acc * 10 + (c.toNat - 48)) r else none
def mag (neg : Bool) (l : List UInt8) : Option Nat := if l.length = 0 ∨ 18 < l.length ∨ (l.head? = some 48 ∧ (1 < l.length ∨ neg = true)) then none else dv 0 l
/-- A number's text: a minus or none, then digits. -/
def numS (l : List UInt8) : Option Int := if l.head? = some 45 then (mag true l.tail).map (fun (u : Nat) => -(u : Int)) else (mag false l).map (fun (u : Nat) => (u : Int))
theorem dv_snoc (c : UInt8) : ∀ (l : List UInt8) (acc : Nat), dv acc (l ++ [c]) = (dv acc l).bind (fun u => if 48 ≤ c.toNat ∧ c.toNat ≤ 57 then some (u * 10 + (c.toNat - 48)) else none)
  | [], acc => by simp [dv]
  | b :: l, acc => by
    simp only [List.cons_append, dv]
    split
    · exact dv_snoc c l _
    · rfl
theorem ofNat_toNat {c : UInt8} (h : 48 ≤ c.toNat) : UInt8.ofNat (48 + (c.toNat - 48)) = c := by
  rw [show 48 + (c.toNat - 48) = c.toNat by omega]
  exact UInt8.ofNat_toNat
theorem digs_small {u : Nat} (h : u < 10) : decDigits u = [UInt8.ofNat (48 + u)] := by rw [decDigits, dif_pos h]
theorem digs_big {u : Nat} (h : ¬ u < 10) : decDigits u = decDigits (u / 10) ++ [UInt8.ofNat (48 + u % 10)] := by rw [decDigits, dif_neg h]
theorem toNat_of {d : Nat} (h : d < 10) : (UInt8.ofNat (48 + d)).toNat = 48 + d := by
  rw [UInt8.toNat_ofNat']
  omega
/-- Digits with no nought ahead are the text of what they spell. -/
theorem spell : ∀ (n : Nat) (l : List UInt8), l.length = n + 1 → l.head? ≠ some 48 → ∀ u, dv 0 l = some u → decDigits u = l ∧ 0 < u ∧ u < 10 ^ (n + 1)
  | 0, l, hl, hh, u, hu => by
    match l, hl with
    | [c], _ =>
      simp only [dv, Nat.zero_mul, Nat.zero_add] at hu
      split at hu
      · rename_i hc
        simp only [Option.some.injEq] at hu
        subst hu
        have hne : c.toNat ≠ 48 := fun e => hh (by rw [List.head?_cons, show c = 48 from UInt8.toNat_inj.1 e])
        rw [digs_small (by omega), ofNat_toNat hc.1]
        exact ⟨rfl, by omega, by omega⟩
      · cases hu
  | n + 1, l, hl, hh, u, hu => by
    obtain ⟨l', c, rfl⟩ : ∃ l' c, l = l' ++ [c] := ⟨l.dropLast, l.getLast (by intro e; simp [e] at hl), (List.dropLast_concat_getLast _).symm⟩
    have hl' : l'.length = n + 1 := by simpa using hl
    have hh' : l'.head? ≠ some 48 := by
      match l', hl' with
      | b :: r, _ => simpa using hh
    rw [dv_snoc] at hu
    cases hd : dv 0 l' with
    | none => rw [hd] at hu; cases hu
    | some u' =>
      rw [hd] at hu
      simp only [Option.bind_some] at hu
      split at hu
      · rename_i hc
        simp only [Option.some.injEq] at hu
        obtain ⟨e1, e2, e3⟩ := spell n l' hl' hh' u' hd
        subst hu
        have hq : (u' * 10 + (c.toNat - 48)) / 10 = u' := by omega
        have hr : (u' * 10 + (c.toNat - 48)) % 10 = c.toNat - 48 := by omega
        rw [digs_big (by omega), hq, hr, e1, ofNat_toNat hc.1]
        refine ⟨rfl, by omega, ?_⟩
        rw [Nat.pow_succ]
        omega
      · cases hu
/-- The text of a number: digits, no nought ahead but alone. -/
theorem digs (n : Nat) : ∀ u, u < 10 ^ (n + 1) → dv 0 (decDigits u) = some u ∧ 0 < (decDigits u).length ∧ (decDigits u).length ≤ n + 1 ∧ (0 < u → (decDigits u).head? ≠ some 48) ∧ (decDigits u).head? ≠ some 45 := by
  induction n with
  | zero =>
    intro u hu
    have hu' : u < 10 := by simpa using hu
    rw [digs_small hu']
    have ht := toNat_of hu'
    refine ⟨?_, by simp, by simp, fun hp => ?_, ?_⟩
    · simp only [dv, ht, Nat.zero_mul, Nat.zero_add]
      rw [if_pos ⟨by omega, by omega⟩]
      congr 1
      omega
    · intro e
      simp only [List.head?_cons, Option.some.injEq] at e
      rw [e] at ht
      have : (48 : UInt8).toNat = 48 := rfl
      omega
    · intro e
      simp only [List.head?_cons, Option.some.injEq] at e
      rw [e] at ht
      have : (45 : UInt8).toNat = 45 := rfl
      omega
  | succ n ih =>
    intro u hu
    by_cases h : u < 10
    · have := (ih u (by rw [Nat.pow_succ]; have := Nat.one_le_pow n 10 (by decide); omega))
      exact ⟨this.1, this.2.1, by omega, this.2.2.2⟩
    · rw [digs_big h]
      obtain ⟨i1, i2, i3, i4, i5⟩ := ih (u / 10) (by rw [Nat.pow_succ] at hu; omega)
      have ht := toNat_of (d := u % 10) (by omega)
      have hd : ∀ x, (decDigits (u / 10) ++ [x]).head? = (decDigits (u / 10)).head? := fun x => by
        match decDigits (u / 10), i2 with
        | b :: r, _ => rfl
      refine ⟨?_, by simp, by simp; omega, fun _ => ?_, ?_⟩
      · rw [dv_snoc, i1, ht]
        simp only [Option.bind_some]
        rw [if_pos ⟨by omega, by omega⟩]
        congr 1
        omega
      · rw [hd]; exact i4 (by omega)
      · rw [hd]; exact i5
theorem itoa_ok {n : Int} (h : -999999999999999999 ≤ n ∧ n ≤ 999999999999999999) : numS (itoa n) = some n := by
  unfold itoa
  split
  · rename_i hn
    obtain ⟨d1, d2, d3, d4, d5⟩ := digs 17 n.natAbs (by show _ < 1000000000000000000; omega)
    unfold numS
    rw [if_pos (by rfl)]
    show (mag true (decDigits n.natAbs)).map _ = _
    unfold mag
    have := d4 (by omega)
    rw [if_neg (by rintro (e | e | ⟨e, _⟩) <;> first | omega | exact this e), d1]
    simp only [Option.map_some, Option.some.injEq]
    omega
  · rename_i hn
    obtain ⟨d1, d2, d3, d4, d5⟩ := digs 17 n.toNat (by show _ < 1000000000000000000; omega)
    unfold numS
    rw [if_neg d5]
    unfold mag
    have hz : ¬ ((decDigits n.toNat).length = 0 ∨ 18 < (decDigits n.toNat).length ∨ ((decDigits n.toNat).head? = some 48 ∧ (1 < (decDigits n.toNat).length ∨ false = true))) := by
      rintro (e | e | ⟨e1, e2 | e2⟩)
      · omega
      · omega
      · by_cases h0 : 0 < n.toNat
        · exact d4 h0 e1
        · rw [show n.toNat = 0 by omega, digs_small (by decide)] at e2
          simp at e2
      · cases e2
    rw [if_neg hz, d1]
    simp only [Option.map_some, Option.some.injEq]
    omega
theorem mag_spell {neg : Bool} {l : List UInt8} {u : Nat} (h : mag neg l = some u) : decDigits u = l ∧ u < 1000000000000000000 ∧ (neg = true → 0 < u) := by
  unfold mag at h
  split at h
  · cases h
  · rename_i hc
    have hl : l.length ≠ 0 ∧ l.length ≤ 18 := ⟨fun e => hc (.inl e), by omega⟩
    by_cases h0 : l.head? = some 48
    · have h1 : l.length = 1 := by
        rcases Nat.lt_or_ge 1 l.length with e | e
        · exact absurd (.inr (.inr ⟨h0, .inl e⟩)) hc
        · omega
      have hn : neg = false := by
        cases neg with
        | false => rfl
        | true => exact absurd (.inr (.inr ⟨h0, .inr rfl⟩)) hc
      match l, h1 with
      | [c], _ =>
        simp only [List.head?_cons, Option.some.injEq] at h0
        subst h0
        have hu : u = 0 := by simpa [dv] using h.symm
        subst hu
        exact ⟨by rw [digs_small (by decide)]; rfl, by decide, fun e => by rw [hn] at e; cases e⟩
    · obtain ⟨e1, e2, e3⟩ := spell (l.length - 1) l (by omega) h0 u h
      refine ⟨e1, ?_, fun _ => e2⟩
      have : 10 ^ (l.length - 1 + 1) ≤ 10 ^ 18 := Nat.pow_le_pow_right (by decide) (by omega)
      have e : (10 : Nat) ^ 18 = 1000000000000000000 := by decide
      omega
theorem numS_itoa {l : List UInt8} {n : Int} (h : numS l = some n) : l = itoa n ∧ -999999999999999999 ≤ n ∧ n ≤ 999999999999999999 := by
  unfold numS at h
  split at h
  · rename_i h45
    cases hm : mag true l.tail with
    | none => rw [hm] at h; cases h
    | some u =>
      rw [hm] at h
      simp only [Option.map_some, Option.some.injEq] at h
      obtain ⟨e1, e2, e3⟩ := mag_spell hm
      have e3 := e3 rfl
      subst h
      refine ⟨?_, by omega, by omega⟩
      unfold itoa
      rw [if_pos (by omega), show (-(u : Int)).natAbs = u by omega, e1]
      match l, h45 with
      | c :: r, h => simp only [List.head?_cons, Option.some.injEq] at h; rw [h]; rfl
  · cases hm : mag false l with
    | none => rw [hm] at h; cases h
    | some u =>
      rw [hm] at h
      simp only [Option.map_some, Option.some.injEq] at h
      obtain ⟨e1, e2, e3⟩ := mag_spell hm
      subst h
      refine ⟨?_, by omega, by omega⟩
      unfold itoa
      rw [if_neg (by omega), show ((u : Int)).toNat = u by omega, e1]
theorem dv_le : ∀ (l : List UInt8) (acc u : Nat), dv acc l = some u → acc ≤ u
  | [], acc, u, h => by simp only [dv, Option.some.injEq] at h; omega
  | c :: r, acc, u, h => by
    simp only [dv] at h
    split at h
    · have := dv_le r _ u h; omega
    · cases h
theorem parse_dv : ∀ (l : List UInt8) (acc u : Nat), dv acc l = some u → u < 9223372036854775808 → parseUint10 acc l = .ok u
  | [], acc, u, h, _ => by simp only [dv, Option.some.injEq] at h; simp [parseUint10, h]
  | c :: r, acc, u, h, hu => by
    simp only [dv] at h
    split at h
    · rename_i hc
      have := dv_le r _ u h
      rw [parseUint10, if_pos hc, if_neg (by omega), if_neg (by omega)]
      exact parse_dv r _ u h hu
    · cases h
theorem atoi_ok {n : Int} (h : -999999999999999999 ≤ n ∧ n ≤ 999999999999999999) : atoiAll (itoa n) = .ok n := by
  unfold itoa
  split
  · rename_i hn
    obtain ⟨d1, d2, d3, d4, d5⟩ := digs 17 n.natAbs (by show _ < 1000000000000000000; omega)
    have hp : parseMag (decDigits n.natAbs) = .ok n.natAbs := by
      unfold parseMag
      rw [if_neg (by intro e; rw [e] at d2; simp at d2)]
      exact parse_dv _ _ _ d1 (by omega)
    have e45 : (45 : UInt8).toNat = 45 := rfl
    simp only [atoiAll, e45]
    rw [if_pos (by simp), hp]
    simp only [not_true_eq_false, false_and, if_false, true_and, if_true]
    rw [if_neg (by omega)]
    congr 1
    omega
  · rename_i hn
    obtain ⟨d1, d2, d3, d4, d5⟩ := digs 17 n.toNat (by show _ < 1000000000000000000; omega)
    have hp : parseMag (decDigits n.toNat) = .ok n.toNat := by
      unfold parseMag
      rw [if_neg (by intro e; rw [e] at d2; simp at d2)]
      exact parse_dv _ _ _ d1 (by omega)
    match hl : decDigits n.toNat, d2 with
    | c :: r, _ =>
      rw [hl] at d1 d5 hp
      have hc : 48 ≤ c.toNat ∧ c.toNat ≤ 57 := by
        simp only [dv] at d1
        split at d1
        · rename_i h; exact h
        · cases d1
      have n1 : ¬ (c.toNat = 43 ∨ c.toNat = 45) := by omega
      have n2 : ¬ c.toNat = 45 := by omega
      simp only [atoiAll]
      rw [if_neg n1, hp]
      simp only [n2, not_false_eq_true, true_and, false_and, if_false]
      rw [if_neg (by omega)]
      congr 1
      omega
/-- What the program asks of a number's text is what the specification asks. -/
theorem alike (l : List UInt8) (n : Int) : numS l = some n ↔ (atoiAll l = .ok n ∧ itoa n = l ∧ -999999999999999999 ≤ n ∧ n ≤ 999999999999999999) := by
  constructor
  · intro h
    obtain ⟨e1, e2⟩ := numS_itoa h
    exact ⟨by rw [e1]; exact atoi_ok e2, e1.symm, e2⟩
  · rintro ⟨_, e, h⟩
    rw [← e]
    exact itoa_ok h
end Go.Proofs.YtolmngfjdcoapaaDoor.num
