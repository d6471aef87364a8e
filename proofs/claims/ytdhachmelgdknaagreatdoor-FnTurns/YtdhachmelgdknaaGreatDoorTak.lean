/- Who takes which command: the program's table of functions. -/
import Derived.Test.YtdhachmelgdknaaGreatDoorMA
import Derived.Maps.OwnSet
namespace Go.Proofs.YtdhachmelgdknaaGreatDoor.tak
open Go.ChangeShapes Go.WideShapes Go.ChangeAt Go.RowKit
open Go.Proofs.YtdhachmelgdknaaGreatDoor.bas
set_option linter.unusedVariables false
def dec : Value → Option Nat
  | .func (.func f) ⟨[]⟩ ⟨[]⟩ => some f
  | _ => none
theorem dec_inv {v : Value} {f : Nat} (h : dec v = some f) : v = .func (.func f) #[] #[] := by
  unfold dec at h
  split at h
  · simp only [Option.some.injEq] at h
    subst h
    rfl
  · cases h
def dat (f : Nat) : DataW Unit := .lit (.int .i64 f)
def R (v : Value) : Option (DataW Unit × List MemPlace) :=
  match dec v with
  | some f => some (dat f, [])
  | none => some (.lit (.bool false), [])
theorem R_mk (f : Nat) : R (.func (.func f) #[] #[]) = some (dat f, []) := rfl
theorem R_inv {v : Value} {f : Nat} {ps : List MemPlace} (h : R v = some (dat f, ps)) : v = .func (.func f) #[] #[] := by
  unfold R at h
  split at h
  · rename_i f' e
    simp only [Option.some.injEq, Prod.mk.injEq, dat, DataW.lit.injEq, Lit.int.injEq, true_and] at h
    rw [dec_inv e, Int.ofNat_inj.1 h.1]
  · simp [dat] at h
theorem k5 : Maps.Keyed Tryz.prog 5 := Maps.int_keyed Tryz.underlying5
def pn : ByteArray := ⟨#[100, 68, 103, 71, 104, 72, 110, 78, 112, 80, 120, 61]⟩
def fb : ByteArray := ⟨#[114, 119, 101, 82, 87]⟩
def kl (c : Nat) : Lit := .int .u8 c
/-- The table has the first i plain names. -/
structure TK (w0 w : World) (n i : Nat) : Prop where
  own : ∃ D, w.ownsMap Tryz.prog 5 R w0.heap.size n D ∧ ∀ j, j < i → Maps.has D (kl (pn.data.toList.getD j 0).toNat) = true ∧ ∀ z, D.atKey (kl (pn.data.toList.getD j 0).toNat) z = dat 80
  bel : Below w0.heap.size w0 w
  big : w0.heap.size < w.heap.size
theorem isk (c : Nat) : WideAt.IsKeyLit (kl c) := trivial
theorem kl_ne {a b : Nat} (h : a ≠ b) : kl a ≠ kl b := fun e => h (by have := e; simp only [kl, Lit.int.injEq, true_and] at this; omega)
theorem key5 (c : Nat) (hc : c < 256) : keyOf Tryz.prog 5 (.int .u8 (c : Nat)) = some (kl c) := by
  have hw : (Lit.int IntKind.u8 (c : Nat)).wf = true := by
    simp [Lit.wf, IntKind.min, IntKind.max, IntKind.signed, IntKind.bits]
    omega
  simp [keyOf, mapKey, Tryz.underlying5, kl, hw]
/-- One more entry. -/
theorem TK.put {w0 w : World} {n i : Nat} (h : TK w0 w n i) (hn : n < 1000) (c f : Nat) (hc : c < 256) (hne : ∀ j, j < i → (pn.data.toList.getD j 0).toNat ≠ c) :
    ∃ w', (Instr.mapUpdate 70 (.map (some w0.heap.size)) (.int .u8 (c : Nat)) (.func (.func f) #[] #[])).run Tryz.prog w = .ok () w' ∧ TK w0 w' (n + 1) i ∧ (f = 80 → ∀ k, k = i → (pn.data.toList.getD k 0).toNat = c → TK w0 w' (n + 1) (i + 1)) := by
  obtain ⟨D, ho, hD⟩ := h.own
  obtain ⟨w', r, o, g⟩ := ho.update (t := 70) (e := 115) (key := .int .u8 (c : Nat)) (val := .func (.func f) #[] #[]) (kl := kl c) k5 Tryz.underlying70 (by unfold maxLen; omega) (key5 c hc) (R_mk f)
  have b : Below w0.heap.size w0 w' := h.bel.grown g (by have := h.big; omega) (fun k hk => by cases hk; exact Nat.le_refl _)
  have s : w0.heap.size < w'.heap.size := Nat.lt_of_lt_of_le h.big g.size
  have old : ∀ j, j < i → Maps.has (D.put (kl c) (dat f)) (kl (pn.data.toList.getD j 0).toNat) = true ∧ ∀ z, (D.put (kl c) (dat f)).atKey (kl (pn.data.toList.getD j 0).toNat) z = dat 80 := fun j hj => by
    have hk := kl_ne (hne j hj)
    rw [Maps.has_put_other hk]
    refine ⟨(hD j hj).1, fun z => ?_⟩
    rw [Maps.atKey_put_other hk]
    exact (hD j hj).2 z
  refine ⟨w', r, ⟨⟨_, o, old⟩, b, s⟩, ?_⟩
  rintro rfl k rfl hk
  refine ⟨⟨_, o, fun j hj => ?_⟩, b, s⟩
  by_cases e : j = k
  · subst e
    rw [hk]
    exact ⟨Maps.has_put_same ho.isMap (isk c) _, fun z => Maps.atKey_put_same ho.isMap (isk c) _ _⟩
  · exact old j (by omega)
set_option maxHeartbeats 1600000 in
set_option maxRecDepth 20000 in
theorem takers_any (w : World) :
    Calls Tryz.prog 47 #[] w fun e w' => e = .returned (.map (some w.heap.size)) ∧ TK w w' 28 12 := by
  have hm := run_makeMap (P := Tryz.prog) 70 w
  have o0 : TK w (w.alloc (.map #[] 0)) 0 0 := ⟨⟨_, World.ownsMap_made w Tryz.prog 5 R, fun j hj => absurd hj (by omega)⟩, (Below.refl _ _).alloc (Nat.le_refl _) _, by simp⟩
  obtain ⟨w0, hw0⟩ : ∃ w0, w.alloc (.map #[] 0) = w0 := ⟨_, rfl⟩
  rw [hw0] at hm o0
  obtain ⟨w1, r1, o1, _⟩ := o0.put (by omega) 123 72 (by omega) (fun j hj => absurd hj (by omega))
  clear o0
  replace r1 : (Instr.mapUpdate 70 (.map (some w.heap.size)) (.int .u8 123) (.func (.func 72) #[] #[])).run Tryz.prog w0 = .ok () w1 := r1
  obtain ⟨w2, r2, o2, _⟩ := o1.put (by omega) 125 73 (by omega) (fun j hj => absurd hj (by omega))
  clear o1
  replace r2 : (Instr.mapUpdate 70 (.map (some w.heap.size)) (.int .u8 125) (.func (.func 73) #[] #[])).run Tryz.prog w1 = .ok () w2 := r2
  obtain ⟨w3, r3, o3, _⟩ := o2.put (by omega) 58 74 (by omega) (fun j hj => absurd hj (by omega))
  clear o2
  replace r3 : (Instr.mapUpdate 70 (.map (some w.heap.size)) (.int .u8 58) (.func (.func 74) #[] #[])).run Tryz.prog w2 = .ok () w3 := r3
  obtain ⟨w4, r4, o4, _⟩ := o3.put (by omega) 98 75 (by omega) (fun j hj => absurd hj (by omega))
  clear o3
  replace r4 : (Instr.mapUpdate 70 (.map (some w.heap.size)) (.int .u8 98) (.func (.func 75) #[] #[])).run Tryz.prog w3 = .ok () w4 := r4
  obtain ⟨w5, r5, o5, _⟩ := o4.put (by omega) 116 75 (by omega) (fun j hj => absurd hj (by omega))
  clear o4
  replace r5 : (Instr.mapUpdate 70 (.map (some w.heap.size)) (.int .u8 116) (.func (.func 75) #[] #[])).run Tryz.prog w4 = .ok () w5 := r5
  obtain ⟨w6, r6, o6, _⟩ := o5.put (by omega) 97 76 (by omega) (fun j hj => absurd hj (by omega))
  clear o5
  replace r6 : (Instr.mapUpdate 70 (.map (some w.heap.size)) (.int .u8 97) (.func (.func 76) #[] #[])).run Tryz.prog w5 = .ok () w6 := r6
  obtain ⟨w7, r7, o7, _⟩ := o6.put (by omega) 105 76 (by omega) (fun j hj => absurd hj (by omega))
  clear o6
  replace r7 : (Instr.mapUpdate 70 (.map (some w.heap.size)) (.int .u8 105) (.func (.func 76) #[] #[])).run Tryz.prog w6 = .ok () w7 := r7
  obtain ⟨w8, r8, o8, _⟩ := o7.put (by omega) 99 76 (by omega) (fun j hj => absurd hj (by omega))
  clear o7
  replace r8 : (Instr.mapUpdate 70 (.map (some w.heap.size)) (.int .u8 99) (.func (.func 76) #[] #[])).run Tryz.prog w7 = .ok () w8 := r8
  obtain ⟨w9, r9, o9, _⟩ := o8.put (by omega) 115 77 (by omega) (fun j hj => absurd hj (by omega))
  clear o8
  replace r9 : (Instr.mapUpdate 70 (.map (some w.heap.size)) (.int .u8 115) (.func (.func 77) #[] #[])).run Tryz.prog w8 = .ok () w9 := r9
  obtain ⟨w10, r10, o10, _⟩ := o9.put (by omega) 121 78 (by omega) (fun j hj => absurd hj (by omega))
  clear o9
  replace r10 : (Instr.mapUpdate 70 (.map (some w.heap.size)) (.int .u8 121) (.func (.func 78) #[] #[])).run Tryz.prog w9 = .ok () w10 := r10
  obtain ⟨w11, r11, o11, _⟩ := o10.put (by omega) 113 79 (by omega) (fun j hj => absurd hj (by omega))
  clear o10
  replace r11 : (Instr.mapUpdate 70 (.map (some w.heap.size)) (.int .u8 113) (.func (.func 79) #[] #[])).run Tryz.prog w10 = .ok () w11 := r11
  have HB := hide o11
  have HP : Hid (∀ (wr : World) (i : Nat), i < 12 → TK w wr (11 + i) i → ∀ c, (pn.data.toList.getD i 0).toNat = c → ∃ w', (Instr.mapUpdate 70 (.map (some w.heap.size)) (.int .u8 (c : Nat)) (.func (.func 80) #[] #[])).run Tryz.prog wr = .ok () w' ∧ TK w w' (11 + (i + 1)) (i + 1)) := by
    intro wr i hi h c hc
    obtain ⟨w', r, _, h2⟩ := h.put (by omega) c 80 (by rw [← hc]; exact UInt8.toNat_lt _) (fun j hj e => by
      rw [← hc] at e
      have : ∀ a, a < 12 → ∀ b, b < a → (pn.data.toList.getD b 0).toNat ≠ (pn.data.toList.getD a 0).toNat := by decide
      exact this i hi j hj e)
    exact ⟨w', r, h2 rfl i rfl hc⟩
  have HF : Hid (∀ (wr : World) (i : Nat), i < 5 → TK w wr (23 + i) 12 → ∀ c, (fb.data.toList.getD i 0).toNat = c → ∃ w', (Instr.mapUpdate 70 (.map (some w.heap.size)) (.int .u8 (c : Nat)) (.func (.func 81) #[] #[])).run Tryz.prog wr = .ok () w' ∧ TK w w' (23 + (i + 1)) 12) := by
    intro wr i hi h c hc
    obtain ⟨w', r, h1, _⟩ := h.put (by omega) c 81 (by rw [← hc]; exact UInt8.toNat_lt _) (fun j hj e => by
      rw [← hc] at e
      have : ∀ a, a < 5 → ∀ b, b < 12 → (pn.data.toList.getD b 0).toNat ≠ (fb.data.toList.getD a 0).toNat := by decide
      exact this i hi j hj e)
    exact ⟨w', r, h1⟩
  clear o11 hw0
  go_enter Tryz.func47, Tryz.ntmps47
  go_wp2
  go_loopw [6] (fun v wr => ∃ i : Nat, i ≤ 12 ∧ v = .int .i64 i ∧ Hid (TK w wr (11 + i) i)) (fun v _ => 12 - (intOf v).toNat)
  case atStart => exact ⟨0, by omega, rfl, HB⟩
  case round =>
    obtain ⟨i, hi, rfl, HI⟩ := hrel
    clear HB
    by_cases hlt : i < 12
    · have hsz : (⟨#[100, 68, 103, 71, 104, 72, 110, 78, 112, 80, 120, 61]⟩ : ByteArray).size = 12 := rfl
      obtain ⟨c, hc⟩ : ∃ c, ((⟨#[100, 68, 103, 71, 104, 72, 110, 78, 112, 80, 120, 61]⟩ : ByteArray)[i]'(by rw [hsz]; exact hlt)).toNat = c := ⟨_, rfl⟩
      obtain ⟨w', hr, hk⟩ := HP.out wr i hlt HI.out c (by rw [← hc, List.getD_eq_getElem?_getD, List.getElem?_eq_getElem (by exact hlt)]; rfl)
      have HK := hide hk
      clear hk HI
      go_wp2
      exact ⟨⟨i + 1, by omega, by go_num, HK⟩, by simp [intOf]; omega⟩
    · have hi12 : i = 12 := by omega
      subst hi12
      clear HP hlt
      go_wp2
      go_loopw [13] (fun v wr => ∃ i : Nat, i ≤ 5 ∧ v = .int .i64 i ∧ Hid (TK w wr (23 + i) 12)) (fun v _ => 5 - (intOf v).toNat)
      case atStart => exact ⟨0, by omega, rfl, HI⟩
      case round =>
        obtain ⟨i, hi, rfl, HJ⟩ := hrel
        clear HI
        by_cases hlt : i < 5
        · have hsz : (⟨#[114, 119, 101, 82, 87]⟩ : ByteArray).size = 5 := rfl
          obtain ⟨c, hc⟩ : ∃ c, ((⟨#[114, 119, 101, 82, 87]⟩ : ByteArray)[i]'(by rw [hsz]; exact hlt)).toNat = c := ⟨_, rfl⟩
          obtain ⟨w', hr, hk⟩ := HF.out wr i hlt HJ.out c (by rw [← hc, List.getD_eq_getElem?_getD, List.getElem?_eq_getElem (by exact hlt)]; rfl)
          have HK := hide hk
          clear hk HJ
          go_wp2
          exact ⟨⟨i + 1, by omega, by go_num, HK⟩, by simp [intOf]; omega⟩
        · have hi5 : i = 5 := by omega
          subst hi5
          clear HF hlt
          go_wp2
          go_ret
          exact ⟨rfl, HJ.out⟩
/-- A plain name is looked up. -/
theorem look_plain {w0 w : World} {n : Nat} (h : TK w0 w n 12) (j : Nat) (hj : j < 12) (c : Nat) (hc : (pn.data.toList.getD j 0).toNat = c) :
    (Instr.lookup 70 (.map (some w0.heap.size)) (.int .u8 (c : Nat)) true).run Tryz.prog w = .ok (.tuple #[.func (.func 80) #[] #[], .bool true]) w := by
  obtain ⟨D, ho, hD⟩ := h.own
  obtain ⟨z, hz⟩ : ∃ z, (zeroValue 115).run Tryz.prog w = .ok z w := ⟨.nilFunc, by kernel_rfl⟩
  obtain ⟨y, hy⟩ : ∃ y, R z = some y := by
    unfold R
    split
    · exact ⟨_, rfl⟩
    · exact ⟨_, rfl⟩
  obtain ⟨v, ps, hrun, hR⟩ := ho.look_ok (t := 70) (e := 115) (key := .int .u8 (c : Nat)) (kl := kl c) k5 Tryz.underlying70 hz (zd := y.1) (zp := y.2) hy (key5 c (by rw [← hc]; exact UInt8.toNat_lt _))
  obtain ⟨k1, k2⟩ := hD j hj
  rw [hc] at k1 k2
  rw [k1] at hrun
  rw [k2] at hR
  rw [R_inv hR] at hrun
  exact hrun
theorem TK.keep {w0 w w' : World} {n i : Nat} (h : TK w0 w n i) {B : Nat} (hk : w'.heap[w0.heap.size]? = w.heap[w0.heap.size]?) (hb : Below w0.heap.size w0 w') (hs : w0.heap.size < w'.heap.size) : TK w0 w' n i := by
  obtain ⟨D, ⟨es, clock, hbk, r⟩, hD⟩ := h.own
  exact ⟨⟨D, ⟨es, clock, hk.trans hbk, r⟩, hD⟩, hb, hs⟩
/-- The table of takers at a block. -/
def TKo (w : World) (m : Nat) : Prop := ∃ n D, w.ownsMap Tryz.prog 5 R m n D ∧ ∀ j, j < 12 → Maps.has D (kl (pn.data.toList.getD j 0).toNat) = true ∧ ∀ z, D.atKey (kl (pn.data.toList.getD j 0).toNat) z = dat 80
theorem TK.tko {w0 w : World} {n : Nat} (h : TK w0 w n 12) : TKo w w0.heap.size := by
  obtain ⟨D, ho, hD⟩ := h.own
  exact ⟨n, D, ho, hD⟩
theorem TKo.keep {w w' : World} {m : Nat} (h : TKo w m) (hk : w'.heap[m]? = w.heap[m]?) : TKo w' m := by
  obtain ⟨n, D, ⟨es, clock, hbk, r⟩, hD⟩ := h
  exact ⟨n, D, ⟨es, clock, hk.trans hbk, r⟩, hD⟩
theorem TKo.lt {w : World} {m : Nat} (h : TKo w m) : m < w.heap.size := by
  obtain ⟨n, D, ho, hD⟩ := h
  exact ho.lt
theorem TKo.look {w : World} {m : Nat} (h : TKo w m) (j : Nat) (hj : j < 12) (c : Nat) (hc : (pn.data.toList.getD j 0).toNat = c) :
    (Instr.lookup 70 (.map (some m)) (.int .u8 (c : Nat)) true).run Tryz.prog w = .ok (.tuple #[.func (.func 80) #[] #[], .bool true]) w := by
  obtain ⟨n, D, ho, hD⟩ := h
  obtain ⟨z, hz⟩ : ∃ z, (zeroValue 115).run Tryz.prog w = .ok z w := ⟨.nilFunc, by kernel_rfl⟩
  obtain ⟨y, hy⟩ : ∃ y, R z = some y := by
    unfold R
    split
    · exact ⟨_, rfl⟩
    · exact ⟨_, rfl⟩
  obtain ⟨v, ps, hrun, hR⟩ := ho.look_ok (t := 70) (e := 115) (key := .int .u8 (c : Nat)) (kl := kl c) k5 Tryz.underlying70 hz (zd := y.1) (zp := y.2) hy (key5 c (by rw [← hc]; exact UInt8.toNat_lt _))
  obtain ⟨k1, k2⟩ := hD j hj
  rw [hc] at k1 k2
  rw [k1] at hrun
  rw [k2] at hR
  rw [R_inv hR] at hrun
  exact hrun
end Go.Proofs.YtdhachmelgdknaaGreatDoor.tak
