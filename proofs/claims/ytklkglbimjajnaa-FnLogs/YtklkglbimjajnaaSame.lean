/- Two records are held beside each other. -/
import Derived.Test.YtklkglbimjajnaaGrant
import Derived.Lib.BufferRead
import Derived.Laws.IdiomStrings
namespace Go.Proofs.Ytklkglbimjajnaa.same
open Go.ChangeShapes Go.WideShapes Go.ChangeAt Go.RowKit
open Go.Proofs.Ytklkglbimjajnaa.Raft Go.Proofs.Ytklkglbimjajnaa.mem Go.Proofs.Ytklkglbimjajnaa.grp
set_option linter.unusedVariables false

def strOf (ys : List Int) : ByteArray := ⟨(ys.map fun y => UInt8.ofNat y.toNat).toArray⟩
theorem run_str {M : Fz} {w : World} (hI : In M w) {u : Value} {ys : List Int} (h : BytesM M u ys) : (convert 22 9 u).run Try.prog w = .ok (.string (strOf ys)) w := by
  obtain ⟨⟨ao, cap, rfl, h1, h2, h3, h4, h5⟩, hbd⟩ := h
  cases ao with
  | none =>
    obtain ⟨e1, e2⟩ := h4 rfl
    have hys : ys = [] := List.length_eq_zero_iff.1 e1
    subst hys
    exact Lib.run_convert_nil_bytes w 22 9 5 cap Try.underlying22 Try.underlying5 Try.underlying9
  | some ad =>
    have hl : (ys.map fun y => UInt8.ofNat y.toNat).length = ys.length := by simp
    have := run_convert_bytes_back (P := Try.prog) w 22 9 5 ad cap (ys.map fun y => UInt8.ofNat y.toNat) Try.underlying22 Try.underlying5 Try.underlying9 (fun j hj => by
      rw [hl] at hj
      obtain ⟨b, off, e, hc⟩ := h5 (by omega)
      simp only [Option.some.injEq] at e
      subst e
      have hb := hbd _ (List.getElem_mem hj)
      rw [addr_add, hI.cell (hc j (.int .u8 ys[j]) (by simp [hj]))]
      have hmod : (UInt8.ofNat (ys[j]).toNat).toNat = (ys[j]).toNat := by
        simp
        omega
      simp only [List.getElem_map, hmod]
      congr 2
      omega)
    rw [hl] at this
    exact this
theorem byte_inj {a b : Int} (ha : 0 ≤ a ∧ a ≤ 255) (hb : 0 ≤ b ∧ b ≤ 255) (h : UInt8.ofNat a.toNat = UInt8.ofNat b.toNat) : a = b := by
  have := congrArg UInt8.toNat h
  simp at this
  omega
theorem map_inj : ∀ (xs ys : List Int), (∀ x ∈ xs, 0 ≤ x ∧ x ≤ 255) → (∀ y ∈ ys, 0 ≤ y ∧ y ≤ 255) → xs.map (fun x => UInt8.ofNat x.toNat) = ys.map (fun x => UInt8.ofNat x.toNat) → xs = ys
  | [], [], _, _, _ => rfl
  | [], y :: ys, _, _, h => by simp at h
  | x :: xs, [], _, _, h => by simp at h
  | x :: xs, y :: ys, hx, hy, h => by
    simp only [List.map_cons, List.cons.injEq] at h
    rw [byte_inj (hx x (by simp)) (hy y (by simp)) h.1, map_inj xs ys (fun z hz => hx z (by simp [hz])) (fun z hz => hy z (by simp [hz])) h.2]
theorem str_eq {xs ys : List Int} (hx : ∀ x ∈ xs, 0 ≤ x ∧ x ≤ 255) (hy : ∀ y ∈ ys, 0 ≤ y ∧ y ≤ 255) : ((strOf xs).toList == (strOf ys).toList) = decide (xs = ys) := by
  by_cases h : xs = ys
  · subst h; simp
  · have : (strOf xs).toList ≠ (strOf ys).toList := fun e => h (map_inj xs ys hx hy (by
      have e2 : (strOf xs) = (strOf ys) := by
        have h3 := congrArg (fun l : List UInt8 => (⟨l.toArray⟩ : ByteArray)) e
        simpa [strOf] using h3
      have h4 := congrArg (fun a : ByteArray => a.data.toList) e2
      simpa [strOf] using h4))
    rw [decide_eq_false h]
    exact beq_eq_false_iff_ne.2 this

set_option maxHeartbeats 800000 in
theorem equal_any (w : World) (M : Fz) (hI : In M w) (xs ys : List Int) (o o2 : Option Addr) (n c n2 c2 : Nat) (h1 : BytesM M (.slice o n c) xs) (h2 : BytesM M (.slice o2 n2 c2) ys) :
    Calls Try.prog 142 #[.slice o n c, .slice o2 n2 c2] w fun e w' => e = .returned (.bool (decide (xs = ys))) ∧ w' = w := by
  have hs1 := run_str hI h1
  have hs2 := run_str hI h2
  have HSE := hide (str_eq h1.2 h2.2)
  clear hI h1 h2
  obtain ⟨s1, hs1e⟩ : ∃ s, s = strOf xs := ⟨_, rfl⟩
  obtain ⟨s2, hs2e⟩ : ∃ s, s = strOf ys := ⟨_, rfl⟩
  rw [← hs1e] at hs1 HSE
  rw [← hs2e] at hs2 HSE
  clear hs1e hs2e
  rw [show decide (xs = ys) = (s1.toList == s2.toList) from HSE.out.symm]
  clear HSE
  go_enter Try.func142, Try.ntmps142
  go_wp2
  go_ret
  exact ⟨rfl, rfl⟩

set_option maxHeartbeats 1600000 in
theorem same_core (w : World) (M : Fz) (hI : In M w) (t i t2 i2 : Nat) (xs ys : List Int) (o o2 : Option Addr) (n c n2 c2 : Nat) (h1 : BytesM M (.slice o n c) xs) (h2 : BytesM M (.slice o2 n2 c2) ys) :
    Calls Try.prog 119 #[.agg #[.int .i64 t, .int .i64 i, .slice o n c], .agg #[.int .i64 t2, .int .i64 i2, .slice o2 n2 c2]] w fun e w' => e = .returned (.bool (decide (t = t2) && (decide (i = i2) && decide (xs = ys)))) ∧ Below w.heap.size w w' := by
  have bW : Below w.heap.size w ((w.alloc (.cells #[.int .i64 t, .int .i64 i, .slice o n c] 38)).alloc (.cells #[.int .i64 t2, .int .i64 i2, .slice o2 n2 c2] 38)) := by
    have h := (Below.refl w.heap.size w).alloc (Nat.le_refl _) (.cells #[.int .i64 t, .int .i64 i, .slice o n c] 38)
    exact h.alloc h.size _
  have HB := hide bW
  have HQ : Hid (Calls Try.prog 142 #[.slice o n c, .slice o2 n2 c2] ((w.alloc (.cells #[.int .i64 t, .int .i64 i, .slice o n c] 38)).alloc (.cells #[.int .i64 t2, .int .i64 i2, .slice o2 n2 c2] 38)) fun e w' => e = .returned (.bool (decide (xs = ys))) ∧ w' = ((w.alloc (.cells #[.int .i64 t, .int .i64 i, .slice o n c] 38)).alloc (.cells #[.int .i64 t2, .int .i64 i2, .slice o2 n2 c2] 38))) := equal_any _ M (hI.below bW) xs ys o o2 n c n2 c2 h1 h2
  clear bW hI h1 h2
  by_cases ht : t = t2
  · subst ht
    by_cases hi : i = i2
    · subst hi
      rw [show (decide (t = t) && (decide (i = i) && decide (xs = ys))) = decide (xs = ys) from by simp]
      go_enter Try.func119, Try.ntmps119
      go_wp2_with (go_at_call 142; refine HQ.out.mono ?_; rintro e w' ⟨rfl, hw'⟩; subst hw')
      go_ret
      exact ⟨rfl, HB.out⟩
    · have hi' : ((i : Int) == i2) = false := by simp; omega
      rw [show (decide (t = t) && (decide (i = i2) && decide (xs = ys))) = false from by simp [hi]]
      clear hi
      go_enter Try.func119, Try.ntmps119
      go_wp2
      go_ret
      exact ⟨rfl, HB.out⟩
  · have ht' : ((t : Int) == t2) = false := by simp; omega
    rw [show (decide (t = t2) && (decide (i = i2) && decide (xs = ys))) = false from by simp [ht]]
    clear ht
    go_enter Try.func119, Try.ntmps119
    go_wp2
    go_ret
    exact ⟨rfl, HB.out⟩

theorem same_any (w : World) (M : Fz) (hI : In M w) (r r2 : Rc) (o o2 : Option Addr) (n c n2 c2 : Nat) (h1 : BytesM M (.slice o n c) r.data) (h2 : BytesM M (.slice o2 n2 c2) r2.data) :
    Calls Try.prog 119 #[.agg #[.int .i64 r.term, .int .i64 r.index, .slice o n c], .agg #[.int .i64 r2.term, .int .i64 r2.index, .slice o2 n2 c2]] w fun e w' => e = .returned (.bool (decide (r = r2))) ∧ Below w.heap.size w w' := by
  have e : decide (r = r2) = (decide (r.term = r2.term) && (decide (r.index = r2.index) && decide (r.data = r2.data))) := by
    cases r; cases r2
    simp [Bool.decide_and]
  rw [e]
  exact same_core w M hI r.term r.index r2.term r2.index r.data r2.data o o2 n c n2 c2 h1 h2
end Go.Proofs.Ytklkglbimjajnaa.same
