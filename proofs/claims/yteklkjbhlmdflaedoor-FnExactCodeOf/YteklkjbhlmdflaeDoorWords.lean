/- The table of the codes' words: what it holds, and what the functions that read it return. -/
import Derived.Test.YteklkjbhlmdflaeDoorRows
import Derived.WalkKit
import Derived.ProofKit
import Derived.WalkSpells
import Derived.WalkSmall
import Derived.Below
import Derived.OpenShut
import Derived.ShutString
import Derived.Deep.DeepHandedRow
import Derived.Lib.LaidTab
import Derived.ChangeVars
import Derived.Outline
namespace Go.Proofs.YteklkjbhlmdflaeDoor.words
open Go.ChangeShapes Go.WideShapes Go.ChangeAt Go.RowKit
set_option linter.unusedVariables false

theorem hide {p : Prop} (h : p) : Hid p := h
theorem own : ownKnob Tryd.prog.godebug = none := by kernel_rfl
theorem gTab : Tryd.prog.globalNamed "loop.example/g00142/impl.codeWords" = some 0 := by kernel_rfl
theorem gTabType : (Tryd.prog.globals[0]?).map (·.type) = some 27 := by kernel_rfl
theorem cells27 : Tryd.prog.cellsOf 27 = 16 := by kernel_rfl
theorem cells9 : Tryd.prog.cellsOf 9 = 1 := by kernel_rfl
def cells16 : Array Value := #[.string ⟨#[111, 107]⟩, .string ⟨#[98, 97, 100]⟩, .string ⟨#[108, 111, 110, 103]⟩, .string ⟨#[102, 111, 114, 109]⟩, .string ⟨#[115, 121, 110, 116, 97, 120]⟩, .string ⟨#[114, 97, 110, 103, 101]⟩, .string ⟨#[110, 111, 110, 101]⟩, .string ⟨#[109, 97, 110, 121]⟩, .string ⟨#[115, 117, 109]⟩, .string ⟨#[110, 97, 109, 101]⟩, .string ⟨#[118, 101, 114, 115, 105, 111, 110]⟩, .string ⟨#[102, 111, 114, 98, 105, 100]⟩, .string ⟨#[108, 97, 98, 101, 108]⟩, .string ⟨#[115, 116, 101, 112, 115]⟩, .string ⟨#[115, 105, 122, 101]⟩, .string ⟨#[115, 116, 97, 108, 101]⟩]
def tableH {H : Type} : DataW H := .agg [.lit (.string [111, 107]), .lit (.string [98, 97, 100]), .lit (.string [108, 111, 110, 103]), .lit (.string [102, 111, 114, 109]), .lit (.string [115, 121, 110, 116, 97, 120]), .lit (.string [114, 97, 110, 103, 101]), .lit (.string [110, 111, 110, 101]), .lit (.string [109, 97, 110, 121]), .lit (.string [115, 117, 109]), .lit (.string [110, 97, 109, 101]), .lit (.string [118, 101, 114, 115, 105, 111, 110]), .lit (.string [102, 111, 114, 98, 105, 100]), .lit (.string [108, 97, 98, 101, 108]), .lit (.string [115, 116, 101, 112, 115]), .lit (.string [115, 105, 122, 101]), .lit (.string [115, 116, 97, 108, 101])]

theorem reads_table {H : Type} (enc : TypeId × Value → H) (W : World) (sp : Nat → Bool) : DataW.trod enc Tryd.prog W 0 sp true 3 27 cells16.toList = some (tableH, []) := by kernel_rfl

/-- An array of texts that reads as these texts holds them, cell for cell. -/
theorem cells_of_texts {H : Type} {enc : TypeId × Value → H} {P : Program} {w : World} {base : Nat} {sp : Nat → Bool} {held : Bool} {fuel : Nat} {t e : TypeId} {n : Nat} {cs : List Value} {zs : List (List UInt8)} {p : List MemPlace}
    (ht : P.underlying t = some (.array n e)) (he : P.underlying e = some .string) (hce : P.cellsOf e = 1) (hct : P.cellsOf t = n)
    (h : DataW.trod enc P w base sp held fuel t cs = some (.agg (zs.map fun z => .lit (.string z)), p)) : cs = zs.map fun z => Value.string ⟨z.toArray⟩ := by
  cases fuel with
  | zero => simp [DataW.trod] at h
  | succ fuel =>
    simp only [DataW.trod, ht, hce, hct, Nat.mul_one] at h
    split at h
    · rename_i hl
      obtain ⟨xs, hm, hx⟩ := Option.map_eq_some_iff.1 h
      have hxs : xs.map (·.1) = zs.map fun z => (DataW.lit (.string z) : DataW H) := by
        have := congrArg Prod.fst hx
        simpa using this
      have hxl : xs.length = n := by simpa using Lib.mapM_length hm
      have hzl : zs.length = n := by
        have := congrArg List.length hxs
        simp at this
        omega
      apply List.ext_getElem?
      intro i
      by_cases hi : i < n
      · obtain ⟨b, hb, hf⟩ := Lib.mapM_at hm i i (by simp [hi])
        obtain ⟨s, hc, rfl, _⟩ := DataW.trod_string he hf
        have h1 : cs[i]? = some (.string s) := by
          have := congrArg (·[0]?) hc
          simpa [List.getElem?_take, List.getElem?_drop] using this
        have h2 : (xs.map (·.1))[i]? = some (DataW.lit (.string s.data.toList) : DataW H) := by simp [hb]
        rw [hxs] at h2
        simp only [List.getElem?_map, Option.map_eq_some_iff, DataW.lit.injEq, Lit.string.injEq] at h2
        obtain ⟨z', hz', rfl⟩ := h2
        simp [h1, hz']
      · rw [List.getElem?_eq_none (by omega), List.getElem?_eq_none (by simp; omega)]
    · cases h

def wordsL : List (List UInt8) := [[111, 107], [98, 97, 100], [108, 111, 110, 103], [102, 111, 114, 109], [115, 121, 110, 116, 97, 120], [114, 97, 110, 103, 101], [110, 111, 110, 101], [109, 97, 110, 121], [115, 117, 109], [110, 97, 109, 101], [118, 101, 114, 115, 105, 111, 110], [102, 111, 114, 98, 105, 100], [108, 97, 98, 101, 108], [115, 116, 101, 112, 115], [115, 105, 122, 101], [115, 116, 97, 108, 101]]

/-- What the row's list gives: the table's cells hold the sixteen words. -/
theorem table {W : World} (h : laidMetH Tryd.prog [("loop.example/g00142/impl.codeWords", Rows.laid_loop_example_g00142_impl_codeWords)] W) : W.var? Tryd.prog "loop.example/g00142/impl.codeWords" = some cells16 := by
  have h' : laidMet Tryd.prog [("loop.example/g00142/impl.codeWords", Rows.laid_loop_example_g00142_impl_codeWords)] W := h
  obtain ⟨ps, ⟨g', t', cs, fuel, p, q, hg', ht', hvar, hd, _, _⟩, _⟩ := h'
  obtain rfl := Option.some.inj (gTab.symm.trans hg')
  obtain rfl := Option.some.inj (gTabType.symm.trans ht')
  rw [hvar]
  have := cells_of_texts (zs := wordsL) Tryd.underlying27 Tryd.underlying9 cells9 cells27 hd
  obtain ⟨l⟩ := cs
  simp only at this
  subst this
  rfl

/-- The word of a code. -/
def wordAt (k : Nat) : ByteArray := ⟨(wordsL.getD k []).toArray⟩
def wordOf (c : Int) : ByteArray := if 0 ≤ c ∧ c < 16 then wordAt c.toNat else ⟨#[]⟩

/-- The table stands in the world. -/
def Tab (W : World) : Prop := ∀ k, k < 16 → W.cell? ⟨0, k, none⟩ = some (.string (wordAt k))
theorem tab_of {W : World} (h : W.var? Tryd.prog "loop.example/g00142/impl.codeWords" = some cells16) : Tab W := by
  intro k hk
  rw [World.var?_cell gTab h k]
  have : k = 0 ∨ k = 1 ∨ k = 2 ∨ k = 3 ∨ k = 4 ∨ k = 5 ∨ k = 6 ∨ k = 7 ∨ k = 8 ∨ k = 9 ∨ k = 10 ∨ k = 11 ∨ k = 12 ∨ k = 13 ∨ k = 14 ∨ k = 15 := by omega
  rcases this with rfl | rfl | rfl | rfl | rfl | rfl | rfl | rfl | rfl | rfl | rfl | rfl | rfl | rfl | rfl | rfl <;> rfl
theorem Tab.below {w w' : World} {B : Nat} (h : Tab w) (hb : Below B w w') (hB : 0 < B) : Tab w' := fun k hk => (hb.cell (p := ⟨0, k, none⟩) hB).trans (h k hk)

set_option maxHeartbeats 1000000 in
theorem implWord (c : Int) (w : World) (ht : Tab w) : Calls Tryd.prog 6 #[.int .i64 c] w fun e w' => e = .returned (.string (wordOf c)) ∧ w' = w := by
  by_cases h0 : c < 0
  · have hw : wordOf c = ⟨#[]⟩ := by unfold wordOf; rw [if_neg (by omega)]
    rw [hw]
    clear ht hw
    go_enter Tryd.func6, Tryd.ntmps6
    go_wp2
    go_ret
    exact ⟨rfl, rfl⟩
  · by_cases h16 : 16 ≤ c
    · have hw : wordOf c = ⟨#[]⟩ := by unfold wordOf; rw [if_neg (by omega)]
      rw [hw]
      clear ht hw
      go_enter Tryd.func6, Tryd.ntmps6
      go_wp2
      go_ret
      exact ⟨rfl, rfl⟩
    · obtain ⟨k, rfl⟩ := Int.eq_ofNat_of_zero_le (show 0 ≤ c by omega)
      have hw : wordOf k = wordAt k := by unfold wordOf; rw [if_pos (by omega), Int.toNat_natCast]
      rw [hw]
      have hc := ht k (by omega)
      generalize wordAt k = s at hc
      clear ht hw
      go_enter Tryd.func6, Tryd.ntmps6
      go_wp2
      go_ret
      exact ⟨rfl, rfl⟩

set_option maxHeartbeats 1000000 in
theorem specWord (c : Int) (w : World) : Calls Tryd.prog 5 #[.int .i64 c] w fun e w' => e = .returned (.string (wordOf c)) ∧ Below w.heap.size w w' := by
  by_cases h0 : c < 0
  · have hw : wordOf c = ⟨#[]⟩ := by unfold wordOf; rw [if_neg (by omega)]
    rw [hw]
    clear hw
    go_enter Tryd.func5, Tryd.ntmps5
    go_wp2
    go_ret
    exact ⟨rfl, (Below.refl _ _).alloc (Nat.le_refl _) _⟩
  · by_cases h16 : 16 ≤ c
    · have hw : wordOf c = ⟨#[]⟩ := by unfold wordOf; rw [if_neg (by omega)]
      rw [hw]
      clear hw
      go_enter Tryd.func5, Tryd.ntmps5
      go_wp2
      go_ret
      exact ⟨rfl, (Below.refl _ _).alloc (Nat.le_refl _) _⟩
    · obtain ⟨k, rfl⟩ := Int.eq_ofNat_of_zero_le (show 0 ≤ c by omega)
      have : k = 0 ∨ k = 1 ∨ k = 2 ∨ k = 3 ∨ k = 4 ∨ k = 5 ∨ k = 6 ∨ k = 7 ∨ k = 8 ∨ k = 9 ∨ k = 10 ∨ k = 11 ∨ k = 12 ∨ k = 13 ∨ k = 14 ∨ k = 15 := by omega
      clear h0 h16
      rcases this with rfl | rfl | rfl | rfl | rfl | rfl | rfl | rfl | rfl | rfl | rfl | rfl | rfl | rfl | rfl | rfl
      all_goals
        go_enter Tryd.func5, Tryd.ntmps5
        go_wp2
        go_ret
        exact ⟨rfl, (Below.refl _ _).alloc (Nat.le_refl _) _⟩
end Go.Proofs.YteklkjbhlmdflaeDoor.words
