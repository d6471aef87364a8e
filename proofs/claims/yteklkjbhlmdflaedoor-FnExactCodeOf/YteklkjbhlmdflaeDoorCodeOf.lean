/- FnExactCodeOf returns true at every text: impl's CodeOf answers as the specification's; the package's table of words is as the program's text lays it (the card ties it). -/
import Derived.Test.YteklkjbhlmdflaeDoorCards
import Derived.Test.YteklkjbhlmdflaeDoorTie
import Derived.Test.YteklkjbhlmdflaeDoorWords
namespace Go.Proofs.YteklkjbhlmdflaeDoor.fnExactCodeOf
open Go.ChangeShapes Go.WideShapes Go.ChangeAt Go.RowKit
open Go.ChangeMaps (open_string shut_string)
open Go.Proofs.YteklkjbhlmdflaeDoor.words
set_option linter.unusedVariables false

theorem cell_lt {w : World} {a : Addr} {v : Value} (h : w.cell? a = some v) : a.block < w.heap.size := by
  simp only [World.cell?] at h
  cases e : w.heap[a.block]? with
  | none => simp [e] at h
  | some o => exact (Array.getElem?_eq_some_iff.1 e).1

/-- The first code, from k on, whose word is s. -/
def codeFrom : Nat → Nat → ByteArray → Int
  | 0, _, _ => -1
  | f + 1, k, s => if (wordAt k).toList == s.toList then (k : Int) else codeFrom f (k + 1) s
theorem codeFrom_hit {f k : Nat} {s : ByteArray} (h : ((wordAt k).toList == s.toList) = true) : codeFrom (f + 1) k s = (k : Int) := by rw [codeFrom, if_pos h]
theorem codeFrom_miss {f k : Nat} {s : ByteArray} (h : ((wordAt k).toList == s.toList) = false) : codeFrom (f + 1) k s = codeFrom f (k + 1) s := by rw [codeFrom, if_neg (by rw [h]; decide)]
theorem ret_int {k : IntKind} {a b : Int} (h : a = b) : Ending.returned (.int k a) = .returned (.int k b) := by rw [h]

set_option maxHeartbeats 400000 in
theorem implOf (s : ByteArray) (w : World) (ht : Tab w) : Calls Tryd.prog 8 #[.string s] w fun e w' => e = .returned (.int .i64 (codeFrom 16 0 s)) ∧ w' = w := by
  go_enter Tryd.func8, Tryd.ntmps8
  go_wp2
  go_loop [4] (fun i => ∃ k : Nat, k ≤ 16 ∧ i = .int .i64 k ∧ Hid (codeFrom 16 0 s = codeFrom (16 - k) k s)) (fun i => 16 - (intOf i).toNat)
  case atStart => exact ⟨0, by omega, rfl, hide rfl⟩
  case round =>
    obtain ⟨k, hk, rfl, HR⟩ := hrel
    by_cases hlt : k < 16
    · have hc := ht k hlt
      rcases Bool.eq_false_or_eq_true ((wordAt k).toList == s.toList) with hs | hs
      · have HG : Hid (codeFrom 16 0 s = (k : Int)) := by
          have := HR.out
          rw [show 16 - k = (16 - (k + 1)) + 1 by omega, codeFrom_hit hs] at this
          exact hide this
        generalize wordAt k = t at hc hs
        go_wp2
        go_ret
        exact ⟨ret_int HG.out.symm, rfl⟩
      · have HG : Hid (codeFrom 16 0 s = codeFrom (16 - (k + 1)) (k + 1) s) := by
          have := HR.out
          rw [show 16 - k = (16 - (k + 1)) + 1 by omega, codeFrom_miss hs] at this
          exact hide this
        generalize wordAt k = t at hc hs
        go_wp2
        go_round
        case rel => exact ⟨k + 1, by omega, by go_num, HG⟩
        case measure => simp [intOf]; omega
    · have HG : Hid (codeFrom 16 0 s = -1) := by
        have := HR.out
        rw [show 16 - k = 0 by omega] at this
        exact hide this
      go_wp2
      go_ret
      exact ⟨ret_int HG.out.symm, rfl⟩

set_option maxHeartbeats 400000 in
theorem specOf (s : ByteArray) (w : World) : Calls Tryd.prog 7 #[.string s] w fun e w' => e = .returned (.int .i64 (codeFrom 16 0 s)) ∧ Below w.heap.size w w' := by
  go_enter Tryd.func7, Tryd.ntmps7
  go_wp2
  go_loopw [3] (fun i wr => ∃ k : Nat, k ≤ 16 ∧ i = .int .i64 k ∧ Hid (codeFrom 16 0 s = codeFrom (16 - k) k s) ∧ Below w.heap.size w wr) (fun i _ => 16 - (intOf i).toNat)
  case atStart => exact ⟨0, by omega, rfl, hide rfl, Below.refl _ _⟩
  case round =>
    obtain ⟨k, hk, rfl, HR, hbel⟩ := hrel
    by_cases hlt : k < 16
    · have hw : wordOf k = wordAt k := by unfold wordOf; rw [if_pos (by omega), Int.toNat_natCast]
      have HC : Hid (∀ wx, Calls Tryd.prog 5 #[.int .i64 k] wx fun e w' => e = .returned (.string (wordAt k)) ∧ Below wx.heap.size wx w') := by
        intro wx
        have := specWord k wx
        rw [hw] at this
        exact this
      clear hw
      rcases Bool.eq_false_or_eq_true ((wordAt k).toList == s.toList) with hs | hs
      · have HG : Hid (codeFrom 16 0 s = (k : Int)) := by
          have := HR.out
          rw [show 16 - k = (16 - (k + 1)) + 1 by omega, codeFrom_hit hs] at this
          exact hide this
        generalize wordAt k = t at hs HC
        go_wp2_with fail
        refine (HC.out _).mono ?_
        rintro e w1 ⟨rfl, hb1⟩
        go_wp2
        go_ret
        exact ⟨ret_int HG.out.symm, hbel.trans (hb1.mono hbel.size)⟩
      · have HG : Hid (codeFrom 16 0 s = codeFrom (16 - (k + 1)) (k + 1) s) := by
          have := HR.out
          rw [show 16 - k = (16 - (k + 1)) + 1 by omega, codeFrom_miss hs] at this
          exact hide this
        generalize wordAt k = t at hs HC
        go_wp2_with fail
        refine (HC.out _).mono ?_
        rintro e w1 ⟨rfl, hb1⟩
        go_wp2
        go_roundw
        case rel => exact ⟨k + 1, by omega, by go_num, HG, hbel.trans (hb1.mono hbel.size)⟩
        case measure => simp [intOf]; omega
    · have HG : Hid (codeFrom 16 0 s = -1) := by
        have := HR.out
        rw [show 16 - k = 0 by omega] at this
        exact hide this
      go_wp2
      go_ret
      exact ⟨ret_int HG.out.symm, hbel⟩

set_option maxHeartbeats 400000 in
theorem walk (a0 : ByteArray) (w0 : a0.size ≤ maxLen) (w : World) (ht : Tab w) (h0 : 0 < w.heap.size) :
    Calls Tryd.prog 4 #[.string a0] w fun e w' => e = .returned (.bool true) ∧ Below w.heap.size w w' := by
  unfold maxLen at w0
  by_cases hbig : (1048576 : Int) < a0.size
  · go_enter Tryd.func4, Tryd.ntmps4
    go_wp2
    go_ret
    exact ⟨rfl, Below.refl _ _⟩
  · go_enter Tryd.func4, Tryd.ntmps4
    go_wp2_with fail
    refine (specOf a0 _).mono ?_
    rintro e w1 ⟨rfl, hb1⟩
    have ht1 := ht.below hb1 h0
    go_wp2_with fail
    refine (implOf a0 _ ht1).mono ?_
    rintro e w2 ⟨rfl, rfl⟩
    generalize codeFrom 16 0 a0 = c
    go_wp2
    go_ret
    exact ⟨rfl, hb1⟩

/-- What the walk gives, for every argument and every world that holds the table. -/
theorem contract (H : Type) (enc : TypeId × Value → H) (W : World) (base : Nat) (args : Array Value) (ds gs : List (DataW H)) (before : List MemPlace)
    (hval : ∀ (j : Nat) t v, Tryd.f4.params[j]? = some t → args[j]? = some v → Value.okWide Tryd.prog W .any base t v)
    (hW : DataW.Whole enc Tryd.prog Tryd.f4.params.toList Rows.fnExactCodeOfSpec.vars false W args.toList ds gs before) (hL : laidMetH Tryd.prog Rows.fnExactCodeOfRow.laid W) :
    Calls Tryd.prog 4 args W fun e W' => ∃ v, e = .returned v ∧ Rows.fnExactCodeOfSpec.post enc Tryd.prog Tryd.f4 false true false false W args v W' := by
  have hW' := hW
  obtain ⟨p, q, hA0, hV0, rfl, hfz, hnd⟩ := hW
  have hA : DataW.TrodAll enc Tryd.prog W 0 (fun _ => true) true Tryd.f4.params.toList args.toList ds p := hA0
  have hV : DataW.TrodVars enc Tryd.prog W (fun _ => true) ["loop.example/g00142/impl.codeWords"] gs q := hV0
  rw [Tryd.params4] at hA hval
  obtain ⟨v0, vs0, d0, ds0, p0, q0, hargs, rfl, rfl, h0, r0⟩ := trodAll_cons hA
  obtain ⟨rfl, rfl, rfl⟩ := trodAll_nil r0
  obtain rfl : args = #[v0] := by cases args; simp_all
  obtain ⟨g, t, cs, fuel, d, p', rfl, hg, ht, hvar, hd, rfl⟩ := trodVars_one hV
  obtain rfl := Option.some.inj (gTab.symm.trans hg)
  obtain rfl := Option.some.inj (gTabType.symm.trans ht)
  obtain rfl : cs = cells16 := Option.some.inj (hvar.symm.trans (table hL))
  obtain ⟨rfl, rfl⟩ := DataW.Trod.unique (v := .agg cells16) ⟨fuel, hd⟩ ⟨3, reads_table enc W _⟩
  obtain ⟨a0, rfl, rfl, rfl, w0⟩ := open_string Tryd.underlying9 (hval 0 9 v0 rfl rfl) h0
  clear hA0 hV0
  have h0lt : 0 < W.heap.size := cell_lt ((tab_of hvar) 0 (by omega))
  refine (walk a0 w0 W (tab_of hvar) h0lt).mono fun e W' ⟨he, bel⟩ => ?_
  subst he
  have hvar' : W'.var? Tryd.prog "loop.example/g00142/impl.codeWords" = some cells16 := var?_below bel gTab h0lt hvar
  have hvars : ∀ sp : Nat → Bool, DataW.TrodVars enc Tryd.prog W' sp ["loop.example/g00142/impl.codeWords"] [tableH] (MemPlace.row ⟨0, 0, none⟩ cells16.size ++ [] ++ []) := fun sp =>
    ⟨0, 27, cells16, 3, [], [], gTab, gTabType, hvar', reads_table enc W' _, rfl, rfl⟩
  exact ⟨_, rfl, _, _, _, [], [], MemPlace.row ⟨0, 0, none⟩ cells16.size ++ [] ++ [], hW', trodAll_mk1 (shut_bool Tryd.underlying4 _), (trodAll_cons_mk (shut_string Tryd.underlying9 w0) trodAll_mk0), hvars _, bel.frame _, fun h => by cases h⟩

/-- A world for the witness: the settled one, the table holding what its initialiser lays. -/
noncomputable def laidWorld (os : Os) : World :=
  { World.holding Tryd.prog os ⟨#[], #[], []⟩ with heap := (World.holding Tryd.prog os ⟨#[], #[], []⟩).heap.modify 0 fun
      | .cells _ t frozen => .cells cells16 t frozen
      | o => o }
theorem laid_met (os : Os) : laidMet Tryd.prog Rows.fnExactCodeOfRow.laid ((laidWorld os).forCall (fun _ _ => 0) ⟨#[], #[.string ByteArray.empty], []⟩).memory :=
  laidMet_of_run' 8 (by kernel_rfl) (by kernel_rfl)
theorem reads (os : Os) {H : Type} (enc : TypeId × Value → H) : ∃ places, DataW.whole enc Tryd.prog ((laidWorld os).forCall (fun _ _ => 0) ⟨#[], #[.string ByteArray.empty], []⟩).memory Tryd.f4.params.toList Rows.fnExactCodeOfSpec.vars false #[Value.string ByteArray.empty].toList 8 = some ([.lit (.string [])], [tableH], places) :=
  ⟨(List.range 16).map (MemPlace.cell 0), by kernel_rfl⟩

set_option maxRecDepth 100000 in
theorem lifted (os : Os) (started : os.Started) (H : Type) (enc : TypeId × Value → H) (F : Stop.Interp) :
    ReturnsInHanded {} Tryd.checked os 4 .any ((OpenSpec.ofChange Rows.fnExactCodeOfSpec).preRow enc Tryd.prog Tryd.f4 Rows.fnExactCodeOfRow.domain false Rows.fnExactCodeOfRow.laid) (((OpenSpec.ofChange Rows.fnExactCodeOfSpec).at F).post enc Tryd.prog Tryd.f4 false true false false) := by
  obtain ⟨places, hx⟩ := reads os enc
  refine returnsInHanded_of_row (C := Tryd.checked) (s := OpenSpec.ofChange Rows.fnExactCodeOfSpec) own started (by kernel_rfl) Tryd.func4
    (witness_row_at (enc := enc) (C := Tryd.checked) false (laidWorld os) #[.string ByteArray.empty] rfl (by kernel_rfl) (by kernel_rfl) (by kernel_rfl)
      (OpenSpec.preRow_of_cond 8 hx (by kernel_rfl) (fun k hk => by cases hk) (by kernel_rfl) (laid_met os))) ?_
  intro W base args ds gs before hval hW _ _ _ hL _ _
  exact contract H enc W base args ds gs before hval hW hL

theorem said : Rows.FnExactCodeOfSaid :=
  OpenClaim.holds_of_cond 4 Tryd.f4 rfl rfl rfl rfl rfl rfl rfl ⟨rfl, rfl, rfl, rfl, rfl⟩ rfl rfl rfl rfl rfl (by kernel_rfl) Tryd.func4 (by kernel_rfl)
    (of_decide_eq_true (by kernel_rfl)) (by unfold Func.isWrapper; first | (rw [if_pos (by decide +kernel)]; kernel_rfl) | (rw [if_neg (by decide +kernel)]; exact ⟨rfl, rfl⟩))
    (fun os started H enc _ F => by rw [OpenClaim.pre_eq_preRow]; exact lifted os started H enc F)

/-- No parameter wants a stand-in; the program's own looks are off. -/
theorem plain (f : FuncId) (fn : Func) (hf : Tryd.pinned.checked.prog.funcNamed "loop.example/g00142/laws.FnExactCodeOf" = some f) (hfn : Tryd.pinned.checked.prog.funcs[f]? = some fn) :
    false = Tryd.pinned.checked.prog.looks [] ∧ ∀ (j : Nat) t, fn.params[j]? = some t → Tryd.pinned.checked.prog.wantsStandIn t = false := by
  obtain rfl : f = 4 := Option.some.inj ((show Tryd.prog.funcNamed "loop.example/g00142/laws.FnExactCodeOf" = some 4 by kernel_rfl).symm.trans hf) |>.symm
  obtain rfl : fn = Tryd.f4 := (Option.some.inj (Tryd.func4.symm.trans hfn)).symm
  refine ⟨by kernel_rfl, fun j t ht => ?_⟩
  rw [Tryd.params4] at ht
  obtain rfl : t = 9 := by simpa using Array.mem_of_getElem? ht
  exact (show Tryd.prog.wantsStandIn 9 = false by kernel_rfl)

theorem card : Rows.FnExactCodeOfCardSaid :=
  Claim7.holds_tied_plain_at .later [] _ _ _ _ said (fun _ h => by cases h) (by kernel_rfl) (fun _ h => by cases h) fnExactCodeOf_row_tie rfl ⟨rfl, rfl⟩ (by kernel_rfl) rfl plain (by kernel_rfl)
#print axioms card
end Go.Proofs.YteklkjbhlmdflaeDoor.fnExactCodeOf
