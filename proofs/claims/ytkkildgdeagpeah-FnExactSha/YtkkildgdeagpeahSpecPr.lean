/- The first 64 primes, as the specification finds them. -/
import Derived.Test.YtkkildgdeagpeahPrimes
import Derived.Test.YtkkildgdeagpeahPile
import Derived.Deep.AppendLies
namespace Go.Proofs.Ytkkildgdeagpeah.specpr
open Go.ChangeShapes Go.WideShapes Go.ChangeAt Go.RowKit
open Go.Proofs.Ytkkildgdeagpeah.bytes Go.Proofs.Ytkkildgdeagpeah.pile Go.Proofs.Ytkkildgdeagpeah.rot Go.Proofs.Ytkkildgdeagpeah.root Go.Proofs.Ytkkildgdeagpeah.arr Go.Proofs.Ytkkildgdeagpeah.primes
set_option linter.unusedVariables false

/-- A row of numbers of the call's own. -/
def RowI (w : World) (base : Nat) (v : Value) (xs : List Nat) : Prop := w.ownsRow base 3 1 v xs.length (vals .i64 xs)
theorem info3 : (Try.prog.info? 3).map (fun i => (i.zero, i.size, i.bytes)) = some (some (.int .i64 0), 1, 8) := by kernel_rfl
theorem RowI.cells {w : World} {base : Nat} {o : Option Addr} {l c : Nat} {xs : List Nat} (h : RowI w base (.slice o l c) xs) : l = xs.length ∧ (0 < l → ∃ g, o = some ⟨g, 0, none⟩ ∧ ∀ i, i < l → w.cell? ⟨g, i, none⟩ = some (.int .i64 (xs.getD i 0 : Nat))) := by
  have h' := h
  obtain ⟨h1, ⟨e, h2⟩ | ⟨g, cap, cur, e, _⟩⟩ := h
  · simp only [Value.slice.injEq] at e
    exact ⟨by omega, fun hp => by omega⟩
  · simp only [Value.slice.injEq] at e
    obtain ⟨rfl, rfl, rfl⟩ := e
    refine ⟨rfl, fun _ => ⟨g, rfl, fun i hi => ?_⟩⟩
    have hc := World.ownsRow.cellAt h' i (by omega)
    rw [hc]
    exact vals_get hi
/-- Whether one of the first k primes below a number divides it. -/
def divs (n k : Nat) : Bool := ((prT n).take k).any (fun p => n % p == 0)
theorem wpList_append_int (w : World) {ops : Array Oper} {rest : List Oper} {o : Oper} {a : Act} {Q : Exit → Act → World → Prop} (hgd : o.guard = none) (s x : Operand)
    (ho : o.op = .call { callee := .builtin .append, args := #[s, x], argTypes := #[77, 77] })
    (base : Nat) (v : Value) (xs : List Nat) (hs : a.eval s = v) (hown : RowI w base v xs)
    (ad : Addr) (y : Nat) (hx : a.eval x = .slice (some ad) 1 1) (hnews : w.cell? ad = some (.int .i64 y)) (h63 : xs.length ≤ 1000) (hbase : base ≤ w.heap.size)
    (h : ∀ g cap w', RowI w' base (.slice (some ⟨g, 0, none⟩) (xs.length + 1) cap) (xs ++ [y]) → w.grownBy w' v.ownBlock → (v.ownBlock = some g ∨ g = w.heap.size) → g < w'.heap.size → wpList Try.prog ops Q rest (a.put o.dst (.slice (some ⟨g, 0, none⟩) (xs.length + 1) cap)) w') : wpList Try.prog ops Q (o :: rest) a w := by
  obtain ⟨i0, hi, hz0, hz1, hz2⟩ := info_parts info3
  refine wpList_append_lies w hgd s x 77 ho base 3 i0 (.int .i64 0) 1 8 Try.underlying77 hi hz0 hz1 hz2 rfl (by decide) v xs.length (vals .i64 xs) hs hown ad 1 1 [.int .i64 (y : Nat)] hx rfl (fun j u hu => ?_) (by intro u hu; simp at hu; subst hu; rfl) (by decide) (by unfold maxLen; omega) (by omega) hbase _ rfl (fun g cap w' h1 h2 h3 h4 => h g cap w' ?_ h2 h3 h4)
  · cases j with
    | zero =>
      simp only [List.getElem?_cons_zero, Option.some.injEq] at hu
      subst hu
      rw [show ad.add 0 = ad by unfold Addr.add; cases ad; simp]
      exact hnews
    | succ j => simp at hu
  · unfold RowI
    rw [List.length_append]
    have e : vals .i64 (xs ++ [y]) = vals .i64 xs ++ [.int .i64 (y : Nat)] := by simp [vals]
    rw [e]
    exact h1

set_option maxRecDepth 20000 in
set_option maxHeartbeats 8000000 in
theorem primes_any (w : World) :
    Calls Try.prog 44 #[.int .i64 64] w fun e w' => ∃ o c, e = .returned (.slice o 64 c) ∧ RowI w' w.heap.size (.slice o 64 c) (prT 312) ∧ Below w.heap.size w w' := by
  obtain ⟨W1, hW1⟩ : ∃ W1, W1 = w.alloc (.cells #[] 3) := ⟨_, rfl⟩
  have HS : Hid (RowI W1 w.heap.size (.slice (some ⟨w.heap.size, 0, none⟩) 0 0) (prT 2) ∧ Below w.heap.size w W1) := by
    rw [hW1]
    refine hide ⟨?_, (Below.refl _ _).alloc (Nat.le_refl _) _⟩
    have hr := World.ownsRow_lit (base := w.heap.size) (e := 3) (size := 1) w #[] 0 (by simp) (by simp [maxLen]) (by simp)
    exact hr
  go_enter Try.func44, Try.ntmps44
  go_wp2
  rw [← hW1]
  clear hW1
  go_loopw [3, 4] (fun v p wr => ∃ (N : Nat) (o : Option Addr) (l c : Nat), v = .slice o l c ∧ p = .int .i64 (N : Nat) ∧ 2 ≤ N ∧ N ≤ 312 ∧ Hid (l = (prT N).length) ∧ Hid (RowI wr w.heap.size (.slice o l c) (prT N) ∧ Below w.heap.size w wr)) (fun _ p _ => 312 - (intOf p).toNat)
  case atStart => exact ⟨2, _, 0, 0, rfl, rfl, by omega, by omega, hide rfl, HS⟩
  case round =>
    obtain ⟨N, o, l, c, rfl, rfl, h2, h312, HLn, HR⟩ := hrel
    clear HS
    by_cases hlen : l < 64
    · have hN : N < 312 := by
        rcases Nat.lt_or_ge N 312 with h | h
        · exact h
        · have : N = 312 := by omega
          subst this
          have h1 := HLn.out
          rw [prT_len] at h1
          omega
      have HP : Hid (prT (N + 1) = if (prT N).any (fun p => N % p == 0) then prT N else prT N ++ [N]) := by
        unfold Hid
        rw [prT, if_neg (by omega)]
      have hlI : decide ((l : Int) < 64) = true := by simp; omega
      go_wp2
      go_loopw [5, 6] (fun b i wx => ∃ k : Nat, k ≤ l ∧ i = .int .i64 k ∧ b = .bool (!divs N k) ∧ Hid (RowI wx w.heap.size (.slice o l c) (prT N) ∧ Below w.heap.size w wx)) (fun _ i _ => l - (intOf i).toNat)
      case atStart => exact ⟨0, by omega, rfl, by simp [divs], HR⟩
      case round =>
        obtain ⟨k, hk, rfl, rfl, HR2⟩ := hrel
        clear HR
        by_cases hkl : k < l
        · obtain ⟨hxl, hcells⟩ := HR2.out.1.cells
          clear hxl
          obtain ⟨g, rfl, hcg⟩ := hcells (by omega)
          clear hcells
          have ck := hcg k hkl
          have hkp : k < (prT N).length := by have := HLn.out; omega
          have hpk : 2 ≤ (prT N).getD k 0 ∧ (prT N).getD k 0 < N := by
            refine prT_mem ?_
            rw [List.getD_eq_getElem?_getD, List.getElem?_eq_getElem hkp]
            exact List.getElem_mem hkp
          have HT : Hid (divs N (k + 1) = (divs N k || (N % (prT N).getD k 0 == 0))) := by
            unfold Hid divs
            rw [List.take_add_one, List.any_append, List.getElem?_eq_getElem hkp, List.getD_eq_getElem?_getD, List.getElem?_eq_getElem hkp]
            simp
          clear hkp hcg
          generalize divs N k = bb at HT ⊢
          generalize (prT N).getD k 0 = p at ck hpk HT
          have hm : (N : Int) % (p : Int) = ((N % p : Nat) : Int) := (Int.natCast_emod N p).symm
          generalize N % p = r at hm HT
          cases bb with
          | true =>
            go_wp2
            go_roundw
            case rel => exact ⟨k + 1, by omega, by go_num, by rw [HT.out]; rfl, HR2⟩
            case measure => simp [intOf]; omega
          | false =>
            by_cases hr : r = 0
            · subst hr
              go_wp2
              go_roundw
              case rel => exact ⟨k + 1, by omega, by go_num, by rw [HT.out]; rfl, HR2⟩
              case measure => simp [intOf]; omega
            · have hr' : ¬ (r : Int) = 0 := by omega
              have hf : (r == 0) = false := by simp [hr]
              rw [hf] at HT
              go_wp2
              go_roundw
              case rel => exact ⟨k + 1, by omega, by go_num, by rw [HT.out]; simp [hr], HR2⟩
              case measure => simp [intOf]; omega
        · obtain rfl : k = l := by omega
          have HD : Hid ((prT N).any (fun p => N % p == 0) = divs N k) := by
            unfold Hid divs
            rw [HLn.out, List.take_length]
          rw [HD.out] at HP
          generalize divs N k = bb at HP ⊢
          clear HD
          cases bb with
          | true =>
            go_wp2
            go_roundw
            case rel => exact ⟨N + 1, o, k, c, rfl, rfl, by omega, by omega, hide (by rw [HP.out]; exact HLn.out), hide (by rw [HP.out]; exact HR2.out)⟩
            case measure => simp [intOf]; omega
          | false =>
            have HL1 : Hid ((prT N).length ≤ 1000) := hide (by have := HLn.out; omega)
            have HB1 := hide (HR2.out.2.alloc HR2.out.2.size (.cells #[.int .i64 (N : Nat)] 3))
            have HR1 : Hid (RowI (wr.alloc (.cells #[.int .i64 (N : Nat)] 3)) w.heap.size (.slice o k c) (prT N)) := hide (World.ownsRow.alloc HR2.out.1 _)
            have hsz := HR2.out.2.size
            have HCell : Hid ((wr.alloc (.cells #[.int .i64 (N : Nat)] 3)).cell? ⟨wr.heap.size, 0, none⟩ = some (.int .i64 (N : Nat))) := hide ((Arr.new wr 3 .i64 [N] #[.int .i64 (N : Nat)] rfl).cell (i := 0) (by simp))
            have HG : Hid (∀ j, (Value.slice o k c).ownBlock = some j → w.heap.size ≤ j) := hide (fun j hj => (World.ownsRow.lt HR2.out.1 j hj).1)
            go_wp2_with (at_builtin; refine wpList_append_int _ rfl _ _ rfl w.heap.size (.slice o k c) (prT N) rfl HR1.out ⟨wr.heap.size, 0, none⟩ N rfl HCell.out HL1.out (by simp; omega) ?_; intro g cap9 w9 hown hgrow hat hlt9)
            have HF : Hid (RowI w9 w.heap.size (.slice (some ⟨g, 0, none⟩) ((prT N).length + 1) cap9) (prT N ++ [N]) ∧ Below w.heap.size w w9) := hide ⟨hown, HB1.out.grown hgrow (by simp; omega) HG.out⟩
            clear hown hgrow hat
            obtain ⟨l2, hl2⟩ : ∃ l2, l2 = (prT N).length + 1 := ⟨_, rfl⟩
            rw [← hl2] at HF ⊢
            have HL2 := hide hl2
            clear hl2
            go_wp2
            go_roundw
            case rel => exact ⟨N + 1, _, l2, cap9, rfl, rfl, by omega, by omega, hide (by rw [HP.out, HL2.out]; simp), hide (by rw [HP.out]; exact HF.out)⟩
            case measure => simp [intOf]; omega
    · have hN : N = 312 := by
        rcases Nat.lt_or_ge N 312 with h | h
        · have h1 := prT_le (show N ≤ 311 by omega)
          rw [prT_311] at h1
          have h3 := HLn.out
          omega
        · omega
      subst hN
      have hl64 : l = 64 := HLn.out.trans prT_len
      subst hl64
      go_wp2
      go_ret
      exact ⟨o, c, rfl, HR.out.1, HR.out.2⟩
end Go.Proofs.Ytkkildgdeagpeah.specpr
