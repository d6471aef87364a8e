/- The words of a line: the specification's side. -/
import Derived.Test.YtolmngfjdcoapaaDoorSnum
namespace Go.Proofs.YtolmngfjdcoapaaDoor.swords
open Go.ChangeShapes Go.WideShapes Go.ChangeAt Go.RowKit
open Go.Proofs.YtolmngfjdcoapaaDoor.bytes Go.Proofs.YtolmngfjdcoapaaDoor.pile Go.Proofs.YtolmngfjdcoapaaDoor.jhelp Go.Proofs.YtolmngfjdcoapaaDoor.num Go.Proofs.YtolmngfjdcoapaaDoor.phr Go.Proofs.YtolmngfjdcoapaaDoor.snum Go.Proofs.YtolmngfjdcoapaaDoor.put
set_option linter.unusedVariables false
theorem occ1 (l : List UInt8) (c : UInt8) (i : Nat) : Lib.occAt l [c] i = true ↔ l[i]? = some c := by
  unfold Lib.occAt
  have e : l[i]? = (l.drop i).head? := by rw [List.head?_drop]
  rw [e]
  cases l.drop i with
  | nil => simp
  | cons b r =>
    show (c == b && ([] : List UInt8).isPrefixOf r) = true ↔ some b = some c
    rw [show ([] : List UInt8).isPrefixOf r = true by cases r <;> rfl, Bool.and_true, beq_iff_eq, Option.some.injEq, eq_comm]
theorem ex_list (s : ByteArray) (a b : Nat) (hb : b ≤ s.size) : (s.extract a b).data.toList = (s.data.toList.drop a).take (b - a) := by
  rw [ByteArray.data_extract, Array.toList_extract, List.extract_eq_take_drop]
theorem of_list {a b : ByteArray} (h : a.data.toList = b.data.toList) : a = b := by
  obtain ⟨⟨x⟩⟩ := a
  obtain ⟨⟨y⟩⟩ := b
  exact congrArg (fun l => (⟨⟨l⟩⟩ : ByteArray)) h
theorem cut_hit (s : ByteArray) (k : Nat) (hk : k < s.size) (hno : ∀ j (h : j < s.size), j < k → (s[j]'h).toNat ≠ 32) (hat : (s[k]'hk).toNat = 32) : cutA s = s.extract 0 k ∧ cutB s = s.extract (k + 1) s.size := by
  have hi : Lib.index s.data.toList [32] = k := by
    refine Lib.index_first (by rw [size_len]; omega) ?_ ?_
    · rw [occ1, at_list s k hk]
      congr 1
      exact UInt8.toNat_inj.1 hat
    · intro j hj
      have : ¬ Lib.occAt s.data.toList [32] j = true := by
        rw [occ1, at_list s j (by omega)]
        intro e
        exact hno j (by omega) hj (by rw [Option.some.inj e]; rfl)
      simpa using this
  constructor
  · apply of_list
    rw [ex_list s 0 k (by omega)]
    unfold cutA Lib.cut
    rw [hi, if_pos (by omega)]
    simp
  · apply of_list
    rw [ex_list s (k + 1) s.size (by omega)]
    unfold cutB Lib.cut
    rw [hi, if_pos (by omega)]
    have e : (s.data.toList.drop (k + 1)).take (s.size - (k + 1)) = s.data.toList.drop (k + 1) := List.take_of_length_le (by rw [List.length_drop, size_len]; exact Nat.le_refl _)
    rw [e]
    simp
theorem cut_miss (s : ByteArray) (hno : ∀ j (h : j < s.size), (s[j]'h).toNat ≠ 32) : cutA s = s ∧ cutB s = emp := by
  have hi : Lib.index s.data.toList [32] = -1 := by
    refine Lib.index_none ?_
    intro j hj
    have : ¬ Lib.occAt s.data.toList [32] j = true := by
      rw [occ1]
      intro e
      have hj' : j < s.size := (List.getElem?_eq_some_iff.1 e).1
      rw [at_list s j hj'] at e
      exact hno j hj' (by rw [Option.some.inj e]; rfl)
    simpa using this
  constructor
  · apply of_list
    unfold cutA Lib.cut
    rw [hi, if_neg (by omega)]
  · apply of_list
    unfold cutB Lib.cut
    rw [hi, if_neg (by omega)]
    rfl
/-- The first n words of a line, what is left, and whether all are there. -/
def wd : Nat → ByteArray → List ByteArray × ByteArray × Bool
  | 0, s => ([], s, true)
  | n + 1, s => if cutA s = emp then ([], emp, false) else (cutA s :: (wd n (cutB s)).1, (wd n (cutB s)).2)
theorem cutA_emp : cutA emp = emp := (cut_miss emp (fun j h => absurd h (Nat.not_lt_zero j))).1
theorem wd_emp (n : Nat) : wd n emp = ([], emp, decide (n = 0)) := by
  cases n with
  | zero => rfl
  | succ n => rw [wd, if_pos cutA_emp]; rfl
theorem info9 : (Tryd.prog.info? 9).map (fun i => (i.zero, i.size, i.bytes)) = some (some (.string ⟨#[]⟩), 1, 16) := by kernel_rfl
def sl : Value → Nat
  | .slice _ l _ => l
  | _ => 0
theorem row_form {w : World} {base e n : Nat} {v : Value} {xs : List Value} (h : w.ownsRow base e 1 v n xs) : ∃ ao ca, v = .slice ao n ca := by
  obtain ⟨h1, ⟨e, hx⟩ | ⟨g, cap, cur, e, _⟩⟩ := h
  · have : n = 0 := by rw [hx] at h1; simp at h1; omega
    subst this
    exact ⟨none, 0, e⟩
  · exact ⟨_, _, e⟩
theorem ex_emp (t : ByteArray) : t.extract 0 0 = emp := of_list (by rw [ex_list t 0 0 (by omega)]; rfl)
theorem ex_ne (t : ByteArray) (k : Nat) (hk : k ≤ t.size) (h0 : k ≠ 0) : t.extract 0 k ≠ emp := by
  intro e
  have := congrArg ByteArray.size e
  rw [ByteArray.size_extract] at this
  have h : emp.size = 0 := rfl
  omega
theorem ex_all (t : ByteArray) : t.extract 0 t.size = t := of_list (by rw [ex_list t 0 t.size (by omega), List.drop_zero, Nat.sub_zero]; exact List.take_length)
/-- A step of the words. -/
theorem wd_stop {n j : Nat} {s t : ByteArray} {xs : List ByteArray} (hj : j < n) (h : wd n s = (xs ++ (wd (n - j) t).1, (wd (n - j) t).2)) (he : cutA t = emp) : wd n s = (xs, emp, false) := by
  rw [h, show n - j = (n - j - 1) + 1 by omega, wd, if_pos he]
  simp
theorem wd_next {n j : Nat} {s t : ByteArray} {xs : List ByteArray} (hj : j < n) (h : wd n s = (xs ++ (wd (n - j) t).1, (wd (n - j) t).2)) (he : cutA t ≠ emp) : wd n s = ((xs ++ [cutA t]) ++ (wd (n - (j + 1)) (cutB t)).1, (wd (n - (j + 1)) (cutB t)).2) := by
  rw [h, show n - j = (n - (j + 1)) + 1 by omega, wd, if_neg he]
  simp
set_option maxHeartbeats 1600000 in
theorem words_any (w : World) (s : ByteArray) (n : Nat) (hn : n ≤ 1000) (hs : s.size < 4294967281) :
    Calls Tryd.prog 9 #[.string s, .int .i64 n] w fun e w' => ∃ v, e = .returned (.tuple #[v, .string (wd n s).2.1, .bool (wd n s).2.2]) ∧ w'.ownsRow w.heap.size 9 1 v (wd n s).1.length ((wd n s).1.map Value.string) ∧ Below w.heap.size w w' := by
  obtain ⟨i0, hi, hz0, hz1, hz2⟩ := info_parts info9
  have HI : Hid (Tryd.prog.info? 9 = some i0 ∧ i0.zero = some (.string ⟨#[]⟩) ∧ i0.size = 1 ∧ i0.bytes = 16) := ⟨hi, hz0, hz1, hz2⟩
  clear hi hz0 hz1 hz2
  have HW : Hid (∀ (xs : List ByteArray) (r : ByteArray) (q : Bool), wd n s = (xs, r, q) → ∀ (v : Value) (w' : World), w'.ownsRow w.heap.size 9 1 v xs.length (xs.map Value.string) → Below w.heap.size w w' → ∃ v', Ending.returned (.tuple #[v, .string r, .bool q]) = Ending.returned (.tuple #[v', .string (wd n s).2.1, .bool (wd n s).2.2]) ∧ w'.ownsRow w.heap.size 9 1 v' (wd n s).1.length ((wd n s).1.map Value.string) ∧ Below w.heap.size w w') := by
    intro xs r q h v w' h1 h2
    rw [h]
    exact ⟨v, rfl, h1, h2⟩
  go_enter Tryd.func9, Tryd.ntmps9
  go_wp2
  go_loopw [0, 7] (fun s' v wr => ∃ (j : Nat) (t : ByteArray) (xs : List ByteArray) (ao : Option Addr) (ca : Nat), j ≤ n ∧ s' = .string t ∧ t.size ≤ s.size ∧ v = .slice ao j ca ∧ xs.length = j ∧ Hid (wd n s = (xs ++ (wd (n - j) t).1, (wd (n - j) t).2) ∧ wr.ownsRow w.heap.size 9 1 (.slice ao j ca) j (xs.map Value.string) ∧ Below w.heap.size w wr)) (fun _ v _ => n - sl v)
  case atStart => exact ⟨0, s, [], _, _, by omega, rfl, Nat.le_refl _, rfl, rfl, hide ⟨by simp, World.ownsRow_lit _ #[] 0 (Nat.le_refl _) (by simp [maxLen]) (by simp), (Below.refl _ _).alloc (Nat.le_refl _) _⟩⟩
  case round =>
    obtain ⟨j, t, xs, ao, ca, hj, rfl, hts, rfl, hxl, HR⟩ := hrel
    have hbs := HR.out.2.2.size
    by_cases hlt : j < n
    · go_wp2
      go_loop [8] (fun i => ∃ k : Nat, k ≤ t.size ∧ i = .int .i64 k ∧ Hid (∀ q (h : q < t.size), q < k → (t[q]'h).toNat ≠ 32)) (fun i => t.size - (intOf i).toNat)
      case atStart => exact ⟨0, by omega, rfl, hide (fun q h hq => absurd hq (by omega))⟩
      case round =>
        obtain ⟨k, hk, rfl, HNo⟩ := hrel
        by_cases hkl : k < t.size
        · obtain ⟨c, hc⟩ : ∃ c, (t[k]'hkl).toNat = c := ⟨_, rfl⟩
          by_cases h32 : c = 32
          · have hb32 : ((c : Int) == 32) = true := by rw [beq_iff_eq]; omega
            obtain ⟨cA, cB⟩ := cut_hit t k hkl HNo.out (hc.trans h32)
            by_cases hk0 : k = 0
            · subst hk0
              have HF := wd_stop hlt HR.out.1 (cA.trans (ex_emp t))
              have HP : Hid (∀ x, _) := fun (_ : Unit) => HW.out xs emp false HF (.slice ao j ca) wr (by rw [hxl]; exact HR.out.2.1) HR.out.2.2
              clear cA cB HF HNo HW HR HI
              go_wp2
              go_ret3
              exact HP.out ()
            · have hne := ex_ne t k (by omega) hk0
              have HX : Hid (wd n s = ((xs ++ [t.extract 0 k]) ++ (wd (n - (j + 1)) (t.extract (k + 1) t.size)).1, (wd (n - (j + 1)) (t.extract (k + 1) t.size)).2)) := by
                have := wd_next hlt HR.out.1 (by rw [cA]; exact hne)
                rw [cA, cB] at this
                exact this
              have hb0 : ((k : Int) == 0) = false := by rw [beq_eq_false_iff_ne]; omega
              have hbz : ((k : Int) == (t.size : Int)) = false := by rw [beq_eq_false_iff_ne]; omega
              clear cA cB HNo HW hne
              go_wp2_with (at_builtin; refine wpList_append_own _ rfl _ _ 30 rfl w.heap.size 9 i0 (.string ⟨#[]⟩) 1 16 Tryd.underlying30 HI.out.1 HI.out.2.1 HI.out.2.2.1 HI.out.2.2.2 rfl (by decide) _ _ _ rfl (HR.out.2.1.alloc _) ⟨wr.heap.size, 0, none⟩ 1 1 [.string (t.extract 0 k)] rfl rfl (cell_one_new _ _ _) ?c2 ?c3 ?c4 ?c5 ?_)
              case c2 => first | (intro u hu; simp at hu; subst hu; rfl) | rfl
              case c3 => unfold maxLen; omega
              case c4 => omega
              case c5 => first | omega | (simp; omega)
              intro v' w1 hown' hgrow _
              obtain ⟨ao', ca', rfl⟩ := row_form hown'
              have HS : Hid (wd n s = ((xs ++ [t.extract 0 k]) ++ (wd (n - (j + 1)) (t.extract (k + 1) t.size)).1, (wd (n - (j + 1)) (t.extract (k + 1) t.size)).2) ∧ w1.ownsRow w.heap.size 9 1 (.slice ao' (j + 1) ca') (j + 1) ((xs ++ [t.extract 0 k]).map Value.string) ∧ Below w.heap.size w w1) := hide ⟨HX.out, by simpa using hown', below_snoc HR.out.2.2 hgrow (fun k hk => (World.ownsRow.lt HR.out.2.1 k hk).1)⟩
              clear hown' hgrow HR HI HX
              go_wp2
              go_roundw
              case rel => exact ⟨j + 1, _, _, ao', ca', by omega, rfl, by rw [ByteArray.size_extract]; omega, rfl, by simp [hxl], HS⟩
              case measure => simp [sl]; omega
          · have hb32 : ((c : Int) == 32) = false := by rw [beq_eq_false_iff_ne]; omega
            have HN2 : Hid (∀ q (h : q < t.size), q < k + 1 → (t[q]'h).toNat ≠ 32) := fun q h hq => by
              by_cases e : q = k
              · subst e; rw [hc]; exact h32
              · exact HNo.out q h (by omega)
            clear HW HR HI HNo
            go_wp2
            go_round
            case rel => exact ⟨k + 1, by omega, by go_num, HN2⟩
            case measure => simp [intOf]; omega
        · have hke : k = t.size := by omega
          subst hke
          obtain ⟨cA, cB⟩ := cut_miss t (fun q h => HNo.out q h h)
          by_cases hk0 : t.size = 0
          · have te : t = emp := of_list (List.length_eq_zero_iff.1 hk0)
            have HF := wd_stop hlt HR.out.1 (cA.trans te)
            have HP : Hid (∀ x, _) := fun (_ : Unit) => HW.out xs emp false HF (.slice ao j ca) wr (by rw [hxl]; exact HR.out.2.1) HR.out.2.2
            clear cA cB HF HNo HW HR HI te
            go_wp2
            go_ret3
            exact HP.out ()
          · have hne : t ≠ emp := fun e => hk0 (by rw [e]; rfl)
            have HX : Hid (wd n s = (xs ++ [t], emp, decide (n - (j + 1) = 0))) := by
              have := wd_next hlt HR.out.1 (by rw [cA]; exact hne)
              rw [cA, cB, wd_emp] at this
              rw [this]
              exact congrArg (fun l => (l, emp, decide (n - (j + 1) = 0))) (List.append_nil _)
            have hb0 : ((t.size : Int) == 0) = false := by rw [beq_eq_false_iff_ne]; omega
            have hall := ex_all t
            clear cA cB HNo hne
            go_wp2_with (at_builtin; refine wpList_append_own _ rfl _ _ 30 rfl w.heap.size 9 i0 (.string ⟨#[]⟩) 1 16 Tryd.underlying30 HI.out.1 HI.out.2.1 HI.out.2.2.1 HI.out.2.2.2 rfl (by decide) _ _ _ rfl (HR.out.2.1.alloc _) ⟨wr.heap.size, 0, none⟩ 1 1 [.string t] rfl rfl (cell_one_new _ _ _) ?c2 ?c3 ?c4 ?c5 ?_)
            case c2 => first | (intro u hu; simp at hu; subst hu; rfl) | rfl
            case c3 => unfold maxLen; omega
            case c4 => omega
            case c5 => first | omega | (simp; omega)
            intro v' w1 hown' hgrow _
            obtain ⟨ao', ca', rfl⟩ := row_form hown'
            have HP : Hid (∀ x, _) := fun (_ : Unit) => HW.out (xs ++ [t]) emp _ HX.out (.slice ao' (j + 1) ca') w1 (by simpa [hxl] using hown') (below_snoc HR.out.2.2 hgrow (fun k hk => (World.ownsRow.lt HR.out.2.1 k hk).1))
            clear hown' hgrow HR HI HX HW
            by_cases hjn : j + 1 = n
            · subst hjn
              have hd : decide (j + 1 - (j + 1) = 0) = true := by simp
              rw [hd] at HP
              go_wp2
              go_ret3
              exact HP.out ()
            · have hd : decide (n - (j + 1) = 0) = false := by simp; omega
              rw [hd] at HP
              have hq : ((j : Int) + 1 == (n : Int)) = false := by rw [beq_eq_false_iff_ne]; omega
              go_wp2
              go_ret3
              exact HP.out ()
    · have hjn : j = n := by omega
      subst hjn
      have HF : wd j s = (xs, t, true) := by rw [HR.out.1, Nat.sub_self]; simp [wd]
      have HP : Hid (∀ x, _) := fun (_ : Unit) => HW.out xs t true HF (.slice ao j ca) wr (by rw [hxl]; exact HR.out.2.1) HR.out.2.2
      clear HF HW HR HI
      go_wp2
      go_ret3
      exact HP.out ()
end Go.Proofs.YtolmngfjdcoapaaDoor.swords
