/- Lines, turned round. -/
import Derived.Test.YtdhachmelgdknaaGreatDoorLkp
/- All cycles of a run of p. -/
namespace Go.Proofs.YtdhachmelgdknaaGreatDoor.run
open Go.ChangeShapes Go.WideShapes Go.ChangeAt Go.RowKit
open Go.Proofs.YtdhachmelgdknaaGreatDoor.bas Go.Proofs.YtdhachmelgdknaaGreatDoor.rdr Go.Proofs.YtdhachmelgdknaaGreatDoor.chk
set_option linter.unusedVariables false
theorem join_app (a b : List ByteArray) : joinL (a ++ b) = joinL a ++ joinL b := by
  induction a with
  | nil => apply of_list; simp [joinL, bas.mt]
  | cons x r ih =>
    rw [List.cons_append, joinL, joinL, ih]
    apply of_list
    simp
theorem join_le (a b : List ByteArray) : (joinL a).size ≤ (joinL (a ++ b)).size := by rw [join_app]; simp
/-- Each line so often. -/
def rp (r : Nat) (ls : List ByteArray) : List ByteArray := ls.flatMap fun a => List.replicate r a
theorem rp_snoc (r : Nat) (ls : List ByteArray) (a : ByteArray) : rp r (ls ++ [a]) = rp r ls ++ List.replicate r a := by simp [rp]
/-- What a run of m commands p works on. -/
structure Wk (base d : Nat) (W : World) (u : U) (ls : List ByteArray) (m : Nat) (q : Bool) : Prop where
  lines : ∃ gl lc ob, u.ln = .slice (some ⟨gl, 0, none⟩) ls.length lc ∧ W.heap[gl]? = some ob ∧ isB ob = false ∧ gl ≠ d ∧ LN W gl ls
  list : ∃ lo lc, u.ls = .slice lo m lc ∧ (m = 0 ∨ ∃ g og, lo = some ⟨g, 0, none⟩ ∧ W.heap[g]? = some og ∧ isB og = false ∧ g ≠ d ∧ Lst W g lc (List.replicate m cmP))
  quiet : u.quiet = q
  few : ls.length ≤ 1000
  cmds : m ≤ 60
  steps : ls.length * m ≤ 2000
  small : ∀ a ∈ ls, a.size ≤ 1000
  size : (joinL (rp (m + if q then 0 else 1) ls)).size ≤ 8000
/-- A run behind i lines. -/
structure At (base d : Nat) (W : World) (u : U) (ls : List ByteArray) (m : Nat) (q : Bool) (i : Nat) (wr : World) : Prop where
  ex : ∃ u', Rn base d wr u' (joinL (rp (m + if q then 0 else 1) (ls.take i))) ∧ u'.ls = u.ls ∧ u'.ln = u.ln ∧ u'.quiet = q ∧ u'.left = false ∧ u'.num = i ∧ u'.steps = i * m
  kp : KP base d W wr
/-- A run in the midst of a cycle on a line, behind j commands. -/
structure Mid (base d : Nat) (W : World) (u : U) (ls : List ByteArray) (m : Nat) (q : Bool) (i : Nat) (a : ByteArray) (j : Nat) (wr : World) : Prop where
  ex : ∃ u', Rn base d wr u' (joinL (rp (m + if q then 0 else 1) (ls.take i) ++ List.replicate j a)) ∧ u'.ls = u.ls ∧ u'.ln = u.ln ∧ u'.quiet = q ∧ u'.left = false ∧ u'.num = i + 1 ∧ u'.steps = i * m + j ∧ u'.pat = a ∧ u'.at_ = j
  kp : KP base d W wr
theorem ln_kp {base d : Nat} {W wr : World} {gl : Nat} {ls : List ByteArray} {ob : Obj} (hk : KP base d W wr) (hg : W.heap[gl]? = some ob) (hob : isB ob = false) (hgd : gl ≠ d) (hL : LN W gl ls) : LN wr gl ls := fun k a ha => by
  rw [World.cell?_of_block (show wr.heap[(⟨gl, k, none⟩ : Addr).block]? = W.heap[(⟨gl, k, none⟩ : Addr).block]? from (hk.oth gl ob hg hob hgd).trans hg.symm)]
  exact hL k a ha
theorem lst_kp {base d : Nat} {W wr : World} {g cap : Nat} {cs : List Cm} {ob : Obj} (hk : KP base d W wr) (hg : W.heap[g]? = some ob) (hob : isB ob = false) (hgd : g ≠ d) (hL : Lst W g cap cs) : Lst wr g cap cs :=
  ⟨fun k c hc j v hv => by
    rw [World.cell?_of_block (show wr.heap[(⟨g, k * 26 + j, none⟩ : Addr).block]? = W.heap[(⟨g, k * 26 + j, none⟩ : Addr).block]? from (hk.oth g ob hg hob hgd).trans hg.symm)]
    exact hL.at_ k c hc j v hv, Nat.lt_of_lt_of_le hL.lt hk.size⟩
section
variable {base d : Nat} {W : World} {u : U} {ls : List ByteArray} {m : Nat} {q : Bool}
theorem step_begin (hw : Wk base d W u ls m q) {i : Nat} {wr : World} (h : At base d W u ls m q i wr) (hi : i ≤ ls.length) :
    (i = ls.length ∧ Calls Tryz.prog 58 #[.pointer (some ⟨d, 0, none⟩)] wr fun e w' => e = .returned (.bool false) ∧ At base d W u ls m q i w') ∨
    (∃ a, ls[i]? = some a ∧ Calls Tryz.prog 58 #[.pointer (some ⟨d, 0, none⟩)] wr fun e w' => e = .returned (.bool true) ∧ Mid base d W u ls m q i a 0 w') := by
  obtain ⟨u', hR, e1, e2, e3, e4, e5, e6⟩ := h.ex
  obtain ⟨gl, lc, ob, hln, hg, hob, hgd, hL⟩ := hw.lines
  have hfew := hw.few
  by_cases hlt : i < ls.length
  · right
    obtain ⟨a, ha⟩ : ∃ a, ls[i]? = some a := ⟨_, List.getElem?_eq_getElem hlt⟩
    refine ⟨a, ha, ?_⟩
    refine (begin_line hR e4 gl ls ls.length lc (e2.trans hln) (by omega) hfew ob (h.kp.oth gl ob hg hob hgd) hgd (ln_kp h.kp hg hob hgd hL) a (by rw [e5]; exact ha) (hw.small a (List.mem_of_getElem? ha))).mono ?_
    rintro e w' ⟨rfl, h1, k1⟩
    exact ⟨rfl, ⟨{ u' with at_ := 0, flag := false, num := u'.num + 1, pat := a }, by simpa using h1, e1, e2, e3, e4, by show u'.num + 1 = i + 1; rw [e5], by show u'.steps = _; rw [e6]; rfl, rfl, rfl⟩, h.kp.trans k1⟩
  · left
    have he : i = ls.length := by omega
    refine ⟨he, ?_⟩
    refine (begin_end hR e4 _ ls.length lc (e2.trans hln) (by omega) hfew).mono ?_
    rintro e w' ⟨rfl, h1, k1⟩
    exact ⟨rfl, ⟨_, h1, e1, e2, e3, e4, e5, e6⟩, h.kp.trans k1⟩
theorem sz_mid (hw : Wk base d W u ls m q) {i j : Nat} {a : ByteArray} (ha : ls[i]? = some a) (hj : j < m + if q then 0 else 1) : (joinL (rp (m + if q then 0 else 1) (ls.take i) ++ List.replicate j a)).size + a.size + 1 ≤ 8000 := by
  have h1 := hw.size
  have e : ls = ls.take i ++ a :: ls.drop (i + 1) := by
    have hlt := (List.getElem?_eq_some_iff.1 ha).1
    conv => lhs; rw [← List.take_append_drop i ls]
    rw [List.drop_eq_getElem_cons hlt]
    congr 2
    exact (List.getElem?_eq_some_iff.1 ha).2
  have e2 : rp (m + if q then 0 else 1) ls = (rp (m + if q then 0 else 1) (ls.take i) ++ List.replicate j a ++ [a]) ++ (List.replicate ((m + if q then 0 else 1) - j - 1) a ++ rp (m + if q then 0 else 1) (ls.drop (i + 1))) := by
    conv => lhs; rw [e]
    have : List.replicate (m + if q then 0 else 1) a = List.replicate j a ++ [a] ++ List.replicate ((m + if q then 0 else 1) - j - 1) a := by
      rw [show [a] = List.replicate 1 a from rfl, List.replicate_append_replicate, List.replicate_append_replicate]
      congr 1
      omega
    simp only [rp, List.flatMap_append, List.flatMap_cons]
    rw [this]
    simp
  have h2 := join_le (rp (m + if q then 0 else 1) (ls.take i) ++ List.replicate j a ++ [a]) (List.replicate ((m + if q then 0 else 1) - j - 1) a ++ rp (m + if q then 0 else 1) (ls.drop (i + 1)))
  rw [← e2] at h2
  rw [join_app _ [a]] at h2
  simp only [ByteArray.size_append] at h2
  have h3 : (joinL [a]).size = a.size + 1 := by simp [joinL, nl, bas.mt, ByteArray.size_append]; rfl
  omega
theorem step_look (hw : Wk base d W u ls m q) {i j : Nat} {a : ByteArray} {wr : World} (ha : ls[i]? = some a) (h : Mid base d W u ls m q i a j wr) (hj : j < m) :
    Calls Tryz.prog 59 #[.pointer (some ⟨d, 0, none⟩)] wr fun e w' => e = .returned (.int .i64 0) ∧ Mid base d W u ls m q i a (j + 1) w' := by
  obtain ⟨u', hR, e1, e2, e3, e4, e5, e6, e7, e8⟩ := h.ex
  obtain ⟨lo, lc, hls, h0 | ⟨g, og, rfl, hg, hog, hgd, hL⟩⟩ := hw.list
  · omega
  have hst := hw.steps
  have hilt := (List.getElem?_eq_some_iff.1 ha).1
  have hsz := sz_mid hw ha (j := j) (by split <;> omega)
  have hsteps : i * m + j < 2000 := by
    have : i * m + m ≤ ls.length * m := by
      have := Nat.mul_le_mul_right m (show i + 1 ≤ ls.length by omega)
      rw [Nat.add_mul, Nat.one_mul] at this
      exact this
    omega
  refine (look_p hR (by rw [e7]; exact hsz) g lc m (e1.trans hls) (List.replicate m cmP) (lst_kp h.kp hg hog hgd hL) hgd (by rw [e8]; simp [hj]) (by omega) hw.cmds (by omega)).mono ?_
  rintro e w' ⟨rfl, ⟨v, h1⟩, k1⟩
  refine ⟨rfl, ⟨{ u' with sd := v, at_ := u'.at_ + 1, steps := u'.steps + 1 }, ?_, e1, e2, e3, e4, e5, by show u'.steps + 1 = _; omega, e7, by show u'.at_ + 1 = _; omega⟩, h.kp.trans k1⟩
  rw [show joinL [u'.pat] = joinL [a] by rw [e7]] at h1
  rw [List.replicate_succ', ← List.append_assoc, join_app _ [a]]
  exact h1
theorem step_end (hw : Wk base d W u ls m q) {i : Nat} {a : ByteArray} {wr : World} (ha : ls[i]? = some a) (h : Mid base d W u ls m q i a m wr) :
    Calls Tryz.prog 61 #[.pointer (some ⟨d, 0, none⟩)] wr fun e w' => e = .returned (.tuple #[]) ∧ At base d W u ls m q (i + 1) w' := by
  obtain ⟨u', hR, e1, e2, e3, e4, e5, e6, e7, e8⟩ := h.ex
  have et : ls.take (i + 1) = ls.take i ++ [a] := by rw [List.take_add_one, ha]; rfl
  have es : (i + 1) * m = i * m + m := by rw [Nat.add_mul, Nat.one_mul]
  cases q with
  | true =>
    refine (sayCycle_quiet hR e3).mono ?_
    rintro e w' ⟨rfl, h1, k1⟩
    refine ⟨rfl, ⟨_, ?_, e1, e2, e3, e4, e5, by rw [es]; exact e6⟩, h.kp.trans k1⟩
    rw [et, rp_snoc]
    exact h1
  | false =>
    have hsz := sz_mid hw ha (j := m) (by simp)
    refine (sayCycle_loud hR e3 (by rw [e7]; exact hsz)).mono ?_
    rintro e w' ⟨rfl, ⟨v, h1⟩, k1⟩
    refine ⟨rfl, ⟨{ u' with sd := v }, ?_, e1, e2, e3, e4, e5, by rw [es]; exact e6⟩, h.kp.trans k1⟩
    rw [et, rp_snoc]
    show Rn base d w' _ (joinL (rp (m + 1) (ls.take i) ++ List.replicate (m + 1) a))
    rw [List.replicate_succ', ← List.append_assoc, join_app _ [a]]
    rw [show joinL [u'.pat] = joinL [a] by rw [e7]] at h1
    exact h1
end
end Go.Proofs.YtdhachmelgdknaaGreatDoor.run
namespace Go.Proofs.YtdhachmelgdknaaGreatDoor.run
open Go.Proofs.YtdhachmelgdknaaGreatDoor.bas
set_option linter.unusedVariables false
theorem szJ (l : ByteArray) (r : List ByteArray) : (joinL (l :: r)).size = l.size + 1 + (joinL r).size := by
  show (l ++ nl ++ joinL r).size = _
  rw [ByteArray.size_append, ByteArray.size_append]; rfl
theorem szApp : ∀ (a b : List ByteArray), (joinL (a ++ b)).size = (joinL a).size + (joinL b).size
  | [], b => by show _ = 0 + _; rw [List.nil_append, Nat.zero_add]
  | l :: r, b => by rw [List.cons_append, szJ, szJ, szApp r b]; omega
theorem szRep (l : ByteArray) : ∀ r, (joinL (List.replicate r l)).size = r * (l.size + 1)
  | 0 => by rw [Nat.zero_mul]; rfl
  | r + 1 => by rw [List.replicate_succ, szJ, szRep l r, Nat.succ_mul]; omega
theorem szRp (r : Nat) : ∀ ls, (joinL (rp r ls)).size = r * (joinL ls).size
  | [] => by show 0 = r * 0; rw [Nat.mul_zero]
  | l :: t => by
    show (joinL (List.replicate r l ++ rp r t)).size = _
    rw [szApp, szRep, szRp r t, szJ, ← Nat.mul_add]
theorem szLe : ∀ ls : List ByteArray, (∀ l ∈ ls, l.size ≤ 6) → (joinL ls).size ≤ 7 * ls.length
  | [], _ => Nat.zero_le _
  | l :: t, h => by
    have h1 := h l (List.mem_cons_self ..)
    have h2 := szLe t fun x hx => h x (List.mem_cons_of_mem _ hx)
    rw [szJ, List.length_cons]; omega
theorem rp_one (ls : List ByteArray) : rp 1 ls = ls := by
  induction ls with
  | nil => rfl
  | cons l t ih => show l :: rp 1 t = _; rw [ih]
theorem rp_zero (ls : List ByteArray) : rp 0 ls = [] := by
  induction ls with
  | nil => rfl
  | cons l t ih => show rp 0 t = _; rw [ih]
/-- Lines with line ends between them. -/
def jn : List ByteArray → ByteArray
  | [] => bas.mt
  | [a] => a
  | a :: b :: r => a ++ nl ++ jn (b :: r)
theorem jn_cons (a : ByteArray) : ∀ r : List ByteArray, r ≠ [] → jn (a :: r) = a ++ nl ++ jn r
  | [], h => absurd rfl h
  | _ :: _, _ => rfl
theorem join_jn (a : ByteArray) : ∀ r : List ByteArray, joinL (a :: r) = jn (a :: r) ++ nl
  | [] => by
    apply of_list
    simp [joinL, jn, bas.mt]
  | b :: r => by
    have h := join_jn b r
    rw [joinL, h, jn]
    apply of_list
    simp
theorem jn_size : ∀ l : List ByteArray, (jn l).size ≤ (joinL l).size
  | [] => Nat.le_refl _
  | a :: r => by rw [join_jn, ByteArray.size_append]; omega
/-- The first i lines, turned round. -/
def rv (ls : List ByteArray) (i : Nat) : ByteArray := jn (ls.take i).reverse
theorem rv_one {ls : List ByteArray} {a : ByteArray} (h : ls[0]? = some a) : rv ls 1 = a := by
  cases ls with
  | nil => cases h
  | cons x r =>
    obtain rfl := Option.some.inj h
    rfl
theorem take_rev {ls : List ByteArray} {i : Nat} {a : ByteArray} (h : ls[i]? = some a) : (ls.take (i + 1)).reverse = a :: (ls.take i).reverse := by
  rw [List.take_add_one, h]
  simp
theorem rv_more {ls : List ByteArray} {i : Nat} {a : ByteArray} (h : ls[i]? = some a) (hi : 0 < i) : rv ls (i + 1) = a ++ nl ++ rv ls i := by
  unfold rv
  rw [take_rev h]
  refine jn_cons a _ ?_
  intro e
  have hlt := (List.getElem?_eq_some_iff.1 h).1
  have := congrArg List.length e
  simp at this
  rcases this with h0 | h0
  · omega
  · subst h0; simp at hlt
theorem rv_all {ls : List ByteArray} {i : Nat} {a : ByteArray} (h : ls[i]? = some a) (hi : i + 1 = ls.length) : joinL [rv ls (i + 1)] = joinL ls.reverse := by
  have e : ls.reverse = a :: (ls.take i).reverse := by
    rw [← take_rev h, hi, List.take_length]
  have e2 : rv ls (i + 1) = jn (a :: (ls.take i).reverse) := by unfold rv; rw [take_rev h]
  have e3 : ∀ x : ByteArray, joinL [x] = x ++ nl := fun x => by
    apply of_list
    simp [joinL, bas.mt]
  rw [e3, e2, e, join_jn]
theorem szRev : ∀ l : List ByteArray, (joinL l.reverse).size = (joinL l).size
  | [] => rfl
  | a :: r => by
    rw [List.reverse_cons, szApp, szRev r, szJ, szJ]
    show _ + (a.size + 1 + 0) = _
    omega
theorem szTake (ls : List ByteArray) (i : Nat) : (joinL (ls.take i)).size ≤ (joinL ls).size := by
  have := szApp (ls.take i) (ls.drop i)
  rw [List.take_append_drop] at this
  omega
theorem szRv (ls : List ByteArray) (i : Nat) : (rv ls i).size ≤ (joinL ls).size := by
  have h1 := jn_size (ls.take i).reverse
  rw [szRev] at h1
  exact Nat.le_trans h1 (szTake ls i)
theorem szMem : ∀ (ls : List ByteArray) (a : ByteArray), a ∈ ls → a.size ≤ (joinL ls).size
  | x :: r, a, h => by
    rw [szJ]
    rcases List.mem_cons.1 h with rfl | h
    · omega
    · have := szMem r a h
      omega
end Go.Proofs.YtdhachmelgdknaaGreatDoor.run
