/- Lines, turned round. -/
import Derived.Test.YtdhachmelgdknaaGreatDoorCst
namespace Go.Proofs.YtdhachmelgdknaaGreatDoor.run
open Go.Proofs.YtdhachmelgdknaaGreatDoor.bas
set_option linter.unusedVariables false
theorem szJ (l : ByteArray) (r : List ByteArray) : (joinL (l :: r)).size = l.size + 1 + (joinL r).size := by
  show (l ++ nl ++ joinL r).size = _
  rw [ByteArray.size_append, ByteArray.size_append]; rfl
theorem szApp : ∀ (a b : List ByteArray), (joinL (a ++ b)).size = (joinL a).size + (joinL b).size
  | [], b => by show _ = 0 + _; rw [List.nil_append, Nat.zero_add]
  | l :: r, b => by rw [List.cons_append, szJ, szJ, szApp r b]; omega
theorem szRep (l : ByteArray) : ∀ r, (joinL (List.replicate r l)).size = r * (l.size + 1)
  | 0 => by rw [Nat.zero_mul]; rfl
  | r + 1 => by rw [List.replicate_succ, szJ, szRep l r, Nat.succ_mul]; omega
theorem szRp (r : Nat) : ∀ ls, (joinL (rp r ls)).size = r * (joinL ls).size
  | [] => by show 0 = r * 0; rw [Nat.mul_zero]
  | l :: t => by
    show (joinL (List.replicate r l ++ rp r t)).size = _
    rw [szApp, szRep, szRp r t, szJ, ← Nat.mul_add]
theorem szLe : ∀ ls : List ByteArray, (∀ l ∈ ls, l.size ≤ 6) → (joinL ls).size ≤ 7 * ls.length
  | [], _ => Nat.zero_le _
  | l :: t, h => by
    have h1 := h l (List.mem_cons_self ..)
    have h2 := szLe t fun x hx => h x (List.mem_cons_of_mem _ hx)
    rw [szJ, List.length_cons]; omega
theorem rp_one (ls : List ByteArray) : rp 1 ls = ls := by
  induction ls with
  | nil => rfl
  | cons l t ih => show l :: rp 1 t = _; rw [ih]
theorem rp_zero (ls : List ByteArray) : rp 0 ls = [] := by
  induction ls with
  | nil => rfl
  | cons l t ih => show rp 0 t = _; rw [ih]
/-- Lines with line ends between them. -/
def jn : List ByteArray → ByteArray
  | [] => bas.mt
  | [a] => a
  | a :: b :: r => a ++ nl ++ jn (b :: r)
theorem jn_cons (a : ByteArray) : ∀ r : List ByteArray, r ≠ [] → jn (a :: r) = a ++ nl ++ jn r
  | [], h => absurd rfl h
  | _ :: _, _ => rfl
theorem join_jn (a : ByteArray) : ∀ r : List ByteArray, joinL (a :: r) = jn (a :: r) ++ nl
  | [] => by
    apply of_list
    simp [joinL, jn, bas.mt]
  | b :: r => by
    have h := join_jn b r
    rw [joinL, h, jn]
    apply of_list
    simp
theorem jn_size : ∀ l : List ByteArray, (jn l).size ≤ (joinL l).size
  | [] => Nat.le_refl _
  | a :: r => by rw [join_jn, ByteArray.size_append]; omega
/-- The first i lines, turned round. -/
def rv (ls : List ByteArray) (i : Nat) : ByteArray := jn (ls.take i).reverse
theorem rv_one {ls : List ByteArray} {a : ByteArray} (h : ls[0]? = some a) : rv ls 1 = a := by
  cases ls with
  | nil => cases h
  | cons x r =>
    obtain rfl := Option.some.inj h
    rfl
theorem take_rev {ls : List ByteArray} {i : Nat} {a : ByteArray} (h : ls[i]? = some a) : (ls.take (i + 1)).reverse = a :: (ls.take i).reverse := by
  rw [List.take_add_one, h]
  simp
theorem rv_more {ls : List ByteArray} {i : Nat} {a : ByteArray} (h : ls[i]? = some a) (hi : 0 < i) : rv ls (i + 1) = a ++ nl ++ rv ls i := by
  unfold rv
  rw [take_rev h]
  refine jn_cons a _ ?_
  intro e
  have hlt := (List.getElem?_eq_some_iff.1 h).1
  have := congrArg List.length e
  simp at this
  rcases this with h0 | h0
  · omega
  · subst h0; simp at hlt
theorem rv_all {ls : List ByteArray} {i : Nat} {a : ByteArray} (h : ls[i]? = some a) (hi : i + 1 = ls.length) : joinL [rv ls (i + 1)] = joinL ls.reverse := by
  have e : ls.reverse = a :: (ls.take i).reverse := by
    rw [← take_rev h, hi, List.take_length]
  have e2 : rv ls (i + 1) = jn (a :: (ls.take i).reverse) := by unfold rv; rw [take_rev h]
  have e3 : ∀ x : ByteArray, joinL [x] = x ++ nl := fun x => by
    apply of_list
    simp [joinL, bas.mt]
  rw [e3, e2, e, join_jn]
theorem szRev : ∀ l : List ByteArray, (joinL l.reverse).size = (joinL l).size
  | [] => rfl
  | a :: r => by
    rw [List.reverse_cons, szApp, szRev r, szJ, szJ]
    show _ + (a.size + 1 + 0) = _
    omega
theorem szTake (ls : List ByteArray) (i : Nat) : (joinL (ls.take i)).size ≤ (joinL ls).size := by
  have := szApp (ls.take i) (ls.drop i)
  rw [List.take_append_drop] at this
  omega
theorem szRv (ls : List ByteArray) (i : Nat) : (rv ls i).size ≤ (joinL ls).size := by
  have h1 := jn_size (ls.take i).reverse
  rw [szRev] at h1
  exact Nat.le_trans h1 (szTake ls i)
theorem szMem : ∀ (ls : List ByteArray) (a : ByteArray), a ∈ ls → a.size ≤ (joinL ls).size
  | x :: r, a, h => by
    rw [szJ]
    rcases List.mem_cons.1 h with rfl | h
    · omega
    · have := szMem r a h
      omega
end Go.Proofs.YtdhachmelgdknaaGreatDoor.run
