/- A region whose last operation waits for all the others: a condition on memory is asked up to it alone, so that what it overwrites may be read first. -/
import Derived.WalkKit
import Derived.Below
import Derived.StillTail
import Derived.OrdersHeld
import Derived.RegionTactic
import Derived.Deep.RegionLaw
namespace Go.Proofs.YtdhachmelgdknaaGreatDoor.wtl
open Go.RowKit
set_option linter.unusedVariables false
section
variable {P : Program} {ops : Array Oper} {Q : Exit → Act → World → Prop} {S : World → Prop} {n : Nat}

/-- All ahead of the last one, in whatever order; S holds behind each. -/
def HT (P : Program) (ops : Array Oper) (Q : Exit → Act → World → Prop) (S : World → Prop) (n : Nat) : Nat → Array Bool → Act → World → Prop
  | 0, listed, a, w => (∀ j, j < n → listed.getD j true = true) ∧ wpAny P .any ops Q 1 listed a w
  | f + 1, listed, a, w => Region.ready .any ops listed ≠ [] ∧ ∀ i ∈ Region.ready .any ops listed, i < n ∧ wpOp P ops Q i (fun a' w' => S w' ∧ HT P ops Q S n f (listed.setIfInBounds i true) a' w') a w

theorem any_of_HT : ∀ (f : Nat) (listed : Array Bool) (a : Act) (w : World), HT P ops Q S n f listed a w → wpAny P .any ops Q (f + 1) listed a w
  | 0, _, _, _, h => h.2
  | f + 1, listed, a, w, h => ⟨fun e => absurd e h.1, fun i hi => wpOp_mono (fun a' w' h' => any_of_HT f _ a' w' h'.2) (h.2 i hi).2⟩

theorem HT_first {i : Nat} {oi : Oper} {v : Value} (hi : ops[i]? = some oi) (hin : i < n) (hsel : ∀ (j : Nat) (o : Oper) cs b, ops[j]? = some o → o.op ≠ .select cs b)
    (hQ : ∀ c a w, Q (.panic c) (a.put oi.dst v) w → Q (.panic c) a w) (hs : Region.sinkB .any ops n = true) (hc : Region.chainB .any ops n = true) (hn : n < ops.size) :
    ∀ (f : Nat) (listed : Array Bool) (a : Act) (w : World), HeadInv .any ops n listed →
      (∀ j oj, ops[j]? = some oj → j ≠ i → listed.getD j true = false → (∀ e ∈ oj.after, Region.binds .any e = true → e.on ≠ i) → oi.apart ops oj = true) →
      i ∈ Region.ready .any ops listed → YieldsIf P ops S oi v a → S w →
      HT P ops Q S n f (listed.setIfInBounds i true) (a.put oi.dst v) w → HT P ops Q S n (f + 1) listed a w := by
  intro f
  induction f with
  | zero =>
    intro listed a w inv _ hr hy hS H
    have hun := (mem_ready.1 hr).1
    refine ⟨fun h => (by rw [h] at hr; cases hr), fun j hj => ?_⟩
    have hjn : j < n := Nat.lt_of_not_le (fun h => tail_waits hs hc hn inv _ i rfl hin hun j h hj)
    refine ⟨hjn, ?_⟩
    by_cases hji : j = i
    · subst hji; exact hy.wpOp hi hS ⟨hS, H⟩
    · exfalso
      have h1 := H.1 j hjn
      rw [getD_set_ne true (Ne.symm hji)] at h1
      rw [(mem_ready.1 hj).1] at h1
      cases h1
  | succ f ih =>
    intro listed a w inv hfree hr hy hS H
    have hun := (mem_ready.1 hr).1
    refine ⟨fun h => (by rw [h] at hr; cases hr), fun j hj => ?_⟩
    have hjn : j < n := Nat.lt_of_not_le (fun h => tail_waits hs hc hn inv _ i rfl hin hun j h hj)
    refine ⟨hjn, ?_⟩
    by_cases hji : j = i
    · subst hji; exact hy.wpOp hi hS ⟨hS, H⟩
    · have h1 := (H.2 j (ready_mono hj hji)).2
      obtain ⟨hjun, oj, hoj, hall⟩ := mem_ready.1 hj
      have hnot : ∀ e ∈ oj.after, Region.binds .any e = true → e.on ≠ i := fun e he hb heq => by
        have h1 := hall e he hb
        rw [heq, getD_both hun] at h1
        cases h1
      have h2 := wpOp_putIf hoj (hfree j oj hoj hji hjun hnot) (fun cs b => hsel i oi cs b hi) (fun cs b => hsel j oj cs b hoj) hQ hy h1
      refine wpOp_mono (fun a' w' h3 => ⟨h3.2.1, ih (listed.setIfInBounds j true) a' w' (inv.set hj hjn) (fun k ok hk hki hu hno => hfree k ok hk hki ?_ hno) (ready_mono hr (Ne.symm hji)) h3.1 h3.2.1 ?_⟩) h2
      · by_cases hjk : j = k
        · subst hjk; exact hjun
        · rw [getD_set_ne true hjk] at hu; exact hu
      · rw [Array.setIfInBounds_comm _ _ hji]
        exact h3.2.2

/-- The same, the invariant carried along. -/
def WT (P : Program) (ops : Array Oper) (Q : Exit → Act → World → Prop) (S : World → Prop) (n f : Nat) (listed : Array Bool) (a : Act) (w : World) : Prop := HeadInv .any ops n listed → HT P ops Q S n f listed a w

theorem HeadInv.begin (ops : Array Oper) (n : Nat) : HeadInv .any ops n (Array.replicate ops.size false) :=
  ⟨by simp, fun j oj _ h => (by rw [getD_replicate_false] at h; cases h), fun t _ ht => (by simp [ht])⟩

theorem WT.start {id : Nat} {a : Act} {w : World} (hm : P.follows .mixedOrders = true) (hz : ops.size = n + 1) (h : WT P ops Q S n n (Array.replicate ops.size false) a w.drew) : (Code.region id ops true).wp P Q a w := by
  refine wp_region_any hm ?_
  have := any_of_HT n _ a _ (h (HeadInv.begin ops n))
  rw [hz]
  rw [hz] at this
  exact this

theorem WT.take {i f : Nat} {oi : Oper} {v : Value} {listed : Array Bool} {a : Act} {w : World} (hi : ops[i]? = some oi) (hb : (decide (i < n) && Region.noSelect ops && Region.free .any ops listed i && (Region.ready .any ops listed).contains i && Region.sinkB .any ops n && Region.chainB .any ops n && decide (n < ops.size)) = true)
    (hQ : ∀ c a w, Q (.panic c) (a.put oi.dst v) w → Q (.panic c) a w) (hy : YieldsIf P ops S oi v a) (hS : S w)
    (h : WT P ops Q S n f (listed.setIfInBounds i true) (a.put oi.dst v) w) : WT P ops Q S n (f + 1) listed a w := fun inv => by
  simp only [Bool.and_eq_true, decide_eq_true_eq] at hb
  obtain ⟨⟨⟨⟨⟨⟨h1, h2⟩, h3⟩, h4⟩, h5⟩, h6⟩, h7⟩ := hb
  have hr : i ∈ Region.ready .any ops listed := by simpa using h4
  exact HT_first hi h1 (Region.noSelect_spec h2) hQ h5 h6 h7 f listed a w inv (Region.free_spec hi h3) hr hy hS (h (inv.set hr h1))

/-- The same, the temporary written out. -/
theorem WT.takeAt {i f : Nat} {oi : Oper} {v : Value} {listed : Array Bool} {a : Act} {w : World} (dd : Option Tmp) (hi : ops[i]? = some oi) (hdd : oi.dst = dd) (hb : (decide (i < n) && Region.noSelect ops && Region.free .any ops listed i && (Region.ready .any ops listed).contains i && Region.sinkB .any ops n && Region.chainB .any ops n && decide (n < ops.size)) = true)
    (hQ : ∀ c a w, Q (.panic c) (a.put oi.dst v) w → Q (.panic c) a w) (hy : YieldsIf P ops S oi v a) (hS : S w)
    (h : WT P ops Q S n f (listed.setIfInBounds i true) (a.put dd v) w) : WT P ops Q S n (f + 1) listed a w := by
  subst hdd
  exact WT.take hi hb hQ hy hS h
theorem WT.branch {rs : List Nat} {f : Nat} {listed : Array Bool} {a : Act} {w : World} (hr : Region.ready .any ops listed = rs) (hne : rs ≠ []) (hlt : ∀ i ∈ rs, i < n)
    (h : ∀ i ∈ rs, wpOp P ops Q i (fun a' w' => S w' ∧ WT P ops Q S n f (listed.setIfInBounds i true) a' w') a w) : WT P ops Q S n (f + 1) listed a w := fun inv => by
  refine ⟨by rw [hr]; exact hne, fun i hi => ⟨hlt i (hr ▸ hi), ?_⟩⟩
  exact wpOp_mono (fun a' w' h' => ⟨h'.1, h'.2 (inv.set hi (hlt i (hr ▸ hi)))⟩) (h i (hr ▸ hi))

/-- One of those that may come up: it is carried out. -/
theorem op_step {f : Nat} {listed : Array Bool} {a : Act} {w : World} {i : Nat} {o : Oper} (ho : ops[i]? = some o)
    (h : ∀ K' : Act → World → Prop, Hid (∀ a w, S w → WT P ops Q S n f (listed.setIfInBounds i true) a w → K' a w) → if Region.wanted o (yielded ops a.tmps) = true then Oper.wp P o a w K' Q else K' (a.put o.dst undef) w) :
    wpOp P ops Q i (fun a' w' => S w' ∧ WT P ops Q S n f (listed.setIfInBounds i true) a' w') a w :=
  wpOp_step ho (fun K' hK => h K' (fun a w hS hW => hK a w ⟨hS, hW⟩))

/-- The last one. -/
theorem WT.last {listed : Array Bool} {a : Act} {w : World} {o : Oper} (ho : ops[n]? = some o) (hr : Region.ready .any ops listed = [n]) (hr2 : Region.ready .any ops (listed.setIfInBounds n true) = []) (hl : ((List.range n).all fun j => listed.getD j true) = true)
    (h : ∀ K' : Act → World → Prop, Hid (∀ a w, Q .normal a w → K' a w) → if Region.wanted o (yielded ops a.tmps) = true then Oper.wp P o a w K' Q else K' (a.put o.dst undef) w) : WT P ops Q S n 0 listed a w := fun _ => by
  refine ⟨fun j hj => ?_, ?_⟩
  · exact List.all_eq_true.1 hl j (List.mem_range.2 hj)
  · refine ⟨fun e => (by rw [hr] at e; cases e), fun i hi => ?_⟩
    rw [hr] at hi
    obtain rfl : i = n := by simpa using hi
    exact wpOp_step ho (fun K' hK => h K' (fun a w hq => hK a w ⟨hr2, hq⟩))
end
end Go.Proofs.YtdhachmelgdknaaGreatDoor.wtl
