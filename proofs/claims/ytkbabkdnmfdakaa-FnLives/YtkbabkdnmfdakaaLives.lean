/- Where one peer of three stands, all messages arrive and nothing crashes, what it is asked for is chosen: of the plain cluster. -/
import Derived.Test.YtkbabkdnmfdakaaRaftF
import Derived.KernelRfl
namespace Go.Proofs.Ytkbabkdnmfdakaa.Raft
set_option linter.unusedVariables false
theorem run_of {c c' : Cl} {e : Ev} {es : List Ev} (h : (c.event e).1 = c') : (c.run (e :: es)).1 = (c'.run es).1 := by rw [← h]; rfl
theorem idle (c : Cl) (h : c.net = []) : ∀ (m : Nat) (es : List Ev), (c.run (List.replicate m ⟨2, 0, []⟩ ++ es)).1 = (c.run es).1
  | 0, es => rfl
  | m + 1, es => by
    have e : (c.event ⟨2, 0, []⟩).1 = c := by simp [Cl.event, h]
    show (c.run (⟨2, 0, []⟩ :: (List.replicate m ⟨2, 0, []⟩ ++ es))).1 = _
    rw [run_of e]
    exact idle c h m es
theorem ev7 (c : Cl) (k : Nat) (D : List Int) (hk : k < c.peers.length) (hu : (c.at k).up = true) (hr : (c.at k).role = 2) (hD : D.length ≤ 1000) (hl : (c.at k).log.length ≠ 100) : (c.event ⟨7, (k : Int), D⟩).1 = (c.put k { c.at k with log := (c.at k).log ++ [⟨(c.at k).term, (c.at k).log.length + 1, D⟩], mat := (c.at k).mat.set k ((c.at k).log.length + 1) }).commits k := by
  have h1 : ¬ ((k : Int) < 0 ∨ (c.peers.length : Int) ≤ (k : Int)) := by omega
  have h2 : ¬ (1000 < D.length ∨ (c.at k).log.length = 100) := by omega
  unfold Cl.event
  dsimp only
  rw [if_neg (by decide), if_pos (by decide), if_neg h1]
  simp only [Int.toNat_natCast]
  rw [if_neg (by rw [hu]; simp), if_neg (by decide), if_neg (by decide), if_neg (by decide), if_neg (by simp [hr]), if_neg h2]
/-- The events. -/
def evsOf (k : Int) (D : List Int) : List Ev := [⟨1, k, []⟩] ++ List.replicate 30 ⟨2, 0, []⟩ ++ [⟨7, k, D⟩, ⟨1, k, []⟩] ++ List.replicate 30 ⟨2, 0, []⟩
theorem s0_0 (D : List Int) (cf : Bool) : ((Cl.begin 3).event ⟨1, 0, []⟩).1 = ⟨[⟨true, 1, 1, 0, 1, [], [true, false, false], [], []⟩, ⟨true, 0, 0, 0, 0, [], [], [], []⟩, ⟨true, 0, 0, 0, 0, [], [], [], []⟩], [⟨1, 0, 1, 1, 0, 0, 0, false, []⟩, ⟨1, 0, 2, 1, 0, 0, 0, false, []⟩], [], ((Cl.begin 3).event ⟨1, 0, []⟩).1.conflict⟩ := by kernel_rfl
theorem s0_1 (D : List Int) (cf : Bool) : ((⟨[⟨true, 1, 1, 0, 1, [], [true, false, false], [], []⟩, ⟨true, 0, 0, 0, 0, [], [], [], []⟩, ⟨true, 0, 0, 0, 0, [], [], [], []⟩], [⟨1, 0, 1, 1, 0, 0, 0, false, []⟩, ⟨1, 0, 2, 1, 0, 0, 0, false, []⟩], [], cf⟩ : Cl).event ⟨2, 0, []⟩).1 = ⟨[⟨true, 1, 1, 0, 1, [], [true, false, false], [], []⟩, ⟨true, 1, 1, 0, 0, [], [], [], []⟩, ⟨true, 0, 0, 0, 0, [], [], [], []⟩], [⟨1, 0, 2, 1, 0, 0, 0, false, []⟩, ⟨2, 1, 0, 1, 0, 0, 0, true, []⟩], [], ((⟨[⟨true, 1, 1, 0, 1, [], [true, false, false], [], []⟩, ⟨true, 0, 0, 0, 0, [], [], [], []⟩, ⟨true, 0, 0, 0, 0, [], [], [], []⟩], [⟨1, 0, 1, 1, 0, 0, 0, false, []⟩, ⟨1, 0, 2, 1, 0, 0, 0, false, []⟩], [], cf⟩ : Cl).event ⟨2, 0, []⟩).1.conflict⟩ := by kernel_rfl
theorem s0_2 (D : List Int) (cf : Bool) : ((⟨[⟨true, 1, 1, 0, 1, [], [true, false, false], [], []⟩, ⟨true, 1, 1, 0, 0, [], [], [], []⟩, ⟨true, 0, 0, 0, 0, [], [], [], []⟩], [⟨1, 0, 2, 1, 0, 0, 0, false, []⟩, ⟨2, 1, 0, 1, 0, 0, 0, true, []⟩], [], cf⟩ : Cl).event ⟨2, 0, []⟩).1 = ⟨[⟨true, 1, 1, 0, 1, [], [true, false, false], [], []⟩, ⟨true, 1, 1, 0, 0, [], [], [], []⟩, ⟨true, 1, 1, 0, 0, [], [], [], []⟩], [⟨2, 1, 0, 1, 0, 0, 0, true, []⟩, ⟨2, 2, 0, 1, 0, 0, 0, true, []⟩], [], ((⟨[⟨true, 1, 1, 0, 1, [], [true, false, false], [], []⟩, ⟨true, 1, 1, 0, 0, [], [], [], []⟩, ⟨true, 0, 0, 0, 0, [], [], [], []⟩], [⟨1, 0, 2, 1, 0, 0, 0, false, []⟩, ⟨2, 1, 0, 1, 0, 0, 0, true, []⟩], [], cf⟩ : Cl).event ⟨2, 0, []⟩).1.conflict⟩ := by kernel_rfl
theorem s0_3 (D : List Int) (cf : Bool) : ((⟨[⟨true, 1, 1, 0, 1, [], [true, false, false], [], []⟩, ⟨true, 1, 1, 0, 0, [], [], [], []⟩, ⟨true, 1, 1, 0, 0, [], [], [], []⟩], [⟨2, 1, 0, 1, 0, 0, 0, true, []⟩, ⟨2, 2, 0, 1, 0, 0, 0, true, []⟩], [], cf⟩ : Cl).event ⟨2, 0, []⟩).1 = ⟨[⟨true, 1, 1, 0, 2, [], [], [1, 1, 1], [0, 0, 0]⟩, ⟨true, 1, 1, 0, 0, [], [], [], []⟩, ⟨true, 1, 1, 0, 0, [], [], [], []⟩], [⟨2, 2, 0, 1, 0, 0, 0, true, []⟩, ⟨3, 0, 1, 1, 0, 0, 0, false, []⟩, ⟨3, 0, 2, 1, 0, 0, 0, false, []⟩], [], ((⟨[⟨true, 1, 1, 0, 1, [], [true, false, false], [], []⟩, ⟨true, 1, 1, 0, 0, [], [], [], []⟩, ⟨true, 1, 1, 0, 0, [], [], [], []⟩], [⟨2, 1, 0, 1, 0, 0, 0, true, []⟩, ⟨2, 2, 0, 1, 0, 0, 0, true, []⟩], [], cf⟩ : Cl).event ⟨2, 0, []⟩).1.conflict⟩ := by kernel_rfl
theorem s0_4 (D : List Int) (cf : Bool) : ((⟨[⟨true, 1, 1, 0, 2, [], [], [1, 1, 1], [0, 0, 0]⟩, ⟨true, 1, 1, 0, 0, [], [], [], []⟩, ⟨true, 1, 1, 0, 0, [], [], [], []⟩], [⟨2, 2, 0, 1, 0, 0, 0, true, []⟩, ⟨3, 0, 1, 1, 0, 0, 0, false, []⟩, ⟨3, 0, 2, 1, 0, 0, 0, false, []⟩], [], cf⟩ : Cl).event ⟨2, 0, []⟩).1 = ⟨[⟨true, 1, 1, 0, 2, [], [], [1, 1, 1], [0, 0, 0]⟩, ⟨true, 1, 1, 0, 0, [], [], [], []⟩, ⟨true, 1, 1, 0, 0, [], [], [], []⟩], [⟨3, 0, 1, 1, 0, 0, 0, false, []⟩, ⟨3, 0, 2, 1, 0, 0, 0, false, []⟩], [], ((⟨[⟨true, 1, 1, 0, 2, [], [], [1, 1, 1], [0, 0, 0]⟩, ⟨true, 1, 1, 0, 0, [], [], [], []⟩, ⟨true, 1, 1, 0, 0, [], [], [], []⟩], [⟨2, 2, 0, 1, 0, 0, 0, true, []⟩, ⟨3, 0, 1, 1, 0, 0, 0, false, []⟩, ⟨3, 0, 2, 1, 0, 0, 0, false, []⟩], [], cf⟩ : Cl).event ⟨2, 0, []⟩).1.conflict⟩ := by kernel_rfl
theorem s0_5 (D : List Int) (cf : Bool) : ((⟨[⟨true, 1, 1, 0, 2, [], [], [1, 1, 1], [0, 0, 0]⟩, ⟨true, 1, 1, 0, 0, [], [], [], []⟩, ⟨true, 1, 1, 0, 0, [], [], [], []⟩], [⟨3, 0, 1, 1, 0, 0, 0, false, []⟩, ⟨3, 0, 2, 1, 0, 0, 0, false, []⟩], [], cf⟩ : Cl).event ⟨2, 0, []⟩).1 = ⟨[⟨true, 1, 1, 0, 2, [], [], [1, 1, 1], [0, 0, 0]⟩, ⟨true, 1, 1, 0, 0, [], [], [], []⟩, ⟨true, 1, 1, 0, 0, [], [], [], []⟩], [⟨3, 0, 2, 1, 0, 0, 0, false, []⟩, ⟨4, 1, 0, 1, 0, 0, 0, true, []⟩], [], ((⟨[⟨true, 1, 1, 0, 2, [], [], [1, 1, 1], [0, 0, 0]⟩, ⟨true, 1, 1, 0, 0, [], [], [], []⟩, ⟨true, 1, 1, 0, 0, [], [], [], []⟩], [⟨3, 0, 1, 1, 0, 0, 0, false, []⟩, ⟨3, 0, 2, 1, 0, 0, 0, false, []⟩], [], cf⟩ : Cl).event ⟨2, 0, []⟩).1.conflict⟩ := by kernel_rfl
theorem s0_6 (D : List Int) (cf : Bool) : ((⟨[⟨true, 1, 1, 0, 2, [], [], [1, 1, 1], [0, 0, 0]⟩, ⟨true, 1, 1, 0, 0, [], [], [], []⟩, ⟨true, 1, 1, 0, 0, [], [], [], []⟩], [⟨3, 0, 2, 1, 0, 0, 0, false, []⟩, ⟨4, 1, 0, 1, 0, 0, 0, true, []⟩], [], cf⟩ : Cl).event ⟨2, 0, []⟩).1 = ⟨[⟨true, 1, 1, 0, 2, [], [], [1, 1, 1], [0, 0, 0]⟩, ⟨true, 1, 1, 0, 0, [], [], [], []⟩, ⟨true, 1, 1, 0, 0, [], [], [], []⟩], [⟨4, 1, 0, 1, 0, 0, 0, true, []⟩, ⟨4, 2, 0, 1, 0, 0, 0, true, []⟩], [], ((⟨[⟨true, 1, 1, 0, 2, [], [], [1, 1, 1], [0, 0, 0]⟩, ⟨true, 1, 1, 0, 0, [], [], [], []⟩, ⟨true, 1, 1, 0, 0, [], [], [], []⟩], [⟨3, 0, 2, 1, 0, 0, 0, false, []⟩, ⟨4, 1, 0, 1, 0, 0, 0, true, []⟩], [], cf⟩ : Cl).event ⟨2, 0, []⟩).1.conflict⟩ := by kernel_rfl
theorem s0_7 (D : List Int) (cf : Bool) : ((⟨[⟨true, 1, 1, 0, 2, [], [], [1, 1, 1], [0, 0, 0]⟩, ⟨true, 1, 1, 0, 0, [], [], [], []⟩, ⟨true, 1, 1, 0, 0, [], [], [], []⟩], [⟨4, 1, 0, 1, 0, 0, 0, true, []⟩, ⟨4, 2, 0, 1, 0, 0, 0, true, []⟩], [], cf⟩ : Cl).event ⟨2, 0, []⟩).1 = ⟨[⟨true, 1, 1, 0, 2, [], [], [1, 1, 1], [0, 0, 0]⟩, ⟨true, 1, 1, 0, 0, [], [], [], []⟩, ⟨true, 1, 1, 0, 0, [], [], [], []⟩], [⟨4, 2, 0, 1, 0, 0, 0, true, []⟩], [], ((⟨[⟨true, 1, 1, 0, 2, [], [], [1, 1, 1], [0, 0, 0]⟩, ⟨true, 1, 1, 0, 0, [], [], [], []⟩, ⟨true, 1, 1, 0, 0, [], [], [], []⟩], [⟨4, 1, 0, 1, 0, 0, 0, true, []⟩, ⟨4, 2, 0, 1, 0, 0, 0, true, []⟩], [], cf⟩ : Cl).event ⟨2, 0, []⟩).1.conflict⟩ := by kernel_rfl
theorem s0_8 (D : List Int) (cf : Bool) : ((⟨[⟨true, 1, 1, 0, 2, [], [], [1, 1, 1], [0, 0, 0]⟩, ⟨true, 1, 1, 0, 0, [], [], [], []⟩, ⟨true, 1, 1, 0, 0, [], [], [], []⟩], [⟨4, 2, 0, 1, 0, 0, 0, true, []⟩], [], cf⟩ : Cl).event ⟨2, 0, []⟩).1 = ⟨[⟨true, 1, 1, 0, 2, [], [], [1, 1, 1], [0, 0, 0]⟩, ⟨true, 1, 1, 0, 0, [], [], [], []⟩, ⟨true, 1, 1, 0, 0, [], [], [], []⟩], [], [], ((⟨[⟨true, 1, 1, 0, 2, [], [], [1, 1, 1], [0, 0, 0]⟩, ⟨true, 1, 1, 0, 0, [], [], [], []⟩, ⟨true, 1, 1, 0, 0, [], [], [], []⟩], [⟨4, 2, 0, 1, 0, 0, 0, true, []⟩], [], cf⟩ : Cl).event ⟨2, 0, []⟩).1.conflict⟩ := by kernel_rfl
theorem s0_9 (D : List Int) (hD : D.length ≤ 1000) (cf : Bool) : ((⟨[⟨true, 1, 1, 0, 2, [], [], [1, 1, 1], [0, 0, 0]⟩, ⟨true, 1, 1, 0, 0, [], [], [], []⟩, ⟨true, 1, 1, 0, 0, [], [], [], []⟩], [], [], cf⟩ : Cl).event ⟨7, 0, D⟩).1 = ⟨[⟨true, 1, 1, 0, 2, [⟨1, 1, D⟩], [], [1, 1, 1], [1, 0, 0]⟩, ⟨true, 1, 1, 0, 0, [], [], [], []⟩, ⟨true, 1, 1, 0, 0, [], [], [], []⟩], [], [], ((⟨[⟨true, 1, 1, 0, 2, [], [], [1, 1, 1], [0, 0, 0]⟩, ⟨true, 1, 1, 0, 0, [], [], [], []⟩, ⟨true, 1, 1, 0, 0, [], [], [], []⟩], [], [], cf⟩ : Cl).event ⟨7, 0, D⟩).1.conflict⟩ := by
  rw [show (⟨7, 0, D⟩ : Ev) = ⟨7, ((0 : Nat) : Int), D⟩ from rfl, ev7 _ 0 D (by show 0 < 3; decide) rfl rfl hD (by show (0 : Nat) ≠ 100; decide)]
  kernel_rfl
theorem s0_10 (D : List Int) (cf : Bool) : ((⟨[⟨true, 1, 1, 0, 2, [⟨1, 1, D⟩], [], [1, 1, 1], [1, 0, 0]⟩, ⟨true, 1, 1, 0, 0, [], [], [], []⟩, ⟨true, 1, 1, 0, 0, [], [], [], []⟩], [], [], cf⟩ : Cl).event ⟨1, 0, []⟩).1 = ⟨[⟨true, 1, 1, 0, 2, [⟨1, 1, D⟩], [], [1, 1, 1], [1, 0, 0]⟩, ⟨true, 1, 1, 0, 0, [], [], [], []⟩, ⟨true, 1, 1, 0, 0, [], [], [], []⟩], [⟨3, 0, 1, 1, 0, 0, 0, false, [⟨1, 1, D⟩]⟩, ⟨3, 0, 2, 1, 0, 0, 0, false, [⟨1, 1, D⟩]⟩], [], ((⟨[⟨true, 1, 1, 0, 2, [⟨1, 1, D⟩], [], [1, 1, 1], [1, 0, 0]⟩, ⟨true, 1, 1, 0, 0, [], [], [], []⟩, ⟨true, 1, 1, 0, 0, [], [], [], []⟩], [], [], cf⟩ : Cl).event ⟨1, 0, []⟩).1.conflict⟩ := by kernel_rfl
theorem s0_11 (D : List Int) (cf : Bool) : ((⟨[⟨true, 1, 1, 0, 2, [⟨1, 1, D⟩], [], [1, 1, 1], [1, 0, 0]⟩, ⟨true, 1, 1, 0, 0, [], [], [], []⟩, ⟨true, 1, 1, 0, 0, [], [], [], []⟩], [⟨3, 0, 1, 1, 0, 0, 0, false, [⟨1, 1, D⟩]⟩, ⟨3, 0, 2, 1, 0, 0, 0, false, [⟨1, 1, D⟩]⟩], [], cf⟩ : Cl).event ⟨2, 0, []⟩).1 = ⟨[⟨true, 1, 1, 0, 2, [⟨1, 1, D⟩], [], [1, 1, 1], [1, 0, 0]⟩, ⟨true, 1, 1, 0, 0, [⟨1, 1, D⟩], [], [], []⟩, ⟨true, 1, 1, 0, 0, [], [], [], []⟩], [⟨3, 0, 2, 1, 0, 0, 0, false, [⟨1, 1, D⟩]⟩, ⟨4, 1, 0, 1, 1, 0, 0, true, []⟩], [], ((⟨[⟨true, 1, 1, 0, 2, [⟨1, 1, D⟩], [], [1, 1, 1], [1, 0, 0]⟩, ⟨true, 1, 1, 0, 0, [], [], [], []⟩, ⟨true, 1, 1, 0, 0, [], [], [], []⟩], [⟨3, 0, 1, 1, 0, 0, 0, false, [⟨1, 1, D⟩]⟩, ⟨3, 0, 2, 1, 0, 0, 0, false, [⟨1, 1, D⟩]⟩], [], cf⟩ : Cl).event ⟨2, 0, []⟩).1.conflict⟩ := by kernel_rfl
theorem s0_12 (D : List Int) (cf : Bool) : ((⟨[⟨true, 1, 1, 0, 2, [⟨1, 1, D⟩], [], [1, 1, 1], [1, 0, 0]⟩, ⟨true, 1, 1, 0, 0, [⟨1, 1, D⟩], [], [], []⟩, ⟨true, 1, 1, 0, 0, [], [], [], []⟩], [⟨3, 0, 2, 1, 0, 0, 0, false, [⟨1, 1, D⟩]⟩, ⟨4, 1, 0, 1, 1, 0, 0, true, []⟩], [], cf⟩ : Cl).event ⟨2, 0, []⟩).1 = ⟨[⟨true, 1, 1, 0, 2, [⟨1, 1, D⟩], [], [1, 1, 1], [1, 0, 0]⟩, ⟨true, 1, 1, 0, 0, [⟨1, 1, D⟩], [], [], []⟩, ⟨true, 1, 1, 0, 0, [⟨1, 1, D⟩], [], [], []⟩], [⟨4, 1, 0, 1, 1, 0, 0, true, []⟩, ⟨4, 2, 0, 1, 1, 0, 0, true, []⟩], [], ((⟨[⟨true, 1, 1, 0, 2, [⟨1, 1, D⟩], [], [1, 1, 1], [1, 0, 0]⟩, ⟨true, 1, 1, 0, 0, [⟨1, 1, D⟩], [], [], []⟩, ⟨true, 1, 1, 0, 0, [], [], [], []⟩], [⟨3, 0, 2, 1, 0, 0, 0, false, [⟨1, 1, D⟩]⟩, ⟨4, 1, 0, 1, 1, 0, 0, true, []⟩], [], cf⟩ : Cl).event ⟨2, 0, []⟩).1.conflict⟩ := by kernel_rfl
theorem s0_13 (D : List Int) (cf : Bool) : ((⟨[⟨true, 1, 1, 0, 2, [⟨1, 1, D⟩], [], [1, 1, 1], [1, 0, 0]⟩, ⟨true, 1, 1, 0, 0, [⟨1, 1, D⟩], [], [], []⟩, ⟨true, 1, 1, 0, 0, [⟨1, 1, D⟩], [], [], []⟩], [⟨4, 1, 0, 1, 1, 0, 0, true, []⟩, ⟨4, 2, 0, 1, 1, 0, 0, true, []⟩], [], cf⟩ : Cl).event ⟨2, 0, []⟩).1 = ⟨[⟨true, 1, 1, 1, 2, [⟨1, 1, D⟩], [], [1, 2, 1], [1, 1, 0]⟩, ⟨true, 1, 1, 0, 0, [⟨1, 1, D⟩], [], [], []⟩, ⟨true, 1, 1, 0, 0, [⟨1, 1, D⟩], [], [], []⟩], [⟨4, 2, 0, 1, 1, 0, 0, true, []⟩], [⟨1, 1, D⟩], ((⟨[⟨true, 1, 1, 0, 2, [⟨1, 1, D⟩], [], [1, 1, 1], [1, 0, 0]⟩, ⟨true, 1, 1, 0, 0, [⟨1, 1, D⟩], [], [], []⟩, ⟨true, 1, 1, 0, 0, [⟨1, 1, D⟩], [], [], []⟩], [⟨4, 1, 0, 1, 1, 0, 0, true, []⟩, ⟨4, 2, 0, 1, 1, 0, 0, true, []⟩], [], cf⟩ : Cl).event ⟨2, 0, []⟩).1.conflict⟩ := by kernel_rfl
theorem s0_14 (D : List Int) (cf : Bool) : ((⟨[⟨true, 1, 1, 1, 2, [⟨1, 1, D⟩], [], [1, 2, 1], [1, 1, 0]⟩, ⟨true, 1, 1, 0, 0, [⟨1, 1, D⟩], [], [], []⟩, ⟨true, 1, 1, 0, 0, [⟨1, 1, D⟩], [], [], []⟩], [⟨4, 2, 0, 1, 1, 0, 0, true, []⟩], [⟨1, 1, D⟩], cf⟩ : Cl).event ⟨2, 0, []⟩).1 = ⟨[⟨true, 1, 1, 1, 2, [⟨1, 1, D⟩], [], [1, 2, 2], [1, 1, 1]⟩, ⟨true, 1, 1, 0, 0, [⟨1, 1, D⟩], [], [], []⟩, ⟨true, 1, 1, 0, 0, [⟨1, 1, D⟩], [], [], []⟩], [], [⟨1, 1, D⟩], ((⟨[⟨true, 1, 1, 1, 2, [⟨1, 1, D⟩], [], [1, 2, 1], [1, 1, 0]⟩, ⟨true, 1, 1, 0, 0, [⟨1, 1, D⟩], [], [], []⟩, ⟨true, 1, 1, 0, 0, [⟨1, 1, D⟩], [], [], []⟩], [⟨4, 2, 0, 1, 1, 0, 0, true, []⟩], [⟨1, 1, D⟩], cf⟩ : Cl).event ⟨2, 0, []⟩).1.conflict⟩ := by kernel_rfl
theorem lives0 (D : List Int) (hD : D.length ≤ 1000) : ((Cl.begin 3).run (evsOf 0 D)).1.chosen = [⟨1, 1, D⟩] := by
  have e : evsOf 0 D = ⟨1, 0, []⟩ :: ([⟨2, 0, []⟩, ⟨2, 0, []⟩, ⟨2, 0, []⟩, ⟨2, 0, []⟩, ⟨2, 0, []⟩, ⟨2, 0, []⟩, ⟨2, 0, []⟩, ⟨2, 0, []⟩] ++ (List.replicate 22 ⟨2, 0, []⟩ ++ (⟨7, 0, D⟩ :: ⟨1, 0, []⟩ :: ([⟨2, 0, []⟩, ⟨2, 0, []⟩, ⟨2, 0, []⟩, ⟨2, 0, []⟩] ++ (List.replicate 26 ⟨2, 0, []⟩ ++ []))))) := rfl
  rw [e]
  rw [run_of (s0_0 D false)]
  generalize Cl.conflict _ = cf0
  rw [List.cons_append]
  rw [run_of (s0_1 D cf0)]
  generalize Cl.conflict _ = cf1
  rw [List.cons_append]
  rw [run_of (s0_2 D cf1)]
  generalize Cl.conflict _ = cf2
  rw [List.cons_append]
  rw [run_of (s0_3 D cf2)]
  generalize Cl.conflict _ = cf3
  rw [List.cons_append]
  rw [run_of (s0_4 D cf3)]
  generalize Cl.conflict _ = cf4
  rw [List.cons_append]
  rw [run_of (s0_5 D cf4)]
  generalize Cl.conflict _ = cf5
  rw [List.cons_append]
  rw [run_of (s0_6 D cf5)]
  generalize Cl.conflict _ = cf6
  rw [List.cons_append]
  rw [run_of (s0_7 D cf6)]
  generalize Cl.conflict _ = cf7
  rw [List.cons_append]
  rw [run_of (s0_8 D cf7)]
  generalize Cl.conflict _ = cf8
  rw [List.nil_append, idle _ rfl]
  rw [run_of (s0_9 D hD cf8)]
  generalize Cl.conflict _ = cf9
  rw [run_of (s0_10 D cf9)]
  generalize Cl.conflict _ = cf10
  rw [List.cons_append]
  rw [run_of (s0_11 D cf10)]
  generalize Cl.conflict _ = cf11
  rw [List.cons_append]
  rw [run_of (s0_12 D cf11)]
  generalize Cl.conflict _ = cf12
  rw [List.cons_append]
  rw [run_of (s0_13 D cf12)]
  generalize Cl.conflict _ = cf13
  rw [List.cons_append]
  rw [run_of (s0_14 D cf13)]
  generalize Cl.conflict _ = cf14
  rw [List.nil_append, idle _ rfl]
  rfl
theorem s1_0 (D : List Int) (cf : Bool) : ((Cl.begin 3).event ⟨1, 1, []⟩).1 = ⟨[⟨true, 0, 0, 0, 0, [], [], [], []⟩, ⟨true, 1, 2, 0, 1, [], [false, true, false], [], []⟩, ⟨true, 0, 0, 0, 0, [], [], [], []⟩], [⟨1, 1, 0, 1, 0, 0, 0, false, []⟩, ⟨1, 1, 2, 1, 0, 0, 0, false, []⟩], [], ((Cl.begin 3).event ⟨1, 1, []⟩).1.conflict⟩ := by kernel_rfl
theorem s1_1 (D : List Int) (cf : Bool) : ((⟨[⟨true, 0, 0, 0, 0, [], [], [], []⟩, ⟨true, 1, 2, 0, 1, [], [false, true, false], [], []⟩, ⟨true, 0, 0, 0, 0, [], [], [], []⟩], [⟨1, 1, 0, 1, 0, 0, 0, false, []⟩, ⟨1, 1, 2, 1, 0, 0, 0, false, []⟩], [], cf⟩ : Cl).event ⟨2, 0, []⟩).1 = ⟨[⟨true, 1, 2, 0, 0, [], [], [], []⟩, ⟨true, 1, 2, 0, 1, [], [false, true, false], [], []⟩, ⟨true, 0, 0, 0, 0, [], [], [], []⟩], [⟨1, 1, 2, 1, 0, 0, 0, false, []⟩, ⟨2, 0, 1, 1, 0, 0, 0, true, []⟩], [], ((⟨[⟨true, 0, 0, 0, 0, [], [], [], []⟩, ⟨true, 1, 2, 0, 1, [], [false, true, false], [], []⟩, ⟨true, 0, 0, 0, 0, [], [], [], []⟩], [⟨1, 1, 0, 1, 0, 0, 0, false, []⟩, ⟨1, 1, 2, 1, 0, 0, 0, false, []⟩], [], cf⟩ : Cl).event ⟨2, 0, []⟩).1.conflict⟩ := by kernel_rfl
theorem s1_2 (D : List Int) (cf : Bool) : ((⟨[⟨true, 1, 2, 0, 0, [], [], [], []⟩, ⟨true, 1, 2, 0, 1, [], [false, true, false], [], []⟩, ⟨true, 0, 0, 0, 0, [], [], [], []⟩], [⟨1, 1, 2, 1, 0, 0, 0, false, []⟩, ⟨2, 0, 1, 1, 0, 0, 0, true, []⟩], [], cf⟩ : Cl).event ⟨2, 0, []⟩).1 = ⟨[⟨true, 1, 2, 0, 0, [], [], [], []⟩, ⟨true, 1, 2, 0, 1, [], [false, true, false], [], []⟩, ⟨true, 1, 2, 0, 0, [], [], [], []⟩], [⟨2, 0, 1, 1, 0, 0, 0, true, []⟩, ⟨2, 2, 1, 1, 0, 0, 0, true, []⟩], [], ((⟨[⟨true, 1, 2, 0, 0, [], [], [], []⟩, ⟨true, 1, 2, 0, 1, [], [false, true, false], [], []⟩, ⟨true, 0, 0, 0, 0, [], [], [], []⟩], [⟨1, 1, 2, 1, 0, 0, 0, false, []⟩, ⟨2, 0, 1, 1, 0, 0, 0, true, []⟩], [], cf⟩ : Cl).event ⟨2, 0, []⟩).1.conflict⟩ := by kernel_rfl
theorem s1_3 (D : List Int) (cf : Bool) : ((⟨[⟨true, 1, 2, 0, 0, [], [], [], []⟩, ⟨true, 1, 2, 0, 1, [], [false, true, false], [], []⟩, ⟨true, 1, 2, 0, 0, [], [], [], []⟩], [⟨2, 0, 1, 1, 0, 0, 0, true, []⟩, ⟨2, 2, 1, 1, 0, 0, 0, true, []⟩], [], cf⟩ : Cl).event ⟨2, 0, []⟩).1 = ⟨[⟨true, 1, 2, 0, 0, [], [], [], []⟩, ⟨true, 1, 2, 0, 2, [], [], [1, 1, 1], [0, 0, 0]⟩, ⟨true, 1, 2, 0, 0, [], [], [], []⟩], [⟨2, 2, 1, 1, 0, 0, 0, true, []⟩, ⟨3, 1, 0, 1, 0, 0, 0, false, []⟩, ⟨3, 1, 2, 1, 0, 0, 0, false, []⟩], [], ((⟨[⟨true, 1, 2, 0, 0, [], [], [], []⟩, ⟨true, 1, 2, 0, 1, [], [false, true, false], [], []⟩, ⟨true, 1, 2, 0, 0, [], [], [], []⟩], [⟨2, 0, 1, 1, 0, 0, 0, true, []⟩, ⟨2, 2, 1, 1, 0, 0, 0, true, []⟩], [], cf⟩ : Cl).event ⟨2, 0, []⟩).1.conflict⟩ := by kernel_rfl
theorem s1_4 (D : List Int) (cf : Bool) : ((⟨[⟨true, 1, 2, 0, 0, [], [], [], []⟩, ⟨true, 1, 2, 0, 2, [], [], [1, 1, 1], [0, 0, 0]⟩, ⟨true, 1, 2, 0, 0, [], [], [], []⟩], [⟨2, 2, 1, 1, 0, 0, 0, true, []⟩, ⟨3, 1, 0, 1, 0, 0, 0, false, []⟩, ⟨3, 1, 2, 1, 0, 0, 0, false, []⟩], [], cf⟩ : Cl).event ⟨2, 0, []⟩).1 = ⟨[⟨true, 1, 2, 0, 0, [], [], [], []⟩, ⟨true, 1, 2, 0, 2, [], [], [1, 1, 1], [0, 0, 0]⟩, ⟨true, 1, 2, 0, 0, [], [], [], []⟩], [⟨3, 1, 0, 1, 0, 0, 0, false, []⟩, ⟨3, 1, 2, 1, 0, 0, 0, false, []⟩], [], ((⟨[⟨true, 1, 2, 0, 0, [], [], [], []⟩, ⟨true, 1, 2, 0, 2, [], [], [1, 1, 1], [0, 0, 0]⟩, ⟨true, 1, 2, 0, 0, [], [], [], []⟩], [⟨2, 2, 1, 1, 0, 0, 0, true, []⟩, ⟨3, 1, 0, 1, 0, 0, 0, false, []⟩, ⟨3, 1, 2, 1, 0, 0, 0, false, []⟩], [], cf⟩ : Cl).event ⟨2, 0, []⟩).1.conflict⟩ := by kernel_rfl
theorem s1_5 (D : List Int) (cf : Bool) : ((⟨[⟨true, 1, 2, 0, 0, [], [], [], []⟩, ⟨true, 1, 2, 0, 2, [], [], [1, 1, 1], [0, 0, 0]⟩, ⟨true, 1, 2, 0, 0, [], [], [], []⟩], [⟨3, 1, 0, 1, 0, 0, 0, false, []⟩, ⟨3, 1, 2, 1, 0, 0, 0, false, []⟩], [], cf⟩ : Cl).event ⟨2, 0, []⟩).1 = ⟨[⟨true, 1, 2, 0, 0, [], [], [], []⟩, ⟨true, 1, 2, 0, 2, [], [], [1, 1, 1], [0, 0, 0]⟩, ⟨true, 1, 2, 0, 0, [], [], [], []⟩], [⟨3, 1, 2, 1, 0, 0, 0, false, []⟩, ⟨4, 0, 1, 1, 0, 0, 0, true, []⟩], [], ((⟨[⟨true, 1, 2, 0, 0, [], [], [], []⟩, ⟨true, 1, 2, 0, 2, [], [], [1, 1, 1], [0, 0, 0]⟩, ⟨true, 1, 2, 0, 0, [], [], [], []⟩], [⟨3, 1, 0, 1, 0, 0, 0, false, []⟩, ⟨3, 1, 2, 1, 0, 0, 0, false, []⟩], [], cf⟩ : Cl).event ⟨2, 0, []⟩).1.conflict⟩ := by kernel_rfl
theorem s1_6 (D : List Int) (cf : Bool) : ((⟨[⟨true, 1, 2, 0, 0, [], [], [], []⟩, ⟨true, 1, 2, 0, 2, [], [], [1, 1, 1], [0, 0, 0]⟩, ⟨true, 1, 2, 0, 0, [], [], [], []⟩], [⟨3, 1, 2, 1, 0, 0, 0, false, []⟩, ⟨4, 0, 1, 1, 0, 0, 0, true, []⟩], [], cf⟩ : Cl).event ⟨2, 0, []⟩).1 = ⟨[⟨true, 1, 2, 0, 0, [], [], [], []⟩, ⟨true, 1, 2, 0, 2, [], [], [1, 1, 1], [0, 0, 0]⟩, ⟨true, 1, 2, 0, 0, [], [], [], []⟩], [⟨4, 0, 1, 1, 0, 0, 0, true, []⟩, ⟨4, 2, 1, 1, 0, 0, 0, true, []⟩], [], ((⟨[⟨true, 1, 2, 0, 0, [], [], [], []⟩, ⟨true, 1, 2, 0, 2, [], [], [1, 1, 1], [0, 0, 0]⟩, ⟨true, 1, 2, 0, 0, [], [], [], []⟩], [⟨3, 1, 2, 1, 0, 0, 0, false, []⟩, ⟨4, 0, 1, 1, 0, 0, 0, true, []⟩], [], cf⟩ : Cl).event ⟨2, 0, []⟩).1.conflict⟩ := by kernel_rfl
theorem s1_7 (D : List Int) (cf : Bool) : ((⟨[⟨true, 1, 2, 0, 0, [], [], [], []⟩, ⟨true, 1, 2, 0, 2, [], [], [1, 1, 1], [0, 0, 0]⟩, ⟨true, 1, 2, 0, 0, [], [], [], []⟩], [⟨4, 0, 1, 1, 0, 0, 0, true, []⟩, ⟨4, 2, 1, 1, 0, 0, 0, true, []⟩], [], cf⟩ : Cl).event ⟨2, 0, []⟩).1 = ⟨[⟨true, 1, 2, 0, 0, [], [], [], []⟩, ⟨true, 1, 2, 0, 2, [], [], [1, 1, 1], [0, 0, 0]⟩, ⟨true, 1, 2, 0, 0, [], [], [], []⟩], [⟨4, 2, 1, 1, 0, 0, 0, true, []⟩], [], ((⟨[⟨true, 1, 2, 0, 0, [], [], [], []⟩, ⟨true, 1, 2, 0, 2, [], [], [1, 1, 1], [0, 0, 0]⟩, ⟨true, 1, 2, 0, 0, [], [], [], []⟩], [⟨4, 0, 1, 1, 0, 0, 0, true, []⟩, ⟨4, 2, 1, 1, 0, 0, 0, true, []⟩], [], cf⟩ : Cl).event ⟨2, 0, []⟩).1.conflict⟩ := by kernel_rfl
theorem s1_8 (D : List Int) (cf : Bool) : ((⟨[⟨true, 1, 2, 0, 0, [], [], [], []⟩, ⟨true, 1, 2, 0, 2, [], [], [1, 1, 1], [0, 0, 0]⟩, ⟨true, 1, 2, 0, 0, [], [], [], []⟩], [⟨4, 2, 1, 1, 0, 0, 0, true, []⟩], [], cf⟩ : Cl).event ⟨2, 0, []⟩).1 = ⟨[⟨true, 1, 2, 0, 0, [], [], [], []⟩, ⟨true, 1, 2, 0, 2, [], [], [1, 1, 1], [0, 0, 0]⟩, ⟨true, 1, 2, 0, 0, [], [], [], []⟩], [], [], ((⟨[⟨true, 1, 2, 0, 0, [], [], [], []⟩, ⟨true, 1, 2, 0, 2, [], [], [1, 1, 1], [0, 0, 0]⟩, ⟨true, 1, 2, 0, 0, [], [], [], []⟩], [⟨4, 2, 1, 1, 0, 0, 0, true, []⟩], [], cf⟩ : Cl).event ⟨2, 0, []⟩).1.conflict⟩ := by kernel_rfl
theorem s1_9 (D : List Int) (hD : D.length ≤ 1000) (cf : Bool) : ((⟨[⟨true, 1, 2, 0, 0, [], [], [], []⟩, ⟨true, 1, 2, 0, 2, [], [], [1, 1, 1], [0, 0, 0]⟩, ⟨true, 1, 2, 0, 0, [], [], [], []⟩], [], [], cf⟩ : Cl).event ⟨7, 1, D⟩).1 = ⟨[⟨true, 1, 2, 0, 0, [], [], [], []⟩, ⟨true, 1, 2, 0, 2, [⟨1, 1, D⟩], [], [1, 1, 1], [0, 1, 0]⟩, ⟨true, 1, 2, 0, 0, [], [], [], []⟩], [], [], ((⟨[⟨true, 1, 2, 0, 0, [], [], [], []⟩, ⟨true, 1, 2, 0, 2, [], [], [1, 1, 1], [0, 0, 0]⟩, ⟨true, 1, 2, 0, 0, [], [], [], []⟩], [], [], cf⟩ : Cl).event ⟨7, 1, D⟩).1.conflict⟩ := by
  rw [show (⟨7, 1, D⟩ : Ev) = ⟨7, ((1 : Nat) : Int), D⟩ from rfl, ev7 _ 1 D (by show 1 < 3; decide) rfl rfl hD (by show (0 : Nat) ≠ 100; decide)]
  kernel_rfl
theorem s1_10 (D : List Int) (cf : Bool) : ((⟨[⟨true, 1, 2, 0, 0, [], [], [], []⟩, ⟨true, 1, 2, 0, 2, [⟨1, 1, D⟩], [], [1, 1, 1], [0, 1, 0]⟩, ⟨true, 1, 2, 0, 0, [], [], [], []⟩], [], [], cf⟩ : Cl).event ⟨1, 1, []⟩).1 = ⟨[⟨true, 1, 2, 0, 0, [], [], [], []⟩, ⟨true, 1, 2, 0, 2, [⟨1, 1, D⟩], [], [1, 1, 1], [0, 1, 0]⟩, ⟨true, 1, 2, 0, 0, [], [], [], []⟩], [⟨3, 1, 0, 1, 0, 0, 0, false, [⟨1, 1, D⟩]⟩, ⟨3, 1, 2, 1, 0, 0, 0, false, [⟨1, 1, D⟩]⟩], [], ((⟨[⟨true, 1, 2, 0, 0, [], [], [], []⟩, ⟨true, 1, 2, 0, 2, [⟨1, 1, D⟩], [], [1, 1, 1], [0, 1, 0]⟩, ⟨true, 1, 2, 0, 0, [], [], [], []⟩], [], [], cf⟩ : Cl).event ⟨1, 1, []⟩).1.conflict⟩ := by kernel_rfl
theorem s1_11 (D : List Int) (cf : Bool) : ((⟨[⟨true, 1, 2, 0, 0, [], [], [], []⟩, ⟨true, 1, 2, 0, 2, [⟨1, 1, D⟩], [], [1, 1, 1], [0, 1, 0]⟩, ⟨true, 1, 2, 0, 0, [], [], [], []⟩], [⟨3, 1, 0, 1, 0, 0, 0, false, [⟨1, 1, D⟩]⟩, ⟨3, 1, 2, 1, 0, 0, 0, false, [⟨1, 1, D⟩]⟩], [], cf⟩ : Cl).event ⟨2, 0, []⟩).1 = ⟨[⟨true, 1, 2, 0, 0, [⟨1, 1, D⟩], [], [], []⟩, ⟨true, 1, 2, 0, 2, [⟨1, 1, D⟩], [], [1, 1, 1], [0, 1, 0]⟩, ⟨true, 1, 2, 0, 0, [], [], [], []⟩], [⟨3, 1, 2, 1, 0, 0, 0, false, [⟨1, 1, D⟩]⟩, ⟨4, 0, 1, 1, 1, 0, 0, true, []⟩], [], ((⟨[⟨true, 1, 2, 0, 0, [], [], [], []⟩, ⟨true, 1, 2, 0, 2, [⟨1, 1, D⟩], [], [1, 1, 1], [0, 1, 0]⟩, ⟨true, 1, 2, 0, 0, [], [], [], []⟩], [⟨3, 1, 0, 1, 0, 0, 0, false, [⟨1, 1, D⟩]⟩, ⟨3, 1, 2, 1, 0, 0, 0, false, [⟨1, 1, D⟩]⟩], [], cf⟩ : Cl).event ⟨2, 0, []⟩).1.conflict⟩ := by kernel_rfl
theorem s1_12 (D : List Int) (cf : Bool) : ((⟨[⟨true, 1, 2, 0, 0, [⟨1, 1, D⟩], [], [], []⟩, ⟨true, 1, 2, 0, 2, [⟨1, 1, D⟩], [], [1, 1, 1], [0, 1, 0]⟩, ⟨true, 1, 2, 0, 0, [], [], [], []⟩], [⟨3, 1, 2, 1, 0, 0, 0, false, [⟨1, 1, D⟩]⟩, ⟨4, 0, 1, 1, 1, 0, 0, true, []⟩], [], cf⟩ : Cl).event ⟨2, 0, []⟩).1 = ⟨[⟨true, 1, 2, 0, 0, [⟨1, 1, D⟩], [], [], []⟩, ⟨true, 1, 2, 0, 2, [⟨1, 1, D⟩], [], [1, 1, 1], [0, 1, 0]⟩, ⟨true, 1, 2, 0, 0, [⟨1, 1, D⟩], [], [], []⟩], [⟨4, 0, 1, 1, 1, 0, 0, true, []⟩, ⟨4, 2, 1, 1, 1, 0, 0, true, []⟩], [], ((⟨[⟨true, 1, 2, 0, 0, [⟨1, 1, D⟩], [], [], []⟩, ⟨true, 1, 2, 0, 2, [⟨1, 1, D⟩], [], [1, 1, 1], [0, 1, 0]⟩, ⟨true, 1, 2, 0, 0, [], [], [], []⟩], [⟨3, 1, 2, 1, 0, 0, 0, false, [⟨1, 1, D⟩]⟩, ⟨4, 0, 1, 1, 1, 0, 0, true, []⟩], [], cf⟩ : Cl).event ⟨2, 0, []⟩).1.conflict⟩ := by kernel_rfl
theorem s1_13 (D : List Int) (cf : Bool) : ((⟨[⟨true, 1, 2, 0, 0, [⟨1, 1, D⟩], [], [], []⟩, ⟨true, 1, 2, 0, 2, [⟨1, 1, D⟩], [], [1, 1, 1], [0, 1, 0]⟩, ⟨true, 1, 2, 0, 0, [⟨1, 1, D⟩], [], [], []⟩], [⟨4, 0, 1, 1, 1, 0, 0, true, []⟩, ⟨4, 2, 1, 1, 1, 0, 0, true, []⟩], [], cf⟩ : Cl).event ⟨2, 0, []⟩).1 = ⟨[⟨true, 1, 2, 0, 0, [⟨1, 1, D⟩], [], [], []⟩, ⟨true, 1, 2, 1, 2, [⟨1, 1, D⟩], [], [2, 1, 1], [1, 1, 0]⟩, ⟨true, 1, 2, 0, 0, [⟨1, 1, D⟩], [], [], []⟩], [⟨4, 2, 1, 1, 1, 0, 0, true, []⟩], [⟨1, 1, D⟩], ((⟨[⟨true, 1, 2, 0, 0, [⟨1, 1, D⟩], [], [], []⟩, ⟨true, 1, 2, 0, 2, [⟨1, 1, D⟩], [], [1, 1, 1], [0, 1, 0]⟩, ⟨true, 1, 2, 0, 0, [⟨1, 1, D⟩], [], [], []⟩], [⟨4, 0, 1, 1, 1, 0, 0, true, []⟩, ⟨4, 2, 1, 1, 1, 0, 0, true, []⟩], [], cf⟩ : Cl).event ⟨2, 0, []⟩).1.conflict⟩ := by kernel_rfl
theorem s1_14 (D : List Int) (cf : Bool) : ((⟨[⟨true, 1, 2, 0, 0, [⟨1, 1, D⟩], [], [], []⟩, ⟨true, 1, 2, 1, 2, [⟨1, 1, D⟩], [], [2, 1, 1], [1, 1, 0]⟩, ⟨true, 1, 2, 0, 0, [⟨1, 1, D⟩], [], [], []⟩], [⟨4, 2, 1, 1, 1, 0, 0, true, []⟩], [⟨1, 1, D⟩], cf⟩ : Cl).event ⟨2, 0, []⟩).1 = ⟨[⟨true, 1, 2, 0, 0, [⟨1, 1, D⟩], [], [], []⟩, ⟨true, 1, 2, 1, 2, [⟨1, 1, D⟩], [], [2, 1, 2], [1, 1, 1]⟩, ⟨true, 1, 2, 0, 0, [⟨1, 1, D⟩], [], [], []⟩], [], [⟨1, 1, D⟩], ((⟨[⟨true, 1, 2, 0, 0, [⟨1, 1, D⟩], [], [], []⟩, ⟨true, 1, 2, 1, 2, [⟨1, 1, D⟩], [], [2, 1, 1], [1, 1, 0]⟩, ⟨true, 1, 2, 0, 0, [⟨1, 1, D⟩], [], [], []⟩], [⟨4, 2, 1, 1, 1, 0, 0, true, []⟩], [⟨1, 1, D⟩], cf⟩ : Cl).event ⟨2, 0, []⟩).1.conflict⟩ := by kernel_rfl
theorem lives1 (D : List Int) (hD : D.length ≤ 1000) : ((Cl.begin 3).run (evsOf 1 D)).1.chosen = [⟨1, 1, D⟩] := by
  have e : evsOf 1 D = ⟨1, 1, []⟩ :: ([⟨2, 0, []⟩, ⟨2, 0, []⟩, ⟨2, 0, []⟩, ⟨2, 0, []⟩, ⟨2, 0, []⟩, ⟨2, 0, []⟩, ⟨2, 0, []⟩, ⟨2, 0, []⟩] ++ (List.replicate 22 ⟨2, 0, []⟩ ++ (⟨7, 1, D⟩ :: ⟨1, 1, []⟩ :: ([⟨2, 0, []⟩, ⟨2, 0, []⟩, ⟨2, 0, []⟩, ⟨2, 0, []⟩] ++ (List.replicate 26 ⟨2, 0, []⟩ ++ []))))) := rfl
  rw [e]
  rw [run_of (s1_0 D false)]
  generalize Cl.conflict _ = cf0
  rw [List.cons_append]
  rw [run_of (s1_1 D cf0)]
  generalize Cl.conflict _ = cf1
  rw [List.cons_append]
  rw [run_of (s1_2 D cf1)]
  generalize Cl.conflict _ = cf2
  rw [List.cons_append]
  rw [run_of (s1_3 D cf2)]
  generalize Cl.conflict _ = cf3
  rw [List.cons_append]
  rw [run_of (s1_4 D cf3)]
  generalize Cl.conflict _ = cf4
  rw [List.cons_append]
  rw [run_of (s1_5 D cf4)]
  generalize Cl.conflict _ = cf5
  rw [List.cons_append]
  rw [run_of (s1_6 D cf5)]
  generalize Cl.conflict _ = cf6
  rw [List.cons_append]
  rw [run_of (s1_7 D cf6)]
  generalize Cl.conflict _ = cf7
  rw [List.cons_append]
  rw [run_of (s1_8 D cf7)]
  generalize Cl.conflict _ = cf8
  rw [List.nil_append, idle _ rfl]
  rw [run_of (s1_9 D hD cf8)]
  generalize Cl.conflict _ = cf9
  rw [run_of (s1_10 D cf9)]
  generalize Cl.conflict _ = cf10
  rw [List.cons_append]
  rw [run_of (s1_11 D cf10)]
  generalize Cl.conflict _ = cf11
  rw [List.cons_append]
  rw [run_of (s1_12 D cf11)]
  generalize Cl.conflict _ = cf12
  rw [List.cons_append]
  rw [run_of (s1_13 D cf12)]
  generalize Cl.conflict _ = cf13
  rw [List.cons_append]
  rw [run_of (s1_14 D cf13)]
  generalize Cl.conflict _ = cf14
  rw [List.nil_append, idle _ rfl]
  rfl
theorem s2_0 (D : List Int) (cf : Bool) : ((Cl.begin 3).event ⟨1, 2, []⟩).1 = ⟨[⟨true, 0, 0, 0, 0, [], [], [], []⟩, ⟨true, 0, 0, 0, 0, [], [], [], []⟩, ⟨true, 1, 3, 0, 1, [], [false, false, true], [], []⟩], [⟨1, 2, 0, 1, 0, 0, 0, false, []⟩, ⟨1, 2, 1, 1, 0, 0, 0, false, []⟩], [], ((Cl.begin 3).event ⟨1, 2, []⟩).1.conflict⟩ := by kernel_rfl
theorem s2_1 (D : List Int) (cf : Bool) : ((⟨[⟨true, 0, 0, 0, 0, [], [], [], []⟩, ⟨true, 0, 0, 0, 0, [], [], [], []⟩, ⟨true, 1, 3, 0, 1, [], [false, false, true], [], []⟩], [⟨1, 2, 0, 1, 0, 0, 0, false, []⟩, ⟨1, 2, 1, 1, 0, 0, 0, false, []⟩], [], cf⟩ : Cl).event ⟨2, 0, []⟩).1 = ⟨[⟨true, 1, 3, 0, 0, [], [], [], []⟩, ⟨true, 0, 0, 0, 0, [], [], [], []⟩, ⟨true, 1, 3, 0, 1, [], [false, false, true], [], []⟩], [⟨1, 2, 1, 1, 0, 0, 0, false, []⟩, ⟨2, 0, 2, 1, 0, 0, 0, true, []⟩], [], ((⟨[⟨true, 0, 0, 0, 0, [], [], [], []⟩, ⟨true, 0, 0, 0, 0, [], [], [], []⟩, ⟨true, 1, 3, 0, 1, [], [false, false, true], [], []⟩], [⟨1, 2, 0, 1, 0, 0, 0, false, []⟩, ⟨1, 2, 1, 1, 0, 0, 0, false, []⟩], [], cf⟩ : Cl).event ⟨2, 0, []⟩).1.conflict⟩ := by kernel_rfl
theorem s2_2 (D : List Int) (cf : Bool) : ((⟨[⟨true, 1, 3, 0, 0, [], [], [], []⟩, ⟨true, 0, 0, 0, 0, [], [], [], []⟩, ⟨true, 1, 3, 0, 1, [], [false, false, true], [], []⟩], [⟨1, 2, 1, 1, 0, 0, 0, false, []⟩, ⟨2, 0, 2, 1, 0, 0, 0, true, []⟩], [], cf⟩ : Cl).event ⟨2, 0, []⟩).1 = ⟨[⟨true, 1, 3, 0, 0, [], [], [], []⟩, ⟨true, 1, 3, 0, 0, [], [], [], []⟩, ⟨true, 1, 3, 0, 1, [], [false, false, true], [], []⟩], [⟨2, 0, 2, 1, 0, 0, 0, true, []⟩, ⟨2, 1, 2, 1, 0, 0, 0, true, []⟩], [], ((⟨[⟨true, 1, 3, 0, 0, [], [], [], []⟩, ⟨true, 0, 0, 0, 0, [], [], [], []⟩, ⟨true, 1, 3, 0, 1, [], [false, false, true], [], []⟩], [⟨1, 2, 1, 1, 0, 0, 0, false, []⟩, ⟨2, 0, 2, 1, 0, 0, 0, true, []⟩], [], cf⟩ : Cl).event ⟨2, 0, []⟩).1.conflict⟩ := by kernel_rfl
theorem s2_3 (D : List Int) (cf : Bool) : ((⟨[⟨true, 1, 3, 0, 0, [], [], [], []⟩, ⟨true, 1, 3, 0, 0, [], [], [], []⟩, ⟨true, 1, 3, 0, 1, [], [false, false, true], [], []⟩], [⟨2, 0, 2, 1, 0, 0, 0, true, []⟩, ⟨2, 1, 2, 1, 0, 0, 0, true, []⟩], [], cf⟩ : Cl).event ⟨2, 0, []⟩).1 = ⟨[⟨true, 1, 3, 0, 0, [], [], [], []⟩, ⟨true, 1, 3, 0, 0, [], [], [], []⟩, ⟨true, 1, 3, 0, 2, [], [], [1, 1, 1], [0, 0, 0]⟩], [⟨2, 1, 2, 1, 0, 0, 0, true, []⟩, ⟨3, 2, 0, 1, 0, 0, 0, false, []⟩, ⟨3, 2, 1, 1, 0, 0, 0, false, []⟩], [], ((⟨[⟨true, 1, 3, 0, 0, [], [], [], []⟩, ⟨true, 1, 3, 0, 0, [], [], [], []⟩, ⟨true, 1, 3, 0, 1, [], [false, false, true], [], []⟩], [⟨2, 0, 2, 1, 0, 0, 0, true, []⟩, ⟨2, 1, 2, 1, 0, 0, 0, true, []⟩], [], cf⟩ : Cl).event ⟨2, 0, []⟩).1.conflict⟩ := by kernel_rfl
theorem s2_4 (D : List Int) (cf : Bool) : ((⟨[⟨true, 1, 3, 0, 0, [], [], [], []⟩, ⟨true, 1, 3, 0, 0, [], [], [], []⟩, ⟨true, 1, 3, 0, 2, [], [], [1, 1, 1], [0, 0, 0]⟩], [⟨2, 1, 2, 1, 0, 0, 0, true, []⟩, ⟨3, 2, 0, 1, 0, 0, 0, false, []⟩, ⟨3, 2, 1, 1, 0, 0, 0, false, []⟩], [], cf⟩ : Cl).event ⟨2, 0, []⟩).1 = ⟨[⟨true, 1, 3, 0, 0, [], [], [], []⟩, ⟨true, 1, 3, 0, 0, [], [], [], []⟩, ⟨true, 1, 3, 0, 2, [], [], [1, 1, 1], [0, 0, 0]⟩], [⟨3, 2, 0, 1, 0, 0, 0, false, []⟩, ⟨3, 2, 1, 1, 0, 0, 0, false, []⟩], [], ((⟨[⟨true, 1, 3, 0, 0, [], [], [], []⟩, ⟨true, 1, 3, 0, 0, [], [], [], []⟩, ⟨true, 1, 3, 0, 2, [], [], [1, 1, 1], [0, 0, 0]⟩], [⟨2, 1, 2, 1, 0, 0, 0, true, []⟩, ⟨3, 2, 0, 1, 0, 0, 0, false, []⟩, ⟨3, 2, 1, 1, 0, 0, 0, false, []⟩], [], cf⟩ : Cl).event ⟨2, 0, []⟩).1.conflict⟩ := by kernel_rfl
theorem s2_5 (D : List Int) (cf : Bool) : ((⟨[⟨true, 1, 3, 0, 0, [], [], [], []⟩, ⟨true, 1, 3, 0, 0, [], [], [], []⟩, ⟨true, 1, 3, 0, 2, [], [], [1, 1, 1], [0, 0, 0]⟩], [⟨3, 2, 0, 1, 0, 0, 0, false, []⟩, ⟨3, 2, 1, 1, 0, 0, 0, false, []⟩], [], cf⟩ : Cl).event ⟨2, 0, []⟩).1 = ⟨[⟨true, 1, 3, 0, 0, [], [], [], []⟩, ⟨true, 1, 3, 0, 0, [], [], [], []⟩, ⟨true, 1, 3, 0, 2, [], [], [1, 1, 1], [0, 0, 0]⟩], [⟨3, 2, 1, 1, 0, 0, 0, false, []⟩, ⟨4, 0, 2, 1, 0, 0, 0, true, []⟩], [], ((⟨[⟨true, 1, 3, 0, 0, [], [], [], []⟩, ⟨true, 1, 3, 0, 0, [], [], [], []⟩, ⟨true, 1, 3, 0, 2, [], [], [1, 1, 1], [0, 0, 0]⟩], [⟨3, 2, 0, 1, 0, 0, 0, false, []⟩, ⟨3, 2, 1, 1, 0, 0, 0, false, []⟩], [], cf⟩ : Cl).event ⟨2, 0, []⟩).1.conflict⟩ := by kernel_rfl
theorem s2_6 (D : List Int) (cf : Bool) : ((⟨[⟨true, 1, 3, 0, 0, [], [], [], []⟩, ⟨true, 1, 3, 0, 0, [], [], [], []⟩, ⟨true, 1, 3, 0, 2, [], [], [1, 1, 1], [0, 0, 0]⟩], [⟨3, 2, 1, 1, 0, 0, 0, false, []⟩, ⟨4, 0, 2, 1, 0, 0, 0, true, []⟩], [], cf⟩ : Cl).event ⟨2, 0, []⟩).1 = ⟨[⟨true, 1, 3, 0, 0, [], [], [], []⟩, ⟨true, 1, 3, 0, 0, [], [], [], []⟩, ⟨true, 1, 3, 0, 2, [], [], [1, 1, 1], [0, 0, 0]⟩], [⟨4, 0, 2, 1, 0, 0, 0, true, []⟩, ⟨4, 1, 2, 1, 0, 0, 0, true, []⟩], [], ((⟨[⟨true, 1, 3, 0, 0, [], [], [], []⟩, ⟨true, 1, 3, 0, 0, [], [], [], []⟩, ⟨true, 1, 3, 0, 2, [], [], [1, 1, 1], [0, 0, 0]⟩], [⟨3, 2, 1, 1, 0, 0, 0, false, []⟩, ⟨4, 0, 2, 1, 0, 0, 0, true, []⟩], [], cf⟩ : Cl).event ⟨2, 0, []⟩).1.conflict⟩ := by kernel_rfl
theorem s2_7 (D : List Int) (cf : Bool) : ((⟨[⟨true, 1, 3, 0, 0, [], [], [], []⟩, ⟨true, 1, 3, 0, 0, [], [], [], []⟩, ⟨true, 1, 3, 0, 2, [], [], [1, 1, 1], [0, 0, 0]⟩], [⟨4, 0, 2, 1, 0, 0, 0, true, []⟩, ⟨4, 1, 2, 1, 0, 0, 0, true, []⟩], [], cf⟩ : Cl).event ⟨2, 0, []⟩).1 = ⟨[⟨true, 1, 3, 0, 0, [], [], [], []⟩, ⟨true, 1, 3, 0, 0, [], [], [], []⟩, ⟨true, 1, 3, 0, 2, [], [], [1, 1, 1], [0, 0, 0]⟩], [⟨4, 1, 2, 1, 0, 0, 0, true, []⟩], [], ((⟨[⟨true, 1, 3, 0, 0, [], [], [], []⟩, ⟨true, 1, 3, 0, 0, [], [], [], []⟩, ⟨true, 1, 3, 0, 2, [], [], [1, 1, 1], [0, 0, 0]⟩], [⟨4, 0, 2, 1, 0, 0, 0, true, []⟩, ⟨4, 1, 2, 1, 0, 0, 0, true, []⟩], [], cf⟩ : Cl).event ⟨2, 0, []⟩).1.conflict⟩ := by kernel_rfl
theorem s2_8 (D : List Int) (cf : Bool) : ((⟨[⟨true, 1, 3, 0, 0, [], [], [], []⟩, ⟨true, 1, 3, 0, 0, [], [], [], []⟩, ⟨true, 1, 3, 0, 2, [], [], [1, 1, 1], [0, 0, 0]⟩], [⟨4, 1, 2, 1, 0, 0, 0, true, []⟩], [], cf⟩ : Cl).event ⟨2, 0, []⟩).1 = ⟨[⟨true, 1, 3, 0, 0, [], [], [], []⟩, ⟨true, 1, 3, 0, 0, [], [], [], []⟩, ⟨true, 1, 3, 0, 2, [], [], [1, 1, 1], [0, 0, 0]⟩], [], [], ((⟨[⟨true, 1, 3, 0, 0, [], [], [], []⟩, ⟨true, 1, 3, 0, 0, [], [], [], []⟩, ⟨true, 1, 3, 0, 2, [], [], [1, 1, 1], [0, 0, 0]⟩], [⟨4, 1, 2, 1, 0, 0, 0, true, []⟩], [], cf⟩ : Cl).event ⟨2, 0, []⟩).1.conflict⟩ := by kernel_rfl
theorem s2_9 (D : List Int) (hD : D.length ≤ 1000) (cf : Bool) : ((⟨[⟨true, 1, 3, 0, 0, [], [], [], []⟩, ⟨true, 1, 3, 0, 0, [], [], [], []⟩, ⟨true, 1, 3, 0, 2, [], [], [1, 1, 1], [0, 0, 0]⟩], [], [], cf⟩ : Cl).event ⟨7, 2, D⟩).1 = ⟨[⟨true, 1, 3, 0, 0, [], [], [], []⟩, ⟨true, 1, 3, 0, 0, [], [], [], []⟩, ⟨true, 1, 3, 0, 2, [⟨1, 1, D⟩], [], [1, 1, 1], [0, 0, 1]⟩], [], [], ((⟨[⟨true, 1, 3, 0, 0, [], [], [], []⟩, ⟨true, 1, 3, 0, 0, [], [], [], []⟩, ⟨true, 1, 3, 0, 2, [], [], [1, 1, 1], [0, 0, 0]⟩], [], [], cf⟩ : Cl).event ⟨7, 2, D⟩).1.conflict⟩ := by
  rw [show (⟨7, 2, D⟩ : Ev) = ⟨7, ((2 : Nat) : Int), D⟩ from rfl, ev7 _ 2 D (by show 2 < 3; decide) rfl rfl hD (by show (0 : Nat) ≠ 100; decide)]
  kernel_rfl
theorem s2_10 (D : List Int) (cf : Bool) : ((⟨[⟨true, 1, 3, 0, 0, [], [], [], []⟩, ⟨true, 1, 3, 0, 0, [], [], [], []⟩, ⟨true, 1, 3, 0, 2, [⟨1, 1, D⟩], [], [1, 1, 1], [0, 0, 1]⟩], [], [], cf⟩ : Cl).event ⟨1, 2, []⟩).1 = ⟨[⟨true, 1, 3, 0, 0, [], [], [], []⟩, ⟨true, 1, 3, 0, 0, [], [], [], []⟩, ⟨true, 1, 3, 0, 2, [⟨1, 1, D⟩], [], [1, 1, 1], [0, 0, 1]⟩], [⟨3, 2, 0, 1, 0, 0, 0, false, [⟨1, 1, D⟩]⟩, ⟨3, 2, 1, 1, 0, 0, 0, false, [⟨1, 1, D⟩]⟩], [], ((⟨[⟨true, 1, 3, 0, 0, [], [], [], []⟩, ⟨true, 1, 3, 0, 0, [], [], [], []⟩, ⟨true, 1, 3, 0, 2, [⟨1, 1, D⟩], [], [1, 1, 1], [0, 0, 1]⟩], [], [], cf⟩ : Cl).event ⟨1, 2, []⟩).1.conflict⟩ := by kernel_rfl
theorem s2_11 (D : List Int) (cf : Bool) : ((⟨[⟨true, 1, 3, 0, 0, [], [], [], []⟩, ⟨true, 1, 3, 0, 0, [], [], [], []⟩, ⟨true, 1, 3, 0, 2, [⟨1, 1, D⟩], [], [1, 1, 1], [0, 0, 1]⟩], [⟨3, 2, 0, 1, 0, 0, 0, false, [⟨1, 1, D⟩]⟩, ⟨3, 2, 1, 1, 0, 0, 0, false, [⟨1, 1, D⟩]⟩], [], cf⟩ : Cl).event ⟨2, 0, []⟩).1 = ⟨[⟨true, 1, 3, 0, 0, [⟨1, 1, D⟩], [], [], []⟩, ⟨true, 1, 3, 0, 0, [], [], [], []⟩, ⟨true, 1, 3, 0, 2, [⟨1, 1, D⟩], [], [1, 1, 1], [0, 0, 1]⟩], [⟨3, 2, 1, 1, 0, 0, 0, false, [⟨1, 1, D⟩]⟩, ⟨4, 0, 2, 1, 1, 0, 0, true, []⟩], [], ((⟨[⟨true, 1, 3, 0, 0, [], [], [], []⟩, ⟨true, 1, 3, 0, 0, [], [], [], []⟩, ⟨true, 1, 3, 0, 2, [⟨1, 1, D⟩], [], [1, 1, 1], [0, 0, 1]⟩], [⟨3, 2, 0, 1, 0, 0, 0, false, [⟨1, 1, D⟩]⟩, ⟨3, 2, 1, 1, 0, 0, 0, false, [⟨1, 1, D⟩]⟩], [], cf⟩ : Cl).event ⟨2, 0, []⟩).1.conflict⟩ := by kernel_rfl
theorem s2_12 (D : List Int) (cf : Bool) : ((⟨[⟨true, 1, 3, 0, 0, [⟨1, 1, D⟩], [], [], []⟩, ⟨true, 1, 3, 0, 0, [], [], [], []⟩, ⟨true, 1, 3, 0, 2, [⟨1, 1, D⟩], [], [1, 1, 1], [0, 0, 1]⟩], [⟨3, 2, 1, 1, 0, 0, 0, false, [⟨1, 1, D⟩]⟩, ⟨4, 0, 2, 1, 1, 0, 0, true, []⟩], [], cf⟩ : Cl).event ⟨2, 0, []⟩).1 = ⟨[⟨true, 1, 3, 0, 0, [⟨1, 1, D⟩], [], [], []⟩, ⟨true, 1, 3, 0, 0, [⟨1, 1, D⟩], [], [], []⟩, ⟨true, 1, 3, 0, 2, [⟨1, 1, D⟩], [], [1, 1, 1], [0, 0, 1]⟩], [⟨4, 0, 2, 1, 1, 0, 0, true, []⟩, ⟨4, 1, 2, 1, 1, 0, 0, true, []⟩], [], ((⟨[⟨true, 1, 3, 0, 0, [⟨1, 1, D⟩], [], [], []⟩, ⟨true, 1, 3, 0, 0, [], [], [], []⟩, ⟨true, 1, 3, 0, 2, [⟨1, 1, D⟩], [], [1, 1, 1], [0, 0, 1]⟩], [⟨3, 2, 1, 1, 0, 0, 0, false, [⟨1, 1, D⟩]⟩, ⟨4, 0, 2, 1, 1, 0, 0, true, []⟩], [], cf⟩ : Cl).event ⟨2, 0, []⟩).1.conflict⟩ := by kernel_rfl
theorem s2_13 (D : List Int) (cf : Bool) : ((⟨[⟨true, 1, 3, 0, 0, [⟨1, 1, D⟩], [], [], []⟩, ⟨true, 1, 3, 0, 0, [⟨1, 1, D⟩], [], [], []⟩, ⟨true, 1, 3, 0, 2, [⟨1, 1, D⟩], [], [1, 1, 1], [0, 0, 1]⟩], [⟨4, 0, 2, 1, 1, 0, 0, true, []⟩, ⟨4, 1, 2, 1, 1, 0, 0, true, []⟩], [], cf⟩ : Cl).event ⟨2, 0, []⟩).1 = ⟨[⟨true, 1, 3, 0, 0, [⟨1, 1, D⟩], [], [], []⟩, ⟨true, 1, 3, 0, 0, [⟨1, 1, D⟩], [], [], []⟩, ⟨true, 1, 3, 1, 2, [⟨1, 1, D⟩], [], [2, 1, 1], [1, 0, 1]⟩], [⟨4, 1, 2, 1, 1, 0, 0, true, []⟩], [⟨1, 1, D⟩], ((⟨[⟨true, 1, 3, 0, 0, [⟨1, 1, D⟩], [], [], []⟩, ⟨true, 1, 3, 0, 0, [⟨1, 1, D⟩], [], [], []⟩, ⟨true, 1, 3, 0, 2, [⟨1, 1, D⟩], [], [1, 1, 1], [0, 0, 1]⟩], [⟨4, 0, 2, 1, 1, 0, 0, true, []⟩, ⟨4, 1, 2, 1, 1, 0, 0, true, []⟩], [], cf⟩ : Cl).event ⟨2, 0, []⟩).1.conflict⟩ := by kernel_rfl
theorem s2_14 (D : List Int) (cf : Bool) : ((⟨[⟨true, 1, 3, 0, 0, [⟨1, 1, D⟩], [], [], []⟩, ⟨true, 1, 3, 0, 0, [⟨1, 1, D⟩], [], [], []⟩, ⟨true, 1, 3, 1, 2, [⟨1, 1, D⟩], [], [2, 1, 1], [1, 0, 1]⟩], [⟨4, 1, 2, 1, 1, 0, 0, true, []⟩], [⟨1, 1, D⟩], cf⟩ : Cl).event ⟨2, 0, []⟩).1 = ⟨[⟨true, 1, 3, 0, 0, [⟨1, 1, D⟩], [], [], []⟩, ⟨true, 1, 3, 0, 0, [⟨1, 1, D⟩], [], [], []⟩, ⟨true, 1, 3, 1, 2, [⟨1, 1, D⟩], [], [2, 2, 1], [1, 1, 1]⟩], [], [⟨1, 1, D⟩], ((⟨[⟨true, 1, 3, 0, 0, [⟨1, 1, D⟩], [], [], []⟩, ⟨true, 1, 3, 0, 0, [⟨1, 1, D⟩], [], [], []⟩, ⟨true, 1, 3, 1, 2, [⟨1, 1, D⟩], [], [2, 1, 1], [1, 0, 1]⟩], [⟨4, 1, 2, 1, 1, 0, 0, true, []⟩], [⟨1, 1, D⟩], cf⟩ : Cl).event ⟨2, 0, []⟩).1.conflict⟩ := by kernel_rfl
theorem lives2 (D : List Int) (hD : D.length ≤ 1000) : ((Cl.begin 3).run (evsOf 2 D)).1.chosen = [⟨1, 1, D⟩] := by
  have e : evsOf 2 D = ⟨1, 2, []⟩ :: ([⟨2, 0, []⟩, ⟨2, 0, []⟩, ⟨2, 0, []⟩, ⟨2, 0, []⟩, ⟨2, 0, []⟩, ⟨2, 0, []⟩, ⟨2, 0, []⟩, ⟨2, 0, []⟩] ++ (List.replicate 22 ⟨2, 0, []⟩ ++ (⟨7, 2, D⟩ :: ⟨1, 2, []⟩ :: ([⟨2, 0, []⟩, ⟨2, 0, []⟩, ⟨2, 0, []⟩, ⟨2, 0, []⟩] ++ (List.replicate 26 ⟨2, 0, []⟩ ++ []))))) := rfl
  rw [e]
  rw [run_of (s2_0 D false)]
  generalize Cl.conflict _ = cf0
  rw [List.cons_append]
  rw [run_of (s2_1 D cf0)]
  generalize Cl.conflict _ = cf1
  rw [List.cons_append]
  rw [run_of (s2_2 D cf1)]
  generalize Cl.conflict _ = cf2
  rw [List.cons_append]
  rw [run_of (s2_3 D cf2)]
  generalize Cl.conflict _ = cf3
  rw [List.cons_append]
  rw [run_of (s2_4 D cf3)]
  generalize Cl.conflict _ = cf4
  rw [List.cons_append]
  rw [run_of (s2_5 D cf4)]
  generalize Cl.conflict _ = cf5
  rw [List.cons_append]
  rw [run_of (s2_6 D cf5)]
  generalize Cl.conflict _ = cf6
  rw [List.cons_append]
  rw [run_of (s2_7 D cf6)]
  generalize Cl.conflict _ = cf7
  rw [List.cons_append]
  rw [run_of (s2_8 D cf7)]
  generalize Cl.conflict _ = cf8
  rw [List.nil_append, idle _ rfl]
  rw [run_of (s2_9 D hD cf8)]
  generalize Cl.conflict _ = cf9
  rw [run_of (s2_10 D cf9)]
  generalize Cl.conflict _ = cf10
  rw [List.cons_append]
  rw [run_of (s2_11 D cf10)]
  generalize Cl.conflict _ = cf11
  rw [List.cons_append]
  rw [run_of (s2_12 D cf11)]
  generalize Cl.conflict _ = cf12
  rw [List.cons_append]
  rw [run_of (s2_13 D cf12)]
  generalize Cl.conflict _ = cf13
  rw [List.cons_append]
  rw [run_of (s2_14 D cf13)]
  generalize Cl.conflict _ = cf14
  rw [List.nil_append, idle _ rfl]
  rfl
end Go.Proofs.Ytkbabkdnmfdakaa.Raft
