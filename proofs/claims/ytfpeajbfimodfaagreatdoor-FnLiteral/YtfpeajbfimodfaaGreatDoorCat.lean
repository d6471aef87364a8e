/- The way of letters one behind the other is made. -/
import Derived.Test.YtfpeajbfimodfaaGreatDoorBack
import Derived.Test.YtfpeajbfimodfaaGreatDoorCi
import Derived.Laws.EntriesVeiled
namespace Go.Proofs.YtfpeajbfimodfaaGreatDoor.cat
open Go.ChangeShapes Go.WideShapes Go.ChangeAt Go.RowKit Go.Shelf
open Go.Proofs.YtfpeajbfimodfaaGreatDoor.bytes Go.Proofs.YtfpeajbfimodfaaGreatDoor.letters Go.Proofs.YtfpeajbfimodfaaGreatDoor.read Go.Proofs.YtfpeajbfimodfaaGreatDoor.places Go.Proofs.YtfpeajbfimodfaaGreatDoor.sets Go.Proofs.YtfpeajbfimodfaaGreatDoor.leaf Go.Proofs.YtfpeajbfimodfaaGreatDoor.made Go.Proofs.YtfpeajbfimodfaaGreatDoor.tz Go.Proofs.YtfpeajbfimodfaaGreatDoor.net Go.Proofs.YtfpeajbfimodfaaGreatDoor.back Go.Proofs.YtfpeajbfimodfaaGreatDoor.ci
attribute [local go_sem] Oper.semAt_some
set_option linter.unusedVariables false

theorem info49 : (Tryz.prog.info? 49).map (fun i => (i.zero, i.size, i.bytes)) = some (some .nilFunc, 1, 8) := by kernel_rfl
theorem make121 (M : Nat) (hM : M ≤ 1000) (W : World) : (Instr.makeSlice 121 (.int .i64 (M : Int)) (.int .i64 (M : Int))).run Tryz.prog W = .ok (.slice (some ⟨W.heap.size, 0, none⟩) M M) (W.alloc (.cells (madeCells #[.nilFunc] (M * 1)) 49)) := by
  obtain ⟨i0, hi, hz0, hz1, hz2⟩ := info_parts info49
  have h := run_make (P := Tryz.prog) W 121 49 i0 _ Tryz.underlying121 hi hz0 .i64 .i64 M M (by omega) (Int.le_refl _) (by rw [hz2]; omega) (by omega)
  rw [hz1, Int.toNat_natCast] at h
  exact h
/-- Ahead of the first round. -/
theorem cat_start (w : World) (ts ys : List Int) (kR : Nat) (tb fb rb : Nat → Nat) (n : Nat) (hn : n = ys.length) (A : Array Value) (hAz : A.size = n + 1) (W0 : World)
    (hW0 : W0 = ((((((w.alloc (.cells #[.slice (some ⟨kR, 0, none⟩) n n] 109)).alloc (.cells #[.string (strOfNums ts)] 9)).alloc (.cells #[.nilFunc, .nilFunc] 52)).alloc (.cells (A.setIfInBounds n (.func (.func 56) #[] #[])) 49)).alloc (.cells #[.slice (some ⟨w.heap.size + 1 + 1 + 1, 0, none⟩) (n + 1) (n + 1)] 121)).alloc (.cells #[.slice (some ⟨kR, 0, none⟩) n n] 109))) :
    CI w (w.heap.size + 6) w.heap.size (w.heap.size + 1) (w.heap.size + 1 + 1) (w.heap.size + 1 + 1 + 1) (w.heap.size + 1 + 1 + 1 + 1) kR n ts ys tb fb rb [] W0 ∧ W0.heap.size = w.heap.size + 6 ∧ C1 W0 (w.heap.size + 1 + 1 + 1 + 1 + 1) (.slice (some ⟨kR, 0, none⟩) n n) 109 := by
  have hz : W0.heap.size = w.heap.size + 6 := by rw [hW0]; simp
  have a1 : ∀ (V : World) (o : Obj) (m : Nat), V.heap.size = m → (V.alloc o).heap[m]? = some o := fun V o m h => by subst h; exact heap_alloc_new V o
  refine ⟨⟨?_, ?_, ?_, ?_, ?_, by omega, A.setIfInBounds n (.func (.func 56) #[] #[]), by simp [hAz], ?_, fun _ => ⟨fun _ => 0, fun _ => 0, fun j h1 h2 => ?_, fun k h1 h2 => ?_, fun i j h1 h2 h3 => ?_, fun k h1 h2 => ?_⟩⟩, hz, ?_⟩
  · rw [hW0]
    exact ((((((Below.refl w.heap.size w).alloc (Nat.le_refl _) _).alloc (by simp) _).alloc (by simp; omega) _).alloc (by simp; omega) _).alloc (by simp; omega) _).alloc (by simp; omega) _
  · rw [hW0]
    unfold C1
    rw [Below.heap_alloc _ _ _ (by simp; omega), Below.heap_alloc _ _ _ (by simp; omega), Below.heap_alloc _ _ _ (by simp; omega), Below.heap_alloc _ _ _ (by simp; omega), Below.heap_alloc _ _ _ (by simp)]
    exact a1 _ _ _ rfl
  · rw [hW0]
    unfold C1
    rw [Below.heap_alloc _ _ _ (by simp), Below.heap_alloc _ _ _ (by simp), Below.heap_alloc _ _ _ (by simp), Below.heap_alloc _ _ _ (by simp)]
    exact a1 _ _ _ (by simp)
  · rw [hW0]
    rw [Below.heap_alloc _ _ _ (by simp), Below.heap_alloc _ _ _ (by simp), Below.heap_alloc _ _ _ (by simp)]
    exact a1 _ _ _ (by simp)
  · rw [hW0]
    unfold C1
    rw [Below.heap_alloc _ _ _ (by simp)]
    exact a1 _ _ _ (by simp)
  · rw [hW0]
    rw [Below.heap_alloc _ _ _ (by simp), Below.heap_alloc _ _ _ (by simp)]
    exact a1 _ _ _ (by simp)
  · simp at h1
    obtain rfl : j = n := by omega
    rw [Array.getElem?_setIfInBounds]
    simp only [if_true]
    rw [if_pos (by omega)]
    unfold restV
    rw [if_pos (by simp only [mkG]; exact hn)]
  · simp at h1
    omega
  · simp at h1
    omega
  · simp at h1
    omega
  · rw [hW0]
    exact a1 _ _ _ (by simp)
set_option maxRecDepth 100000 in
set_option maxHeartbeats 4000000 in
theorem catWay_any (w : World) (ts ys : List Int) (kR : Nat) (tb fb rb : Nat → Nat) (hl : ts.length ≤ 22) (hts : ∀ t ∈ ts, 0 ≤ t ∧ t ≤ 255) (n : Nat) (hn : n = ys.length) (hn1 : 1 ≤ n) (hn8 : n ≤ 8) (hT : TabIn w) (h1 : 1 < w.heap.size) (hkR : kR < w.heap.size)
    (hc : ∀ k, k < n → w.cell? ⟨kR, k * 2, none⟩ = some (.func (.func 83) #[] #[.pointer (some ⟨tb k, 0, none⟩), .pointer (some ⟨fb k, 0, none⟩)]) ∧ w.cell? ⟨kR, k * 2 + 1, none⟩ = some (.func (.func 44) #[] #[]))
    (hL : ∀ k, k < n → Leaf w (tb k) (fb k) (rb k) ts (ys.getD k 0)) :
    CallsIn Fence.wide 5 Tryz.prog 40 #[.slice (some ⟨kR, 0, none⟩) n n, .string (strOfNums ts)] w fun e w' => ∃ g : Gr, g.ts = ts ∧ g.ys = ys ∧ Geo g ∧ e = .returned (.agg #[restV g 0, .func (.func 61) #[] #[.pointer (some ⟨g.kB, 0, none⟩), .pointer (some ⟨g.rB, 0, none⟩)]]) ∧ Net g (fun _ => none) w' ∧ Below w.heap.size w w' ∧ (∀ b, b < w.heap.size → b ≠ 1 → b ≠ kR → (∀ k, k < n → b ≠ tb k ∧ b ≠ fb k ∧ b ≠ rb k) → Out g b) := by
  have k121 : ∀ W : World, (Instr.makeSlice 121 (.int .i64 ((n : Int) + 1)) (.int .i64 ((n : Int) + 1))).run Tryz.prog W = .ok (.slice (some ⟨W.heap.size, 0, none⟩) (n + 1) (n + 1)) (W.alloc (.cells (madeCells #[.nilFunc] ((n + 1) * 1)) 49)) := fun W => make121 (n + 1) (by omega) W
  have hwn : IntKind.i64.wrap ((n : Int) + 1) = (n : Int) + 1 := by rw [IntKind.wrap_i64]; omega
  have HN := hide hn
  clear hn
  obtain ⟨A, hA⟩ : ∃ A, A = madeCells #[.nilFunc] ((n + 1) * 1) := ⟨_, rfl⟩
  rw [← hA] at k121
  have hAn : A[n]? = some .nilFunc := by
    rw [hA]
    simp [madeCells, Nat.mod_one]
  have hAz : A.size = n + 1 := by rw [hA]; simp [madeCells]
  obtain ⟨S, hS⟩ : ∃ S, S = strOfNums ts := ⟨_, rfl⟩
  rw [← hS]
  have q1 : (((((w.alloc (.cells #[.slice (some ⟨kR, 0, none⟩) n n] 109)).alloc (.cells #[.string S] 9)).alloc (.cells #[.nilFunc, .nilFunc] 52)).alloc (.cells A 49)).alloc (.cells #[.slice (some ⟨w.heap.size + 1 + 1 + 1, 0, none⟩) (n + 1) (n + 1)] 121)).heap[w.heap.size + 1 + 1 + 1]? = some (.cells A 49 (0, 0)) := by
    rw [Below.heap_alloc _ _ _ (by simp)]
    have h := heap_alloc_new (((w.alloc (.cells #[.slice (some ⟨kR, 0, none⟩) n n] 109)).alloc (.cells #[.string S] 9)).alloc (.cells #[.nilFunc, .nilFunc] 52)) (.cells A 49)
    rw [show (((w.alloc (.cells #[.slice (some ⟨kR, 0, none⟩) n n] 109)).alloc (.cells #[.string S] 9)).alloc (.cells #[.nilFunc, .nilFunc] 52)).heap.size = w.heap.size + 1 + 1 + 1 by simp] at h
    exact h
  have q2 : (((((w.alloc (.cells #[.slice (some ⟨kR, 0, none⟩) n n] 109)).alloc (.cells #[.string S] 9)).alloc (.cells #[.nilFunc, .nilFunc] 52)).alloc (.cells A 49)).alloc (.cells #[.slice (some ⟨w.heap.size + 1 + 1 + 1, 0, none⟩) (n + 1) (n + 1)] 121)).cell? ⟨w.heap.size + 1 + 1 + 1, n, none⟩ = some .nilFunc := by simp only [World.cell?, q1]; exact hAn
  have q3 : (((((w.alloc (.cells #[.slice (some ⟨kR, 0, none⟩) n n] 109)).alloc (.cells #[.string S] 9)).alloc (.cells #[.nilFunc, .nilFunc] 52)).alloc (.cells A 49)).alloc (.cells #[.slice (some ⟨w.heap.size + 1 + 1 + 1, 0, none⟩) (n + 1) (n + 1)] 121)).frozen? ⟨w.heap.size + 1 + 1 + 1, n, none⟩ = false := by simp only [World.frozen?, q1]; simp
  have HQ := hide q1
  have HA := hide (And.intro hAn hAz)
  have HS9 := hide hS
  clear hA hS q1 hAn hAz
  refine callsIn_of_wp_marks Tryz.func40 rfl trivial ?_ rfl
  simp only [Tryz.ntmps40, List.size_toArray, List.length_cons, List.length_nil, Nat.reduceAdd, Nat.reduceSub, Array.replicate_succ, Array.replicate_zero, List.push_toArray, List.append_toArray, List.nil_append, List.cons_append]
  gi_wp2_with (refine ⟨trivial, ?_⟩; gi_at_call 57; refine (back57 Fence.wide _ trivial rfl _ _ _ _).mono ?_; rintro e w' ⟨rfl, rfl⟩)
  obtain ⟨W0, hW0⟩ : ∃ W0, W0 = ((((((w.alloc (.cells #[.slice (some ⟨kR, 0, none⟩) n n] 109)).alloc (.cells #[.string S] 9)).alloc (.cells #[.nilFunc, .nilFunc] 52)).alloc (.cells (A.setIfInBounds n (.func (.func 56) #[] #[])) 49)).alloc (.cells #[.slice (some ⟨w.heap.size + 1 + 1 + 1, 0, none⟩) (n + 1) (n + 1)] 121)).alloc (.cells #[.slice (some ⟨kR, 0, none⟩) n n] 109)) := ⟨_, rfl⟩
  obtain ⟨hCI, hz0, hBs⟩ := cat_start w ts ys kR tb fb rb n HN.out A HA.out.2 W0 (by rw [hW0, HS9.out])
  rw [← hW0]
  have hord : w.heap.size ≤ w.heap.size ∧ w.heap.size < w.heap.size + 1 ∧ w.heap.size + 1 < w.heap.size + 1 + 1 ∧ w.heap.size + 1 + 1 < w.heap.size + 1 + 1 + 1 ∧ w.heap.size + 1 + 1 + 1 < w.heap.size + 1 + 1 + 1 + 1 ∧ w.heap.size + 1 + 1 + 1 + 1 < w.heap.size + 6 := by omega
  have hBlo : w.heap.size + 1 + 1 + 1 + 1 + 1 < w.heap.size + 6 ∧ w.heap.size + 1 + 1 + 1 + 1 < w.heap.size + 1 + 1 + 1 + 1 + 1 := by omega
  clear hW0 q2 q3 HQ HA k121 hwn
  generalize w.heap.size + 1 + 1 + 1 + 1 + 1 = Bs at *
  generalize w.heap.size + 1 + 1 + 1 + 1 = rB at *
  generalize w.heap.size + 1 + 1 + 1 = rR at *
  generalize w.heap.size + 1 + 1 = rs at *
  generalize w.heap.size + 1 = tB at *
  generalize w.heap.size + 6 = lo at *
  have hmf : ∀ (fn : Fn) (first cap : Array Value) (w : World), (Instr.makeFunc fn first cap).run Tryz.prog w = .ok (.func fn first cap) w := fun _ _ _ _ => rfl
  refine wpIn_rangeFunc_ownH (α := { k : Nat // k < n }) rfl (by decide) (gf := 77) (lb := #[.pointer (some ⟨Bs, 0, none⟩)]) rfl trivial (enters_of Tryz.func77 (by kernel_rfl) rfl)
    (back_stops Fence.wide (5 - 1) trivial rfl (by decide) Bs kR n tb fb hn8 W0 hBs.c (by omega) (by omega) (fun k hk => ⟨(hCI.below.cell (p := ⟨kR, k * 2, none⟩) hkR).trans (hc k hk).1, (hCI.below.cell (p := ⟨kR, k * 2 + 1, none⟩) hkR).trans (hc k hk).2⟩))
    Kp.trans (fun W l o o' hl h a b => ⟨(belowK_b (w := W0) (Nat.le_refl _) W l o o' hl h a b).block Bs (by omega), (belowK_b (w := W0) (Nat.le_refl _) W l o o' hl h a b).block kR (by omega)⟩) (Below.refl _ _) (fun _ => rfl)
    (fun pre W => CI w lo w.heap.size tB rs rR rB kR n ts ys tb fb rb pre W)
    (fun _ _ _ => False)
    (CI.own _ (by omega))
    (fun _ _ _ _ _ hs _ _ => hs)
    hCI
    (fun x a' W => ∃ Bx, lo ≤ Bx ∧ W.heap[Bx]? = some (.cells #[.int .i64 (x.1 : Int)] 3 (0, 0)) ∧ W.heap[Bx + 1]? = some (.cells #[.func (.func 83) #[] #[.pointer (some ⟨tb x.1, 0, none⟩), .pointer (some ⟨fb x.1, 0, none⟩)], .func (.func 44) #[] #[]] 52 (0, 0)) ∧ a' = { tmps := #[.slice (some ⟨kR, 0, none⟩) n n, .string S, .pointer (some ⟨w.heap.size, 0, none⟩), .pointer (some ⟨tB, 0, none⟩), .pointer (some ⟨rs, 0, none⟩), .pointer (some ⟨rB, 0, none⟩), .pointer (some ⟨Bx, 0, none⟩), .pointer (some ⟨Bx + 1, 0, none⟩), .slice (some ⟨kR, 0, none⟩) n n, .int .i64 (n : Int), .int .i64 ((n : Int) + 1), .slice (some ⟨rR, 0, none⟩) (n + 1) (n + 1), .slice (some ⟨rR, 0, none⟩) (n + 1) (n + 1), .slice (some ⟨kR, 0, none⟩) n n, .int .i64 (n : Int), .pointer (some ⟨rR, n, none⟩), .slice (some ⟨kR, 0, none⟩) n n, .func (.func 77) #[] #[.pointer (some ⟨Bs, 0, none⟩)], .int .i64 (x.1 : Int), .agg #[.func (.func 83) #[] #[.pointer (some ⟨tb x.1, 0, none⟩), .pointer (some ⟨fb x.1, 0, none⟩)], .func (.func 44) #[] #[]], undef, undef, undef, undef, undef, undef, undef, undef, undef, undef, undef, undef, undef, undef, undef, undef, undef, undef, undef, undef, undef], defers := [] })
    (fun x a' _ X Y row hs hg hr => by obtain ⟨Bx, h1, h2, h3, h4⟩ := hs; exact ⟨Bx, h1, keep_grown hg (fun r e => (hr r e).2) _ _ _ _ h2, keep_grown hg (fun r e => (hr r e).2) _ _ _ _ h3, h4⟩)
    ?assign ?body ?done ?stop
  case assign =>
    rintro l pre x W K hi hK
    dsimp only [kidV]
    gi_wp2
    have hsz := hi.size
    have hB := ((Below.refl W.heap.size W).alloc (Nat.le_refl _) (.cells #[.int .i64 (x.1 : Int)] 3)).alloc (by simp) (.cells #[.func (.func 83) #[] #[.pointer (some ⟨tb x.1, 0, none⟩), .pointer (some ⟨fb x.1, 0, none⟩)], .func (.func 44) #[] #[]] 52)
    refine hK _ _ (((KeepsOthers.alloc _ _).trans (KeepsOthers.alloc _ _)).from _) ⟨hB.block _ (by omega), hB.block _ (by omega)⟩ (hi.keep (keep_of hB.block) hB.size (hi.below.trans (hB.mono (by omega)))) ⟨W.heap.size, hsz, ?_, ?_, rfl⟩
    · rw [Below.heap_alloc _ _ _ (by simp)]
      exact heap_alloc_new W _
    · have h := heap_alloc_new (W.alloc (.cells #[.int .i64 (x.1 : Int)] 3)) (.cells #[.func (.func 83) #[] #[.pointer (some ⟨tb x.1, 0, none⟩), .pointer (some ⟨fb x.1, 0, none⟩)], .func (.func 44) #[] #[]] 52)
      rw [show (W.alloc (.cells #[.int .i64 (x.1 : Int)] 3)).heap.size = W.heap.size + 1 by simp] at h
      exact h
  case body =>
    rintro l pre x a' W hl ⟨r, hr⟩ hI ⟨Bx, hBx, b0, b1, rfl⟩ hlt
    have hsz := hI.size
    obtain ⟨vals, v1, v2, _⟩ := hI.row
    obtain ⟨k, hkx⟩ : ∃ k : Nat, k = x.1 := ⟨_, rfl⟩
    have hkn : k < n := by rw [hkx]; exact x.2
    have c1 := hI.rest.c
    have c2 : W.cell? ⟨Bx, 0, none⟩ = some (.int .i64 (k : Int)) := by rw [cell_one b0, hkx]; rfl
    have c3 : W.cell? ⟨Bx + 1, 0, none⟩ = some (.func (.func 83) #[] #[.pointer (some ⟨tb k, 0, none⟩), .pointer (some ⟨fb k, 0, none⟩)]) := by rw [cell_one b1, hkx]; rfl
    obtain ⟨old, c4⟩ : ∃ old, W.cell? ⟨rR, k, none⟩ = some old := by
      rw [cell_one v2]
      exact ⟨_, Array.getElem?_eq_getElem (by omega)⟩
    have c5 : W.frozen? ⟨rR, k, none⟩ = false := by simp only [World.frozen?, v2]; simp
    have c6 := hI.kids.c
    have c7 := hI.text.c
    have hkn2 : (k : Int) < ((n : Int) + 1) := by omega
    have hkn3 : (k : Int) < ((n + 1 : Nat) : Int) := by omega
    have n1 : ¬ rR = Bx := by omega
    have n2 : ¬ rR = Bx + 1 := by omega
    have n3 : ¬ rR = w.heap.size := by omega
    have n4 : ¬ rR = rB := by omega
    have n5 : ¬ rR = tB := by omega
    have HX := hide hkx
    rw [← hkx]
    by_cases hlast : k + 1 = n
    · have hnl : ¬ (k : Int) + 1 < (n : Int) := by omega
      have HE := hide (hI.last HN.out hord hlt x (by rw [← hkx]; exact hlast))
      rw [← hkx] at HE
      clear hkx b0 b1 v2 hI
      gi_wp2
      exact ⟨(KeepsOthers.setCell _ _ _).from _, ⟨Below.heap_setCell _ _ _ _ (by simp; omega), Below.heap_setCell _ _ _ _ (by simp; omega)⟩, HE.out⟩
    · have hyl : (k : Int) + 1 < (n : Int) := by omega
      have HE := hide (hI.more HN.out hord hlt x (by rw [← hkx]; omega) Bx hBx b0 b1)
      rw [← hkx, ← HS9.out] at HE
      clear hkx b0 b1 v2 hI
      have h1' : 1 ≤ 5 - 1 - 1 := by decide
      obtain ⟨W1, hW1⟩ : ∃ W1, W1 = W.setCell ⟨rR, k, none⟩ (.func (.func 83) #[] #[.pointer (some ⟨tb k, 0, none⟩), .pointer (some ⟨fb k, 0, none⟩)]) := ⟨_, rfl⟩
      have hz1 : W1.heap.size = W.heap.size := by rw [hW1]; simp
      rw [← hW1] at HE
      obtain ⟨f1, f2, _⟩ := knW_facts W1 S (.func 59) #[.pointer (some ⟨Bx + 1, 0, none⟩), .pointer (some ⟨rB, 0, none⟩), .pointer (some ⟨Bx, 0, none⟩)]
      have HKn : Hid (Calls Tryz.prog 58 #[.string S, .func (.func 59) #[] #[.pointer (some ⟨Bx + 1, 0, none⟩), .pointer (some ⟨rB, 0, none⟩), .pointer (some ⟨Bx, 0, none⟩)]] W1.drew fun e w' => e = .returned (.func (.func 78) #[] #[.pointer (some ⟨W.heap.size + 2, 0, none⟩), .pointer (some ⟨W.heap.size, 0, none⟩), .pointer (some ⟨W.heap.size + 3, 0, none⟩), .pointer (some ⟨W.heap.size + 1, 0, none⟩)]) ∧ w' = (knW W1 S (.func 59) #[.pointer (some ⟨Bx + 1, 0, none⟩), .pointer (some ⟨rB, 0, none⟩), .pointer (some ⟨Bx, 0, none⟩)]).drew) := by
        have h := known_any W1.drew S (.func 59) #[.pointer (some ⟨Bx + 1, 0, none⟩), .pointer (some ⟨rB, 0, none⟩), .pointer (some ⟨Bx, 0, none⟩)]
        rw [show W1.drew.heap.size = W.heap.size from hz1] at h
        refine hide (h.mono ?_)
        rintro e w' ⟨h1, h2⟩
        exact ⟨h1, h2⟩
      have hKO : KeepsOthers W1 (knW W1 S (.func 59) #[.pointer (some ⟨Bx + 1, 0, none⟩), .pointer (some ⟨rB, 0, none⟩), .pointer (some ⟨Bx, 0, none⟩)]) := by
        unfold knW
        exact (((KeepsOthers.alloc _ _).trans (KeepsOthers.alloc _ _)).trans (KeepsOthers.alloc _ _)).trans (KeepsOthers.alloc _ _)
      obtain ⟨W2, hW2⟩ : ∃ W2, W2 = knW W1 S (.func 59) #[.pointer (some ⟨Bx + 1, 0, none⟩), .pointer (some ⟨rB, 0, none⟩), .pointer (some ⟨Bx, 0, none⟩)] := ⟨_, rfl⟩
      rw [← hW2] at HE HKn f1 f2 hKO
      have d1 : W1.cell? ⟨rB, 0, none⟩ = some (.slice (some ⟨rR, 0, none⟩) (n + 1) (n + 1)) := by rw [hW1, World.cell?_setCell_other _ _ _ _ (by intro e; simp at e <;> omega)]; exact c1
      have d2 : W1.cell? ⟨Bx, 0, none⟩ = some (.int .i64 (k : Int)) := by rw [hW1, World.cell?_setCell_other _ _ _ _ (by intro e; simp at e <;> omega)]; exact c2
      have d7 : W1.cell? ⟨tB, 0, none⟩ = some (.string S) := by rw [hW1, World.cell?_setCell_other _ _ _ _ (by intro e; simp at e <;> omega), c7, HS9.out]
      have d6 : W1.cell? ⟨w.heap.size, 0, none⟩ = some (.slice (some ⟨kR, 0, none⟩) n n) := by rw [hW1, World.cell?_setCell_other _ _ _ _ (by intro e; simp at e <;> omega)]; exact c6
      have d4 : W1.cell? ⟨rR, k, none⟩ = some (.func (.func 83) #[] #[.pointer (some ⟨tb k, 0, none⟩), .pointer (some ⟨fb k, 0, none⟩)]) := by rw [hW1]; exact World.cell?_setCell_same' _ _ _ (by rw [c4]; rfl)
      have d5 : W1.frozen? ⟨rR, k, none⟩ = false := by rw [hW1, World.frozen?_setCell]; exact c5
      have l1 := cell_lt c1
      have l2 := cell_lt c2
      have l4 := cell_lt c4
      have g1 : W2.cell? ⟨rB, 0, none⟩ = some (.slice (some ⟨rR, 0, none⟩) (n + 1) (n + 1)) := (World.cell?_of_block (f1 rB (by rw [hz1]; exact l1))).trans d1
      have g2 : W2.cell? ⟨Bx, 0, none⟩ = some (.int .i64 (k : Int)) := (World.cell?_of_block (f1 Bx (by rw [hz1]; exact l2))).trans d2
      have g4 : W2.cell? ⟨rR, k, none⟩ = some (.func (.func 83) #[] #[.pointer (some ⟨tb k, 0, none⟩), .pointer (some ⟨fb k, 0, none⟩)]) := (World.cell?_of_block (f1 rR (by rw [hz1]; exact l4))).trans d4
      have g5 : W2.frozen? ⟨rR, k, none⟩ = false := (World.frozen?_of_block (f1 rR (by rw [hz1]; exact l4))).trans d5
      have HK9 : Hid (KeepsOthers W W1 ∧ KeepsOthers W1 W2 ∧ Kp Bs kR W W1 ∧ Kp Bs kR W1 W2) := by
        refine hide ⟨by rw [hW1]; exact KeepsOthers.setCell _ _ _, hKO, ?_, f1 _ (by omega), f1 _ (by omega)⟩
        rw [hW1]
        exact ⟨Below.heap_setCell _ _ _ _ (by simp; omega), Below.heap_setCell _ _ _ _ (by simp; omega)⟩
      gi_wp2
      rw [← hW1]
      clear hW1 hW2 c1 c2 c3 c4 c5 c6 c7 f1 hKO
      have hfol : Tryz.prog.follows Departure.mixedOrders = true := by kernel_rfl
      gi_region_with_o (refine ⟨trivial, ?_⟩; gi_at_call 58; refine (CallsIn.inRound l (callsIn_wide.2 HKn.out)).mono ?_; rintro e w' ⟨rfl, rfl⟩)
      all_goals gi_wp2
      all_goals exact ⟨((HK9.out.1.trans HK9.out.2.1).trans ((KeepsOthers.setCell _ _ _).trans (KeepsOthers.drew _))).from _, Kp.trans HK9.out.2.2.1 (Kp.trans HK9.out.2.2.2 ⟨Below.heap_setCell _ _ _ _ (by simp; omega), Below.heap_setCell _ _ _ _ (by simp; omega)⟩), CI.keep HE.out (fun _ _ _ _ h => h) (Nat.le_refl _) HE.out.below.drew⟩
  case done =>
    rintro D zs W hD hzs hI hK
    have hzl : zs.length = n := by have := congrArg List.length hzs; simpa [dn_length] using this
    obtain ⟨vals, v1, v2, v3⟩ := hI.row
    obtain ⟨c, y, ly⟩ := v3 (by rw [hzl]; exact hzs)
    rw [hzl] at ly
    obtain ⟨fn, caps, hv⟩ : ∃ fn caps, restV (mkG 0 ts ys rB rR w.heap.size kR tb fb rb c y) 0 = .func fn #[] caps := by
      unfold restV
      split
      · exact ⟨_, _, rfl⟩
      · split
        · exact ⟨_, _, rfl⟩
        · exact ⟨_, _, rfl⟩
    have c1 := hI.rest.c
    have c4 : W.cell? ⟨rR, 0, none⟩ = some (.func fn #[] caps) := by rw [cell_one v2, ly.row 0 (by omega) (by omega), hv]
    have r0 : W.cell? ⟨rs, 0, none⟩ = some .nilFunc := by rw [cell_one hI.res]; rfl
    have r1 : W.cell? ⟨rs, 1, none⟩ = some .nilFunc := by rw [cell_one hI.res]; rfl
    have r2 : W.frozen? ⟨rs, 0, none⟩ = false := by simp only [World.frozen?, hI.res]; simp
    have r3 : W.frozen? ⟨rs, 1, none⟩ = false := by simp only [World.frozen?, hI.res]; simp
    have hlen : (0 : Int) < ((n + 1 : Nat) : Int) := by omega
    have HI9 := hide (And.intro hI (And.intro v2 ly))
    clear hI v3 v2 ly hzs v1
    gi_wp2
    obtain ⟨hI, v2, ly⟩ := HI9.out
    have hD2 : rs < D := by omega
    have s0 := World.cell?_setCell_same' W ⟨rs, 0, none⟩ (.func fn #[] caps) (by rw [r0]; rfl)
    have s1 : (W.setCell ⟨rs, 0, none⟩ (.func fn #[] caps)).cell? ⟨rs, 1, none⟩ = some .nilFunc := by rw [World.cell?_setCell_other _ _ _ _ (by intro e; simp at e)]; exact r1
    have t1 := World.cell?_setCell_same' (W.setCell ⟨rs, 0, none⟩ (.func fn #[] caps)) ⟨rs, 1, none⟩ (.func (.func 61) #[] #[.pointer (some ⟨w.heap.size, 0, none⟩), .pointer (some ⟨rB, 0, none⟩)]) (by rw [s1]; rfl)
    have t0 : ((W.setCell ⟨rs, 0, none⟩ (.func fn #[] caps)).setCell ⟨rs, 1, none⟩ (.func (.func 61) #[] #[.pointer (some ⟨w.heap.size, 0, none⟩), .pointer (some ⟨rB, 0, none⟩)])).cell? ⟨rs, 0, none⟩ = some (.func fn #[] caps) := by rw [World.cell?_setCell_other _ _ _ _ (by intro e; simp at e)]; exact s0
    have hKO := (KeepsOthers.setCell W ⟨rs, 0, none⟩ (.func fn #[] caps)).trans (KeepsOthers.setCell _ ⟨rs, 1, none⟩ (.func (.func 61) #[] #[.pointer (some ⟨w.heap.size, 0, none⟩), .pointer (some ⟨rB, 0, none⟩)]))
    have hK3 := hKO.same D _ hK rfl
    have hB3 := (hI.below.setCell (p := ⟨rs, 0, none⟩) (by simp; omega) (.func fn #[] caps)).setCell (p := ⟨rs, 1, none⟩) (by simp; omega) (.func (.func 61) #[] #[.pointer (some ⟨w.heap.size, 0, none⟩), .pointer (some ⟨rB, 0, none⟩)])
    have hs3 : ∀ b, b ≠ rs → ((W.setCell ⟨rs, 0, none⟩ (.func fn #[] caps)).setCell ⟨rs, 1, none⟩ (.func (.func 61) #[] #[.pointer (some ⟨w.heap.size, 0, none⟩), .pointer (some ⟨rB, 0, none⟩)])).heap[b]? = W.heap[b]? := fun b hb => (Below.heap_setCell _ _ _ b hb).trans (Below.heap_setCell _ _ _ b hb)
    have hz3 := hKO.size
    generalize (W.setCell ⟨rs, 0, none⟩ (.func fn #[] caps)).setCell ⟨rs, 1, none⟩ (.func (.func 61) #[] #[.pointer (some ⟨w.heap.size, 0, none⟩), .pointer (some ⟨rB, 0, none⟩)]) = W3 at *
    have hkp : Keep1 W3 (W3.putObj D (.deferred none)) := keep_grown (grownBy_putObj' W3 D (.deferred none)) (fun r e => by cases e; exact ⟨_, hK3, rfl⟩)
    have u0 := cell_kept t0 (grownBy_putObj' W3 D (.deferred none)) (fun r e => by cases e; exact ⟨_, hK3, rfl⟩)
    have u1 := cell_kept t1 (grownBy_putObj' W3 D (.deferred none)) (fun r e => by cases e; exact ⟨_, hK3, rfl⟩)
    have hB4 := hB3.trans (belowK_b (w := W0) (n₀ := w.heap.size) (by omega) W3 D _ (.deferred none) (by omega) hK3 rfl rfl)
    have hz4 : W.heap.size ≤ (W3.putObj D (.deferred none)).heap.size := Nat.le_trans hz3 (grownBy_putObj' W3 D (.deferred none)).size
    obtain ⟨hGeo, hNet⟩ := hI.net HN.out hn1 hn8 hord vals v2 c y ly (fun b cs t f hb h => hkp b cs t f ((hs3 b hb).trans h)) hz4 hB4 hl hts hT h1 hkR hc hL
    refine ⟨by simp, .inl ⟨_, _, rfl, run_takeDeferred hK3, ?_⟩⟩
    refine ⟨.agg #[.func fn #[] caps, .func (.func 61) #[] #[.pointer (some ⟨w.heap.size, 0, none⟩), .pointer (some ⟨rB, 0, none⟩)]], ?_, mkG _ ts ys rB rR w.heap.size kR tb fb rb c y, rfl, rfl, hGeo, ?_, hNet, hB4, ?_⟩
    · simp [results, Tryz.results40, go_sem, u0, u1]
    · rw [← hv]
      rfl
    · intro b hb h1 h2 h3
      refine ⟨h1, ⟨by simp only [mkG]; omega, by simp only [mkG]; omega, by simp only [mkG]; omega, by simp only [mkG]; omega⟩, fun k hk => h3 k (by rw [HN.out]; exact hk), fun k hk => ?_⟩
      have q := (ly.lay k (by omega) (by rw [HN.out]; exact hk)).lo
      simp only [mkG] at q ⊢
      omega
  case stop =>
    rintro D c pre W _ _ h _
    exact h.elim
end Go.Proofs.YtfpeajbfimodfaaGreatDoor.cat
