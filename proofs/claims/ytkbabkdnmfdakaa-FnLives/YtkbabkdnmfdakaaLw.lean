/- Where one peer of three stands: the law's walk. -/
import Derived.Test.YtkbabkdnmfdakaaCrun
import Derived.Test.YtkbabkdnmfdakaaLives
import Derived.Test.YtkbabkdnmfdakaaSame
import Derived.Test.YtkbabkdnmfdakaaPile
namespace Go.Proofs.Ytkbabkdnmfdakaa.lw
open Go.ChangeShapes Go.WideShapes Go.ChangeAt Go.RowKit
open Go.Proofs.Ytkbabkdnmfdakaa.Raft Go.Proofs.Ytkbabkdnmfdakaa.mem Go.Proofs.Ytkbabkdnmfdakaa.grp Go.Proofs.Ytkbabkdnmfdakaa.look Go.Proofs.Ytkbabkdnmfdakaa.ndw Go.Proofs.Ytkbabkdnmfdakaa.grant Go.Proofs.Ytkbabkdnmfdakaa.stand Go.Proofs.Ytkbabkdnmfdakaa.rows2 Go.Proofs.Ytkbabkdnmfdakaa.clone Go.Proofs.Ytkbabkdnmfdakaa.behind Go.Proofs.Ytkbabkdnmfdakaa.post Go.Proofs.Ytkbabkdnmfdakaa.copy Go.Proofs.Ytkbabkdnmfdakaa.msgs Go.Proofs.Ytkbabkdnmfdakaa.postb Go.Proofs.Ytkbabkdnmfdakaa.ntold Go.Proofs.Ytkbabkdnmfdakaa.gtold Go.Proofs.Ytkbabkdnmfdakaa.gt8 Go.Proofs.Ytkbabkdnmfdakaa.new Go.Proofs.Ytkbabkdnmfdakaa.happen Go.Proofs.Ytkbabkdnmfdakaa.crun
set_option linter.unusedVariables false

def whole (w : World) : Fz := fun b => w.heap[b]?
theorem whole_in (w : World) : In (whole w) w := fun _ _ h => h
theorem cellM_of {w : World} {b i : Nat} {v : Value} (h : w.cell? ⟨b, i, none⟩ = some v) : cellM (whole w) b i = some v := by
  unfold cellM whole
  cases e : w.heap[b]? with
  | none => simp [World.cell?, e] at h
  | some o =>
    cases o with
    | cells cur t fr => simpa [World.cell?, e] using h
    | _ => simp [World.cell?, e] at h
theorem rdM {w : World} {v : Value} {xs : List Int} (h : pile.RdA w v xs) : BytesM (whole w) v xs := by
  obtain ⟨⟨ao, cap, rfl, h1, h2, h3, h4⟩, h5⟩ := h
  refine ⟨⟨ao, cap, rfl, h1, h2, by simp, fun e => ?_, fun hp => ?_⟩, h3⟩
  · subst e
    have := h5 _ _ rfl
    simp only [Value.slice.injEq, true_and] at this
    exact this
  · obtain ⟨b, off, rfl, hc⟩ := h4 hp
    refine ⟨b, off, rfl, fun i v hv => ?_⟩
    have hi : i < xs.length := by have := (List.getElem?_eq_some_iff.1 hv).1; simpa using this
    have := hc i hi
    rw [List.getElem?_map, List.getElem?_eq_getElem hi] at hv
    simp only [Option.map_some, Option.some.injEq] at hv
    rw [← hv]
    refine cellM_of (this.trans ?_)
    rw [List.getD_eq_getElem?_getD, List.getElem?_eq_getElem hi]
    rfl
theorem info24 : (Try.prog.info? 24).map (fun i => (i.zero, i.size, i.bytes)) = some (some (.agg #[.int .i64 0, .int .i64 0, .slice none 0 0]), 3, 40) := by kernel_rfl
/-- A row of events being made. -/
def EI (w : World) (us : List EV) (v : Value) (wr : World) : Prop := Below w.heap.size w wr ∧ wr.ownsRow w.heap.size 24 3 v us.length (us.flatMap evCells)
theorem EI.step {w wr X : World} {us ns : List EV} {so : Option Addr} {sn sc : Nat} (h : EI w us (.slice so sn sc) wr) {cur : Array Value} (hX : wr.alloc (.cells cur 24) = X) (hc : cur.toList = ns.flatMap evCells) :
    ∃ ys, X.ownsRow w.heap.size 24 3 (.slice so sn sc) us.length ys ∧ (∀ j u, cur.toList[j]? = some u → X.cell? ((⟨wr.heap.size, 0, none⟩ : Addr).add j) = some u) ∧ w.heap.size ≤ X.heap.size ∧
      ∀ g cap w', w'.ownsRow w.heap.size 24 3 (.slice (some ⟨g, 0, none⟩) (us.length + ns.length) cap) (us.length + ns.length) (ys ++ cur.toList) → X.grownBy w' (Value.slice so sn sc).ownBlock → EI w (us ++ ns) (.slice (some ⟨g, 0, none⟩) (us.length + ns.length) cap) w' := by
  obtain ⟨hb, hr⟩ := h
  have bX : Below wr.heap.size wr X := by rw [← hX]; exact more (Below.refl _ _) _
  have hB : X.heap[wr.heap.size]? = some (.cells cur 24 (0, 0)) := by rw [← hX]; exact heap_alloc_new wr _
  refine ⟨us.flatMap evCells, row_kept hr (fun g hg => bX.block g (row_lt hr hg).2), ?_, Nat.le_trans hb.size bX.size, ?_⟩
  · intro j u hu
    rw [pile.add_at, Nat.zero_add]
    exact cell_of hB (by simpa using hu)
  · intro g cap w' p1 p2
    refine ⟨(hb.trans (bX.mono hb.size)).grown p2 (Nat.le_trans hb.size bX.size) (fun g' hg' => (row_lt hr hg').1), ?_⟩
    rw [List.length_append, List.flatMap_append, ← hc]
    exact p1
theorem EI.first {w X : World} {x : EV} {cur : Array Value} (hX : w.alloc (.cells cur 24) = X) (hc : cur.toList = evCells x) : EI w [x] (.slice (some ⟨w.heap.size, 0, none⟩) 1 1) X := by
  have bX : Below w.heap.size w X := by rw [← hX]; exact more (Below.refl _ _) _
  have hB : X.heap[w.heap.size]? = some (.cells cur 24 (0, 0)) := by rw [← hX]; exact heap_alloc_new w _
  have hl : cur.toList.length = 3 := by rw [hc]; rfl
  refine ⟨bX, by simp [evCells], .inr ⟨w.heap.size, 1, cur, rfl, Nat.le_refl _, hB, Nat.le_refl _, by simp [maxLen], by rw [← Array.length_toList, hl], ?_⟩⟩
  rw [List.take_of_length_le (by rw [hl]; simp), hc]
  simp
def evA (m : Int) : EV := ⟨⟨1, m, []⟩, .slice none 0 0⟩
def evB : EV := ⟨⟨2, 0, []⟩, .slice none 0 0⟩
def evP (m : Int) (xs : List Int) (v : Value) : EV := ⟨⟨7, m, xs⟩, v⟩
def evU (m : Int) (xs : List Int) (v : Value) : List EV := [evA m] ++ List.replicate 30 evB ++ [evP m xs v, evA m] ++ List.replicate 30 evB
theorem evU_map (m : Int) (xs : List Int) (v : Value) : (evU m xs v).map (·.e) = evsOf m xs := by
  simp only [evU, evsOf, List.map_append, List.map_replicate, List.map_cons, List.map_nil]
  rfl
theorem bytesM_nil (M : Fz) : BytesM M (.slice none 0 0) [] := ⟨RowM.nil _ _, by simp⟩
theorem evU_data (M : Fz) (m : Int) (xs : List Int) (v : Value) (h : BytesM M v xs) : ∀ x ∈ evU m xs v, BytesM M x.dv x.e.data := by
  intro x hx
  simp only [evU, List.mem_append, List.mem_cons, List.mem_replicate, List.not_mem_nil, or_false] at hx
  rcases hx with ((rfl | ⟨_, rfl⟩) | rfl | rfl) | ⟨_, rfl⟩
  · exact bytesM_nil M
  · exact bytesM_nil M
  · exact h
  · exact bytesM_nil M
  · exact bytesM_nil M
theorem livesAll (m : Nat) (hm : m < 3) (xs : List Int) (hx : xs.length ≤ 1000) : ((Cl.begin 3).run (evsOf m xs)).1.chosen = [⟨1, 1, xs⟩] := by
  obtain rfl | rfl | rfl : m = 0 ∨ m = 1 ∨ m = 2 := by omega
  · rw [show ((0 : Nat) : Int) = 0 from rfl]; exact lives0 xs hx
  · rw [show ((1 : Nat) : Int) = 1 from rfl]; exact lives1 xs hx
  · rw [show ((2 : Nat) : Int) = 2 from rfl]; exact lives2 xs hx
/-- What the law reads of the run. -/
def RunR (w : World) (xs : List Int) (r : Ending) (w' : World) : Prop :=
  ∃ (p1 : Option Addr) (p2 p3 : Nat) (n1 : Option Addr) (n2 n3 : Nat) (cb co c3 : Nat) (k1 : Option Addr) (k2 k3 : Nat) (cf : Bool) (d1 : Option Addr) (d3 : Nat), r = .returned (.tuple #[.agg #[.slice p1 p2 p3, .slice n1 n2 n3, .slice (some ⟨cb, co, none⟩) 1 c3, .bool cf], .slice k1 k2 k3, .int .i64 0]) ∧ Hid (Below w.heap.size w w' ∧ ∀ wx, Below w'.heap.size w' wx → (wx.cell? ⟨cb, co + 2, none⟩ = some (.slice d1 xs.length d3) ∧ (convert 22 9 (.slice d1 xs.length d3)).run Try.prog wx = .ok (.string (same.strOf xs)) wx))
theorem run_law (w : World) (m : Nat) (hm : m < 3) (xs : List Int) (hx : xs.length ≤ 1000) (v : Value) (hv : BytesM (whole w) v xs) (wr : World) (so : Option Addr) (sc : Nat) (h : EI w (evU m xs v) (.slice so 63 sc) wr) :
    Calls Try.prog 4 #[.int .i64 3, .slice so 63 sc] wr fun r w' => RunR w xs r w' := by
  obtain ⟨hb, hr⟩ := h
  have hIr : In (whole w) wr := (whole_in w).below hb
  obtain ⟨M1, q1, q2, q3, q4⟩ := RowM.freeze hr hIr (fun g hg => (whole_in w).fresh (row_lt hr hg).1)
  refine (crun_good wr M1 q2 3 (by decide) (by decide) so 63 sc (evU m xs v) ⟨q3, evU_data M1 m xs v (hv.le q1)⟩ (by simp [evU])).mono ?_
  rintro r w' ⟨p1, p2, p3, n1, n2, n3, c1, c2, c3, k1, k3, rfl, M', f, ⟨ps, us, e1, e2, e3, e4, ⟨rs, e5, e6, e7⟩⟩, hk⟩
  rw [evU_map, livesAll m hm xs hx] at e5
  obtain ⟨x, rfl⟩ : ∃ x, rs = [x] := List.length_eq_one_iff.1 (by simpa using congrArg List.length e5)
  simp only [List.map_cons, List.map_nil, List.cons.injEq, and_true] at e5
  obtain ⟨ao, cp, ec, h1, h2, h3, h4, h5⟩ := e6
  simp only [Value.slice.injEq] at ec
  obtain ⟨rfl, rfl, rfl⟩ := ec
  obtain ⟨cb, co, rfl, hc⟩ := h5 (by simp)
  have hd := (e7 x (by simp)).1
  rw [e5] at hd
  obtain ⟨⟨d1, d3, ed, _⟩, _⟩ := id hd
  refine ⟨p1, p2, p3, n1, n2, n3, cb, co, _, k1, _, k3, _, d1, d3, rfl, hb.trans (f.below.mono hb.size), fun wx hw => ⟨?_, ?_⟩⟩
  · have := hc 2 x.dv (by simp [recCells])
    rw [ed] at this
    exact (f.inn.below hw).cell this
  · rw [← ed]
    exact same.run_str (f.inn.below hw) hd
theorem maj3 (w : World) : Calls Try.prog 5 #[.int .i64 3] w fun r w' => r = .returned (.int .i64 2) ∧ w' = w := by
  go_enter Try.func5, Try.ntmps5
  go_wp2
  go_ret
  exact ⟨rfl, rfl⟩

set_option maxRecDepth 20000 in
set_option maxHeartbeats 2000000 in
theorem walk (w : World) (u : Value) (xs : List Int) (hU : pile.RdA w u xs) :
    Calls Try.prog 3 #[u] w fun r w' => r = .returned (.bool true) ∧ Below w.heap.size w w' := by
  have hM := rdM hU
  obtain ⟨⟨a0, c0, rfl, h1, h2, _, _⟩, _⟩ := hU
  by_cases hl : 1000 < xs.length
  · have hli : (1000 : Int) < xs.length := by omega
    go_enter Try.func3, Try.ntmps3
    go_wp2
    go_ret
    exact ⟨rfl, Below.refl _ _⟩
  have hli : ¬ (1000 : Int) < xs.length := by omega
  obtain ⟨m, hm⟩ : ∃ m, m = xs.length % 3 := ⟨_, rfl⟩
  have hm3 : m < 3 := by omega
  have ht : (xs.length : Int).tmod 3 = (m : Int) := by rw [hm]; rfl
  have HRun : Hid (∀ wr so sc, EI w (evU m xs (.slice a0 xs.length c0)) (.slice so 63 sc) wr → Calls Try.prog 4 #[.int .i64 3, .slice so 63 sc] wr fun r w' => RunR w xs r w') := fun wr so sc h => run_law w m hm3 xs (by omega) _ hM wr so sc h
  have HArg : Hid (∀ wx, Below w.heap.size w wx → (convert 22 9 (.slice a0 xs.length c0)).run Try.prog wx = .ok (.string (same.strOf xs)) wx) := fun wx hx => same.run_str ((whole_in w).below hx) hM
  obtain ⟨L, hL⟩ : ∃ L, xs.length = L := ⟨_, rfl⟩
  have HX : Hid (∀ r w', RunR w xs r w' → ∃ (p1 : Option Addr) (p2 p3 : Nat) (n1 : Option Addr) (n2 n3 : Nat) (cb co c3 : Nat) (k1 : Option Addr) (k2 k3 : Nat) (cf : Bool) (d1 : Option Addr) (d3 : Nat) (Z : World), r = .returned (.tuple #[.agg #[.slice p1 p2 p3, .slice n1 n2 n3, .slice (some ⟨cb, co, none⟩) 1 c3, .bool cf], .slice k1 k2 k3, .int .i64 0]) ∧ w'.alloc (.cells #[.slice p1 p2 p3, .slice n1 n2 n3, .slice (some ⟨cb, co, none⟩) 1 c3, .bool cf] 30) = Z ∧ (Z.cell? ⟨w'.heap.size, 2, none⟩ = some (.slice (some ⟨cb, co, none⟩) 1 c3)) ∧ (Z.cell? ⟨cb, co + 2, none⟩ = some (.slice d1 L d3)) ∧ (∀ q, (convert 22 9 (.slice d1 L d3)).run Try.prog (Z.drewN q) = .ok (.string (same.strOf xs)) (Z.drewN q)) ∧ (∀ q, (convert 22 9 (.slice a0 L c0)).run Try.prog (Z.drewN q) = .ok (.string (same.strOf xs)) (Z.drewN q)) ∧ Hid (∀ q, Below w.heap.size w (Z.drewN q))) := fun r w' h => by
    obtain ⟨p1, p2, p3, n1, n2, n3, cb, co, c3, k1, k2, k3, cf, d1, d3, rfl, hb, hf⟩ := h
    obtain ⟨Z, hZ⟩ : ∃ Z, w'.alloc (.cells #[.slice p1 p2 p3, .slice n1 n2 n3, .slice (some ⟨cb, co, none⟩) 1 c3, .bool cf] 30) = Z := ⟨_, rfl⟩
    have bZ : Below w'.heap.size w' Z := by rw [← hZ]; exact more (Below.refl _ _) _
    have hB : Z.heap[w'.heap.size]? = some (.cells #[.slice p1 p2 p3, .slice n1 n2 n3, .slice (some ⟨cb, co, none⟩) 1 c3, .bool cf] 30 (0, 0)) := by rw [← hZ]; exact heap_alloc_new w' _
    have bq : ∀ q, Below w'.heap.size w' (Z.drewN q) := fun q => ⟨bZ.os, bZ.tape, bZ.output, bZ.size, bZ.block⟩
    rw [hL] at hf
    refine ⟨p1, p2, p3, n1, n2, n3, cb, co, c3, k1, k2, k3, cf, d1, d3, Z, rfl, hZ, cell_of (i := 2) hB rfl, (hf _ bZ).1, fun q => (hf _ (bq q)).2, fun q => ?_, fun q => hb.trans ((bq q).mono hb.size)⟩
    have := HArg.out (Z.drewN q) (hb.trans ((bq q).mono hb.size))
    rw [hL] at this
    exact this
  have HMj : Hid (∀ wx, Calls Try.prog 5 #[.int .i64 3] wx fun r w' => r = .returned (.int .i64 2) ∧ w' = wx) := fun wx => maj3 wx
  obtain ⟨i0, hii, hz0, hz1, hz2⟩ := info_parts info24
  have HI3 : Hid (Try.prog.info? 24 = some i0 ∧ i0.zero = some (.agg #[.int .i64 0, .int .i64 0, .slice none 0 0]) ∧ i0.size = 3 ∧ i0.bytes = 40) := ⟨hii, hz0, hz1, hz2⟩
  rw [hL] at ht hli HRun ⊢
  obtain ⟨W1, hW1⟩ : ∃ W1, w.alloc (.cells #[.int .i64 1, .int .i64 m, .slice none 0 0] 24) = W1 := ⟨_, rfl⟩
  have H1 : Hid (EI w ([evA m] ++ List.replicate 0 evB) (.slice (some ⟨w.heap.size, 0, none⟩) 1 1) W1) := EI.first hW1 rfl
  clear hii hz0 hz1 hz2 hM h1 h2 hl hm HArg
  go_enter Try.func3, Try.ntmps3
  go_wp2
  go_loopw [3, 4] (fun v i wr => ∃ (k : Nat) (so : Option Addr) (sc : Nat), k ≤ 30 ∧ v = .slice so (k + 1) sc ∧ i = .int .i64 k ∧ Hid (EI w ([evA m] ++ List.replicate k evB) v wr)) (fun _ i _ => 30 - (intOf i).toNat)
  case atStart => exact ⟨0, _, _, by omega, rfl, rfl, H1⟩
  case round =>
    clear hW1 H1
    obtain ⟨k, so, sc, hk, rfl, rfl, HR⟩ := hrel
    by_cases hlt : k < 30
    · have hltI : (k : Int) < 30 := by omega
      obtain ⟨X, hX⟩ : ∃ X, wr.alloc (.cells #[.int .i64 2, .int .i64 0, .slice none 0 0] 24) = X := ⟨_, rfl⟩
      have HJ1 : Hid (∃ ys, X.ownsRow w.heap.size 24 3 (.slice so (k + 1) sc) (k + 1) ys ∧ (∀ j u, ([.int .i64 2, .int .i64 0, .slice none 0 0] : List Value)[j]? = some u → X.cell? ((⟨wr.heap.size, 0, none⟩ : Addr).add j) = some u) ∧ w.heap.size ≤ X.heap.size ∧
          ∀ g cap w', w'.ownsRow w.heap.size 24 3 (.slice (some ⟨g, 0, none⟩) (k + 1 + 1) cap) (k + 1 + 1) (ys ++ [.int .i64 2, .int .i64 0, .slice none 0 0]) → X.grownBy w' (Value.slice so (k + 1) sc).ownBlock → EI w ([evA m] ++ List.replicate (k + 1) evB) (.slice (some ⟨g, 0, none⟩) (k + 1 + 1) cap) w') := by
        have h9 := EI.step (ns := [evB]) HR.out hX rfl
        rw [show ([evA m] ++ List.replicate k evB).length = k + 1 by simp, show ([evB] : List EV).length = 1 from rfl, List.append_assoc, show List.replicate k evB ++ [evB] = List.replicate (k + 1) evB from List.replicate_succ'.symm] at h9
        exact h9
      clear HRun HX HMj
      go_wp2_with (at_builtin; obtain ⟨ys, y1, y2, y3, y4⟩ := HJ1.out; refine wpList_append_lies _ rfl _ _ 25 rfl w.heap.size 24 i0 (.agg #[.int .i64 0, .int .i64 0, .slice none 0 0]) 3 40 Try.underlying25 HI3.out.1 HI3.out.2.1 HI3.out.2.2.1 HI3.out.2.2.2 rfl (by decide) _ (k + 1) ys rfl y1 ⟨wr.heap.size, 0, none⟩ 1 1 [.int .i64 2, .int .i64 0, .slice none 0 0] rfl rfl y2 (fun u' hu' => by simp only [List.mem_cons, List.not_mem_nil, or_false] at hu'; rcases hu' with rfl | rfl | rfl <;> rfl) (by decide) (by unfold maxLen; omega) (by omega) y3 _ rfl ?_; intro g2 cap2 w2 z1 z2 z3 z4; have HN := hide (y4 g2 cap2 w2 z1 z2); clear z1 z2 z3 z4 y1 y2 y3 y4)
      go_roundw
      case rel => exact ⟨k + 1, _, _, by omega, rfl, by go_num, HN⟩
      case measure => simp [intOf]; omega
    · have hlt2 : ¬ (k : Int) < 30 := by omega
      obtain rfl : k = 30 := by omega
      obtain ⟨X, hX⟩ : ∃ X, wr.alloc (.cells #[.int .i64 7, .int .i64 m, .slice a0 L c0, .int .i64 1, .int .i64 m, .slice none 0 0] 24) = X := ⟨_, rfl⟩
      have HJ2 : Hid (∃ ys, X.ownsRow w.heap.size 24 3 (.slice so (30 + 1) sc) (30 + 1) ys ∧ (∀ j u, ([.int .i64 7, .int .i64 m, .slice a0 L c0, .int .i64 1, .int .i64 m, .slice none 0 0] : List Value)[j]? = some u → X.cell? ((⟨wr.heap.size, 0, none⟩ : Addr).add j) = some u) ∧ w.heap.size ≤ X.heap.size ∧
          ∀ g cap w', w'.ownsRow w.heap.size 24 3 (.slice (some ⟨g, 0, none⟩) (30 + 1 + 2) cap) (30 + 1 + 2) (ys ++ [.int .i64 7, .int .i64 m, .slice a0 L c0, .int .i64 1, .int .i64 m, .slice none 0 0]) → X.grownBy w' (Value.slice so (30 + 1) sc).ownBlock → EI w ([evA m] ++ List.replicate 30 evB ++ [evP m xs (.slice a0 L c0), evA m] ++ List.replicate 0 evB) (.slice (some ⟨g, 0, none⟩) (30 + 1 + 2) cap) w') := by
        have h9 := EI.step (ns := [evP m xs (.slice a0 L c0), evA m]) HR.out hX rfl
        rw [show ([evA m] ++ List.replicate 30 evB).length = 30 + 1 by simp, show ([evP m xs (.slice a0 L c0), evA m] : List EV).length = 2 from rfl] at h9
        rw [List.replicate_zero, List.append_nil]
        exact h9
      clear HR
      go_wp2_with (at_builtin; obtain ⟨ys, y1, y2, y3, y4⟩ := HJ2.out; refine wpList_append_lies _ rfl _ _ 25 rfl w.heap.size 24 i0 (.agg #[.int .i64 0, .int .i64 0, .slice none 0 0]) 3 40 Try.underlying25 HI3.out.1 HI3.out.2.1 HI3.out.2.2.1 HI3.out.2.2.2 rfl (by decide) _ (30 + 1) ys rfl y1 ⟨wr.heap.size, 0, none⟩ 2 2 [.int .i64 7, .int .i64 m, .slice a0 L c0, .int .i64 1, .int .i64 m, .slice none 0 0] rfl rfl y2 (fun u' hu' => by simp only [List.mem_cons, List.not_mem_nil, or_false] at hu'; rcases hu' with rfl | rfl | rfl | rfl | rfl | rfl <;> rfl) (by decide) (by unfold maxLen; omega) (by omega) y3 _ rfl ?_; intro g2 cap2 w2 z1 z2 z3 z4; have HN := hide (y4 g2 cap2 w2 z1 z2); clear z1 z2 z3 z4 y1 y2 y3 y4)
      clear hX HJ2
      go_loopw [3, 5] (fun v i wr => ∃ (k : Nat) (so : Option Addr) (sc : Nat), k ≤ 30 ∧ v = .slice so (k + 33) sc ∧ i = .int .i64 k ∧ Hid (EI w ([evA m] ++ List.replicate 30 evB ++ [evP m xs (.slice a0 L c0), evA m] ++ List.replicate k evB) v wr)) (fun _ i _ => 30 - (intOf i).toNat)
      case atStart => exact ⟨0, _, _, by omega, rfl, rfl, HN⟩
      case round =>
        clear HN
        obtain ⟨k, so, sc, hk, rfl, rfl, HR⟩ := hrel
        by_cases hlt : k < 30
        · have hltI : (k : Int) < 30 := by omega
          obtain ⟨X, hX⟩ : ∃ X, wr.alloc (.cells #[.int .i64 2, .int .i64 0, .slice none 0 0] 24) = X := ⟨_, rfl⟩
          have HJ1 : Hid (∃ ys, X.ownsRow w.heap.size 24 3 (.slice so (k + 33) sc) (k + 33) ys ∧ (∀ j u, ([.int .i64 2, .int .i64 0, .slice none 0 0] : List Value)[j]? = some u → X.cell? ((⟨wr.heap.size, 0, none⟩ : Addr).add j) = some u) ∧ w.heap.size ≤ X.heap.size ∧
              ∀ g cap w', w'.ownsRow w.heap.size 24 3 (.slice (some ⟨g, 0, none⟩) (k + 33 + 1) cap) (k + 33 + 1) (ys ++ [.int .i64 2, .int .i64 0, .slice none 0 0]) → X.grownBy w' (Value.slice so (k + 33) sc).ownBlock → EI w ([evA m] ++ List.replicate 30 evB ++ [evP m xs (.slice a0 L c0), evA m] ++ List.replicate (k + 1) evB) (.slice (some ⟨g, 0, none⟩) (k + 33 + 1) cap) w') := by
            have h9 := EI.step (ns := [evB]) HR.out hX rfl
            rw [show ([evA m] ++ List.replicate 30 evB ++ [evP m xs (.slice a0 L c0), evA m] ++ List.replicate k evB).length = k + 33 by simp, show ([evB] : List EV).length = 1 from rfl, List.append_assoc, show List.replicate k evB ++ [evB] = List.replicate (k + 1) evB from List.replicate_succ'.symm] at h9
            exact h9
          clear HRun HX HMj
          go_wp2_with (at_builtin; obtain ⟨ys, y1, y2, y3, y4⟩ := HJ1.out; refine wpList_append_lies _ rfl _ _ 25 rfl w.heap.size 24 i0 (.agg #[.int .i64 0, .int .i64 0, .slice none 0 0]) 3 40 Try.underlying25 HI3.out.1 HI3.out.2.1 HI3.out.2.2.1 HI3.out.2.2.2 rfl (by decide) _ (k + 33) ys rfl y1 ⟨wr.heap.size, 0, none⟩ 1 1 [.int .i64 2, .int .i64 0, .slice none 0 0] rfl rfl y2 (fun u' hu' => by simp only [List.mem_cons, List.not_mem_nil, or_false] at hu'; rcases hu' with rfl | rfl | rfl <;> rfl) (by decide) (by unfold maxLen; omega) (by omega) y3 _ rfl ?_; intro g2 cap2 w2 z1 z2 z3 z4; have HN := hide (y4 g2 cap2 w2 z1 z2); clear z1 z2 z3 z4 y1 y2 y3 y4)
          go_roundw
          case rel => exact ⟨k + 1, some ⟨g2, 0, none⟩, cap2, by omega, congrArg (fun n => Value.slice (some ⟨g2, 0, none⟩) n cap2) (by omega), by go_num, HN⟩
          case measure => simp [intOf]; omega
        · have hlt2 : ¬ (k : Int) < 30 := by omega
          obtain rfl : k = 30 := by omega
          have HRR := hide (HRun.out wr so sc HR.out)
          clear HRun HR
          go_upto_region 14 with (go_at_call 4; refine HRR.out.mono ?_; intro rr w5 hRR; obtain ⟨p1, p2, p3, n1, n2, n3, cb, co, c3, k1, k2, k3, cf, d1, d3, Z, rfl, hZ, x1, x2, x3, x4, HBZ⟩ := HX.out _ _ hRR; clear hRR)
          clear HX HRR
          go_quiet (first | (go_at_call 5; refine Calls.quiet_of_same (HMj.out _)))
          go_wp2
          go_ret
          exact ⟨rfl, HBZ.out _⟩
end Go.Proofs.Ytkbabkdnmfdakaa.lw
