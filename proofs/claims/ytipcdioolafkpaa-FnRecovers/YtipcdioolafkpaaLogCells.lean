/- Rows of records as the model copies them: what is read, a row appended to a row. -/
import Derived.Test.YtipcdioolafkpaaRecov
import Derived.Laws.AppendOwnNone
import Derived.Deep.AppendLies
namespace Go.Proofs.Ytipcdioolafkpaa.logcells
open Go.ChangeShapes Go.WideShapes Go.ChangeAt Go.RowKit
open Go.Proofs.Ytipcdioolafkpaa.bytes Go.Proofs.Ytipcdioolafkpaa.pile Go.Proofs.Ytipcdioolafkpaa.put Go.Proofs.Ytipcdioolafkpaa.crcs Go.Proofs.Ytipcdioolafkpaa.join Go.Proofs.Ytipcdioolafkpaa.frames Go.Proofs.Ytipcdioolafkpaa.get Go.Proofs.Ytipcdioolafkpaa.dec Go.Proofs.Ytipcdioolafkpaa.take Go.Proofs.Ytipcdioolafkpaa.one Go.Proofs.Ytipcdioolafkpaa.votes Go.Proofs.Ytipcdioolafkpaa.pays Go.Proofs.Ytipcdioolafkpaa.rechelp Go.Proofs.Ytipcdioolafkpaa.recrows Go.Proofs.Ytipcdioolafkpaa.recov
set_option linter.unusedVariables false

/-- A log that is read; nil only if it is nothing. -/
structure LogR (w : World) (lv : Value) (rl : List Rec3) (us : List Value) : Prop where
  rd : RdRecs w lv rl us
  nil : ∀ n c, lv = .slice none n c → n = 0 ∧ c = 0
theorem LogR.below {w w' : World} {B : Nat} {lv : Value} {rl : List Rec3} {us : List Value} (h : LogR w lv rl us) (hb : Below B w w') (hB : w.heap.size ≤ B) : LogR w' lv rl us := ⟨h.rd.below hb hB, h.nil⟩
/-- A block that neither the row nor its bytes lie in. -/
def Far (lv : Value) (us : List Value) (b : Nat) : Prop := lv.ownBlock ≠ some b ∧ ∀ u ∈ us, u.ownBlock ≠ some b
theorem rdA_grown {w w' : World} {b : Nat} {v : Value} {xs : List Int} (h : RdA w v xs) (hg : w.grownBy w' (some b)) (hne : v.ownBlock ≠ some b) : RdA w' v xs := by
  obtain ⟨⟨ao, cap, rfl, h1, h2, h3, h4⟩, hn⟩ := h
  refine ⟨⟨ao, cap, rfl, h1, h2, h3, fun hp => ?_⟩, hn⟩
  obtain ⟨k, off, rfl, hc⟩ := h4 hp
  refine ⟨k, off, rfl, fun i hi => ?_⟩
  have hk : k ≠ b := fun e => hne (by simp [Value.ownBlock, e])
  exact (hg.cell_far _ (cell_lt (hc i hi)) (by simp; exact hk)).trans (hc i hi)
theorem LogR.grown {w w' : World} {b : Nat} {lv : Value} {rl : List Rec3} {us : List Value} (h : LogR w lv rl us) (hg : w.grownBy w' (some b)) (hf : Far lv us b) : LogR w' lv rl us := by
  refine ⟨⟨h.rd.len, ?_, fun k hk => rdA_grown (h.rd.each k hk) hg (hf.2 _ ?_)⟩, h.nil⟩
  · obtain ⟨ao, cap, rfl, h1, h2, h4⟩ := h.rd.row
    refine ⟨ao, cap, rfl, h1, h2, fun hp => ?_⟩
    obtain ⟨g, off, rfl, hc⟩ := h4 hp
    have hk : g ≠ b := fun e => hf.1 (by simp [Value.ownBlock, e])
    have hx : ∀ o u, w.cell? ⟨g, o, none⟩ = some u → w'.cell? ⟨g, o, none⟩ = some u := fun o u hu => (hg.cell_far _ (cell_lt hu) (by simp; exact hk)).trans hu
    exact ⟨g, off, rfl, fun k hk => ⟨hx _ _ (hc k hk).1, hx _ _ (hc k hk).2.1, hx _ _ (hc k hk).2.2⟩⟩
  · have hk' : k < us.length := by rw [h.rd.len]; exact hk
    rw [show us.getD k (.slice none 0 0) = us[k] by simp [List.getD_eq_getElem?_getD, hk']]
    exact List.getElem_mem hk'
theorem add_flat (g off k : Nat) : (⟨g, off, none⟩ : Addr).add k = ⟨g, off + k, none⟩ := by
  unfold Addr.add
  split
  · rename_i h; rw [h]; rfl
  · rfl
/-- The cell of a row of records. -/
def cellR (rl : List Rec3) (us : List Value) (j : Nat) : Value := if j % 3 = 0 then .int .i64 (rl.getD (j / 3) zRec).t else if j % 3 = 1 then .int .i64 (rl.getD (j / 3) zRec).i else us.getD (j / 3) (.slice none 0 0)
theorem cellR0 (rl : List Rec3) (us : List Value) (q : Nat) : cellR rl us (q * 3) = .int .i64 (rl.getD q zRec).t := by
  unfold cellR; rw [if_pos (by omega), show q * 3 / 3 = q by omega]
theorem cellR1 (rl : List Rec3) (us : List Value) (q : Nat) : cellR rl us (q * 3 + 1) = .int .i64 (rl.getD q zRec).i := by
  unfold cellR; rw [if_neg (by omega), if_pos (by omega), show (q * 3 + 1) / 3 = q by omega]
theorem cellR2 (rl : List Rec3) (us : List Value) (q : Nat) : cellR rl us (q * 3 + 2) = us.getD q (.slice none 0 0) := by
  unfold cellR; rw [if_neg (by omega), if_neg (by omega), show (q * 3 + 2) / 3 = q by omega]
/-- What a list of cells says of records. -/
def Says (cs : List Value) (rl : List Rec3) (us : List Value) (i n : Nat) : Prop := ∀ q, q < n → cs[q * 3]? = some (.int .i64 (rl.getD (i + q) zRec).t) ∧ cs[q * 3 + 1]? = some (.int .i64 (rl.getD (i + q) zRec).i) ∧ cs[q * 3 + 2]? = some (us.getD (i + q) (.slice none 0 0))
theorem log_news {w : World} {ao : Option Addr} {cap : Nat} {rl : List Rec3} {us : List Value} (h : LogR w (.slice ao rl.length cap) rl us) (i n : Nat) (hin : i + n ≤ rl.length) :
    ∃ news : List Value, news.length = n * 3 ∧ (∀ ad, ao = some ad → ∀ j u, news[j]? = some u → w.cell? ((ad.add (i * 3)).add j) = some u) ∧ (∀ u ∈ news, u.oneCell' = true) ∧ Says news rl us i n := by
  refine ⟨(List.range (n * 3)).map (fun j => cellR rl us (i * 3 + j)), by simp, ?_, ?_, ?_⟩
  · intro ad had j u hu
    simp only [List.getElem?_map, Option.map_eq_some_iff] at hu
    obtain ⟨j', hj', rfl⟩ := hu
    have hj : j < n * 3 := by have := (List.getElem?_eq_some_iff.1 hj').1; simpa using this
    have e : j' = j := by rw [List.getElem?_range hj] at hj'; simpa using hj'.symm
    subst e
    obtain ⟨ao', cap', e, _, _, h4⟩ := h.rd.row
    simp only [Value.slice.injEq, true_and] at e
    obtain ⟨rfl, rfl⟩ := e
    obtain ⟨b, off, e, hc⟩ := h4 (by omega)
    rw [e] at had
    simp only [Option.some.injEq] at had
    subst had
    rw [add_flat, add_flat]
    obtain ⟨q0, hq0⟩ : ∃ q, q = j' / 3 := ⟨_, rfl⟩
    have hq := hc (i + q0) (by omega)
    rcases (show j' % 3 = 0 ∨ j' % 3 = 1 ∨ j' % 3 = 2 by omega) with h3 | h3 | h3
    · rw [show i * 3 + j' = (i + q0) * 3 by omega, cellR0, show off + i * 3 + j' = off + (i + q0) * 3 by omega]; exact hq.1
    · rw [show i * 3 + j' = (i + q0) * 3 + 1 by omega, cellR1, show off + i * 3 + j' = off + (i + q0) * 3 + 1 by omega]; exact hq.2.1
    · rw [show i * 3 + j' = (i + q0) * 3 + 2 by omega, cellR2, show off + i * 3 + j' = off + (i + q0) * 3 + 2 by omega]; exact hq.2.2
  · intro u hu
    simp only [List.mem_map, List.mem_range] at hu
    obtain ⟨j', hj, rfl⟩ := hu
    obtain ⟨q0, hq0⟩ : ∃ q, q = j' / 3 := ⟨_, rfl⟩
    rcases (show j' % 3 = 0 ∨ j' % 3 = 1 ∨ j' % 3 = 2 by omega) with h3 | h3 | h3
    · rw [show i * 3 + j' = (i + q0) * 3 by omega, cellR0]; rfl
    · rw [show i * 3 + j' = (i + q0) * 3 + 1 by omega, cellR1]; rfl
    · rw [show i * 3 + j' = (i + q0) * 3 + 2 by omega, cellR2]
      obtain ⟨o, c, e, _⟩ := (h.rd.each (i + q0) (by omega)).1
      rw [e]; rfl
  · intro q hq
    have g : ∀ r, r < 3 → ((List.range (n * 3)).map (fun j => cellR rl us (i * 3 + j)))[q * 3 + r]? = some (cellR rl us ((i + q) * 3 + r)) := fun r hr => by
      rw [List.getElem?_map, List.getElem?_range (by omega), Option.map_some, show i * 3 + (q * 3 + r) = (i + q) * 3 + r by omega]
    exact ⟨by rw [← cellR0 rl us (i + q)]; exact g 0 (by omega), by rw [← cellR1 rl us (i + q)]; exact g 1 (by omega), by rw [← cellR2 rl us (i + q)]; exact g 2 (by omega)⟩
theorem recs_of_row {w : World} {base : Nat} {v : Value} {rl : List Rec3} {us : List Value} {cs : List Value} (h : w.ownsRow base 92 3 v rl.length cs) (hu : us.length = rl.length) (hc : Says cs rl us 0 rl.length) (he : ∀ q, q < rl.length → RdA w (us.getD q (.slice none 0 0)) (rl.getD q zRec).d) : LogR w v rl us := by
  obtain ⟨hl, h⟩ := h
  rcases h with ⟨rfl, h0⟩ | ⟨g, cap, cur, rfl, hb, hg, h1, h2, hs, ht⟩
  · exact ⟨⟨hu, ⟨none, 0, by rw [h0], by omega, by simp [maxLen], by omega⟩, he⟩, fun n c e => by simp only [Value.slice.injEq, true_and] at e; omega⟩
  · refine ⟨⟨hu, ⟨_, _, rfl, h1, h2, fun hp => ⟨g, 0, rfl, fun k hk => ?_⟩⟩, he⟩, fun n c e => by simp at e⟩
    have hcell : ∀ j x, cs[j]? = some x → w.cell? ⟨g, 0 + j, none⟩ = some x := fun j x hx => by
      refine cell_of hg ?_
      rw [← ht] at hx
      have hj : j < rl.length * 3 := by
        have := (List.getElem?_eq_some_iff.1 hx).1
        simp only [List.length_take] at this
        omega
      rw [List.getElem?_take, if_pos hj, Array.getElem?_toList] at hx
      rw [Nat.zero_add]
      exact hx
    have hh := hc k hk
    rw [Nat.zero_add] at hh
    exact ⟨hcell _ _ hh.1, by rw [Nat.add_assoc]; exact hcell _ _ hh.2.1, by rw [Nat.add_assoc]; exact hcell _ _ hh.2.2⟩
theorem wpList_append_recs (w : World) {ops : Array Oper} {rest : List Oper} {o : Oper} {a : Act} {Q : Exit → Act → World → Prop} (hgd : o.guard = none) (s x : Operand)
    (ho : o.op = .call { callee := .builtin .append, args := #[s, x], argTypes := #[50, 50] })
    (base : Nat) (v : Value) (n : Nat) (xs : List Value) (hs : a.eval s = v) (hown : w.ownsRow base 92 3 v n xs) (ao : Option Addr) (m c : Nat) (hx : a.eval x = .slice ao m c) (hnil : ao = none → m = 0 ∧ c = 0)
    (news : List Value) (hl : news.length = m * 3) (hnews : ∀ ad, ao = some ad → ∀ j u, news[j]? = some u → w.cell? (ad.add j) = some u) (h1 : ∀ u ∈ news, u.oneCell' = true) (hb : n + m ≤ 1000000) (hbase : base ≤ w.heap.size)
    (h : ∀ v' w', w'.ownsRow base 92 3 v' (n + m) (xs ++ news) → w.grownBy w' v.ownBlock → wpList Try.prog ops Q rest (a.put o.dst v') w') : wpList Try.prog ops Q (o :: rest) a w := by
  obtain ⟨i0, hi, hz0, hz1, hz2⟩ := info_parts info43
  cases ao with
  | none =>
    obtain ⟨rfl, rfl⟩ := hnil rfl
    obtain rfl : news = [] := List.length_eq_zero_iff.1 (by omega)
    refine wpList_append_own_none hgd s x 50 ho base 92 i0 3 Try.underlying50 hi v n xs hs hown hx ?_
    exact h v w (by simpa using hown) (World.grownBy.refl _ _)
  | some ad =>
    refine wpList_append_own w hgd s x 50 ho base 92 i0 _ 3 40 Try.underlying50 hi hz0 hz1 hz2 rfl (by decide) v n xs hs hown ad m c news hx hl (hnews ad rfl) h1 (by unfold maxLen; omega) (by omega) hbase ?_
    intro v' w' h2 h3 _
    exact h v' w' h2 h3
theorem Says.append {cs ds : List Value} {rl : List Rec3} {us : List Value} {k : Nat} {r : Rec3} {u : Value} (h : Says cs rl us 0 k) (hl : cs.length = k * 3) (hk : k ≤ rl.length) (hu : us.length = rl.length) (hd : ds = [.int .i64 r.t, .int .i64 r.i, u]) : Says (cs ++ ds) (rl.take k ++ [r]) (us.take k ++ [u]) 0 (k + 1) := by
  intro q hq
  rw [Nat.zero_add]
  have hlk : (rl.take k).length = k := by simp; omega
  have hlu : (us.take k).length = k := by simp; omega
  by_cases e : q < k
  · have h := h q e
    rw [Nat.zero_add] at h
    have e1 : (rl.take k ++ [r]).getD q zRec = rl.getD q zRec := by
      simp only [List.getD_eq_getElem?_getD]
      rw [List.getElem?_append_left (by omega), List.getElem?_take, if_pos e]
    have e2 : (us.take k ++ [u]).getD q (.slice none 0 0) = us.getD q (.slice none 0 0) := by
      simp only [List.getD_eq_getElem?_getD]
      rw [List.getElem?_append_left (by omega), List.getElem?_take, if_pos e]
    rw [e1, e2, List.getElem?_append_left (by omega), List.getElem?_append_left (by omega), List.getElem?_append_left (by omega)]
    exact h
  · obtain rfl : q = k := by omega
    have e1 : (rl.take q ++ [r]).getD q zRec = r := by
      simp only [List.getD_eq_getElem?_getD]
      rw [List.getElem?_append_right (by omega), hlk]; simp
    have e2 : (us.take q ++ [u]).getD q (.slice none 0 0) = u := by
      simp only [List.getD_eq_getElem?_getD]
      rw [List.getElem?_append_right (by omega), hlu]; simp
    rw [e1, e2, List.getElem?_append_right (by omega), List.getElem?_append_right (by omega), List.getElem?_append_right (by omega), hl, hd, show q * 3 - q * 3 = 0 by omega, show q * 3 + 1 - q * 3 = 1 by omega, show q * 3 + 2 - q * 3 = 2 by omega]
    exact ⟨rfl, rfl, rfl⟩
end Go.Proofs.Ytipcdioolafkpaa.logcells
