/- A cluster at work, in memory: whose each block is, what a call may change; a peer, the letters on their way, what is chosen, the group. -/
import Derived.Test.YtklkglbimjajnaaMem
import Derived.Test.YtklkglbimjajnaaProg
import Derived.KernelRfl
import Derived.WalkSpells
import Derived.WalkSmall
import Derived.Deep.QuietTactic
import Derived.BigQuiet
import Derived.Outline
import Derived.Laws.AppendOwnNone
import Derived.Deep.RegionLaw
import Derived.Deep.RegionHeldLaw
import Derived.Deep.AppendLies
namespace Go.Proofs.Ytklkglbimjajnaa.grp
open Go.ChangeShapes Go.WideShapes Go.ChangeAt Go.RowKit
open Go.Proofs.Ytklkglbimjajnaa.Raft Go.Proofs.Ytklkglbimjajnaa.mem
set_option linter.unusedVariables false

theorem hide {p : Prop} (h : p) : Hid p := h
theorem cell_of {w : World} {b i : Nat} {cur : Array Value} {t : Nat} {v : Value} (h : w.heap[b]? = some (.cells cur t (0, 0))) (hv : cur[i]? = some v) : w.cell? ⟨b, i, none⟩ = some v := by simp [World.cell?, h, hv]
theorem frozen_of {w : World} {b : Nat} {cur : Array Value} {t : Nat} (h : w.heap[b]? = some (.cells cur t (0, 0))) (i : Nat) : w.frozen? ⟨b, i, none⟩ = false := by simp [World.frozen?, h]
theorem kept {w w' : World} {B k : Nat} {o : Obj} (h : Below B w w') (hk : w.heap[k]? = some o) (hB : w.heap.size ≤ B) : w'.heap[k]? = some o := (h.block k (by have := (Array.getElem?_eq_some_iff.1 hk).1; omega)).trans hk
theorem new_at {w : World} {o : Obj} {k : Nat} (h : w.heap.size = k) : (w.alloc o).heap[k]? = some o := by subst h; exact heap_alloc_new w o
theorem more {W wx : World} (h : Below W.heap.size W wx) (o : Obj) : Below W.heap.size W (wx.alloc o) := h.alloc h.size o
theorem addr_add (b off i : Nat) : (⟨b, off, none⟩ : Addr).add i = ⟨b, off + i, none⟩ := by
  unfold Addr.add
  split
  · rename_i h; subst h; rfl
  · rfl
theorem set_at {w : World} {b t : Nat} {cur cur' : Array Value} (h : w.heap[b]? = some (.cells cur t (0, 0))) (i : Nat) (x : Value) (hc : cur.setIfInBounds i x = cur') : (w.setCell ⟨b, i, none⟩ x).heap[b]? = some (.cells cur' t (0, 0)) := by
  subst hc
  exact heap_setCell_same w b i cur t x h
theorem row_kept {w w' : World} {base e sz : Nat} {v : Value} {n : Nat} {xs : List Value} (h : w.ownsRow base e sz v n xs) (hk : ∀ g, v.ownBlock = some g → w'.heap[g]? = w.heap[g]?) : w'.ownsRow base e sz v n xs := by
  obtain ⟨h1, h2 | ⟨g, cap, cur, rfl, hb, hg, r⟩⟩ := h
  · exact ⟨h1, .inl h2⟩
  · exact ⟨h1, .inr ⟨g, cap, cur, rfl, hb, (hk g rfl).trans hg, r⟩⟩
theorem row_lt {w : World} {base e sz : Nat} {v : Value} {n : Nat} {xs : List Value} (h : w.ownsRow base e sz v n xs) {g : Nat} (hg : v.ownBlock = some g) : base ≤ g ∧ g < w.heap.size := by
  obtain ⟨h1, ⟨rfl, _⟩ | ⟨g', cap, cur, rfl, hb, hh, _⟩⟩ := h
  · simp [Value.ownBlock] at hg
  · simp only [Value.ownBlock, Option.some.injEq] at hg
    subst hg
    exact ⟨hb, (Array.getElem?_eq_some_iff.1 hh).1⟩
theorem own_slice {w : World} {base e sz : Nat} {v : Value} {n : Nat} {xs : List Value} (h : w.ownsRow base e sz v n xs) : ∃ o c, v = .slice o n c := by
  obtain ⟨_, ⟨e1, e2⟩ | ⟨g, cap, cur, e1, _⟩⟩ := h
  · subst e2; exact ⟨_, _, e1⟩
  · exact ⟨_, _, e1⟩
theorem own_at {w : World} {base e sz : Nat} {v : Value} {n : Nat} {xs : List Value} (h : w.ownsRow base e sz v n xs) (hn : 0 < n) : ∃ g cap, v = .slice (some ⟨g, 0, none⟩) n cap ∧ n ≤ cap ∧ cap ≤ maxLen ∧ (∀ i u, xs[i]? = some u → w.cell? ⟨g, i, none⟩ = some u) ∧ ∀ i, w.frozen? ⟨g, i, none⟩ = false := by
  obtain ⟨h1, ⟨_, e2⟩ | ⟨g, cap, cur, e1, hb, hh, hc, hm, hs, ht⟩⟩ := h
  · omega
  · refine ⟨g, cap, e1, hc, hm, fun i u hu => cell_of hh ?_, fun i => frozen_of hh i⟩
    have hi : i < n * sz := by rw [← h1]; exact (List.getElem?_eq_some_iff.1 hu).1
    rw [← ht, List.getElem?_take_of_lt hi] at hu
    simpa using hu
theorem own_cap {w : World} {base e sz : Nat} {o : Option Addr} {m c n : Nat} {xs : List Value} (h : w.ownsRow base e sz (.slice o m c) n xs) : m = n ∧ n ≤ c ∧ c ≤ maxLen := by
  obtain ⟨_, ⟨e1, e2⟩ | ⟨g, cap, cur, e1, hb, hh, hc, hm, hs, ht⟩⟩ := h
  · simp only [Value.slice.injEq] at e1
    obtain ⟨_, rfl, rfl⟩ := e1
    exact ⟨e2.symm, by omega, by simp [maxLen]⟩
  · simp only [Value.slice.injEq] at e1
    obtain ⟨_, rfl, rfl⟩ := e1
    exact ⟨rfl, hc, hm⟩

/-- Whose a block is: 0 the group's own, 1 what is chosen, 2 the letters', 3 and more a peer's. -/
abbrev Lb := Nat → Option Nat
def lab (O : Lb) (b l : Nat) : Lb := fun x => if x = b then some l else O x
theorem lab_at (O : Lb) (b l : Nat) : lab O b l b = some l := by simp [lab]
theorem lab_ne (O : Lb) {b x : Nat} (l : Nat) (h : x ≠ b) : lab O b l x = O x := by simp [lab, h]

structure Sta (M : Fz) (O : Lb) (w : World) : Prop where
  inn : In M w
  ok : ∀ b l, O b = some l → M b = none ∧ b < w.heap.size

/-- What a call leaves: only blocks of owners in S are written, or new ones. -/
structure Aft (S : Nat → Prop) (M : Fz) (O : Lb) (w : World) (M' : Fz) (O' : Lb) (w' : World) : Prop where
  os : w'.os = w.os
  tape : w'.tape = w.tape
  output : w'.output = w.output
  size : w.heap.size ≤ w'.heap.size
  le : Le M M'
  inn : In M' w'
  lab : ∀ b, b < w.heap.size → O' b = O b
  ok : ∀ b l, O' b = some l → M' b = none ∧ b < w'.heap.size
  newM : ∀ b, M' b ≠ none → M b ≠ none ∨ w.heap.size ≤ b
  newL : ∀ b l, w.heap.size ≤ b → O' b = some l → S l
  keep : ∀ b, b < w.heap.size → (∀ l, O b = some l → ¬ S l) → w'.heap[b]? = w.heap[b]?

section
variable {S : Nat → Prop} {M M' M'' : Fz} {O O' O'' : Lb} {w w' w'' : World}
theorem Aft.sta (h : Aft S M O w M' O' w') : Sta M' O' w' := ⟨h.inn, h.ok⟩
theorem Aft.refl (S : Nat → Prop) (h : Sta M O w) : Aft S M O w M O w :=
  ⟨rfl, rfl, rfl, Nat.le_refl _, Le.refl _, h.inn, fun _ _ => rfl, h.ok, fun _ hb => .inl hb, fun b l hb hl => by have := (h.ok b l hl).2; omega, fun _ _ _ => rfl⟩
theorem Aft.trans (h : Aft S M O w M' O' w') (k : Aft S M' O' w' M'' O'' w'') : Aft S M O w M'' O'' w'' where
  os := k.os.trans h.os
  tape := k.tape.trans h.tape
  output := k.output.trans h.output
  size := Nat.le_trans h.size k.size
  le := h.le.trans k.le
  inn := k.inn
  lab := fun b hb => (k.lab b (Nat.lt_of_lt_of_le hb h.size)).trans (h.lab b hb)
  ok := k.ok
  newM := fun b hb => by
    rcases k.newM b hb with h1 | h1
    · exact h.newM b h1
    · exact .inr (Nat.le_trans h.size h1)
  newL := fun b l hb hl => by
    by_cases hlt : b < w'.heap.size
    · rw [k.lab b hlt] at hl; exact h.newL b l hb hl
    · exact k.newL b l (by omega) hl
  keep := fun b hb hs => (k.keep b (Nat.lt_of_lt_of_le hb h.size) (fun l hl => hs l (by rw [← h.lab b hb]; exact hl))).trans (h.keep b hb hs)
theorem Aft.mono {S' : Nat → Prop} (h : Aft S M O w M' O' w') (hs : ∀ l, S l → S' l) : Aft S' M O w M' O' w' :=
  ⟨h.os, h.tape, h.output, h.size, h.le, h.inn, h.lab, h.ok, h.newM, fun b l hb hl => hs l (h.newL b l hb hl), fun b hb hk => h.keep b hb (fun l hl hS => hk l hl (hs l hS))⟩
theorem Aft.below (h : Aft S M O w M' O' w') (hb : Below w'.heap.size w' w'') : Aft S M O w M' O' w'' where
  os := hb.os.trans h.os
  tape := hb.tape.trans h.tape
  output := hb.output.trans h.output
  size := Nat.le_trans h.size hb.size
  le := h.le
  inn := h.inn.below hb
  lab := h.lab
  ok := fun b l hl => ⟨(h.ok b l hl).1, Nat.lt_of_lt_of_le (h.ok b l hl).2 hb.size⟩
  newM := h.newM
  newL := h.newL
  keep := fun b hlt hs => (hb.block b (Nat.lt_of_lt_of_le hlt h.size)).trans (h.keep b hlt hs)
theorem Aft.alloc (h : Aft S M O w M' O' w') (o : Obj) : Aft S M O w M' O' (w'.alloc o) := h.below ((Below.refl _ _).alloc (Nat.le_refl _) o)
theorem Aft.drew (h : Aft S M O w M' O' w') : Aft S M O w M' O' w'.drew := h.below (Below.refl _ _).drew
theorem Aft.set (h : Aft S M O w M' O' w') {b l : Nat} (hl : O' b = some l) (hs : S l) (i : Nat) (v : Value) : Aft S M O w M' O' (w'.setCell ⟨b, i, none⟩ v) where
  os := h.os
  tape := h.tape
  output := h.output
  size := by simpa using h.size
  le := h.le
  inn := h.inn.set (h.ok b l hl).1 v
  lab := h.lab
  ok := fun b' l' hl' => ⟨(h.ok b' l' hl').1, by simpa using (h.ok b' l' hl').2⟩
  newM := h.newM
  newL := h.newL
  keep := fun b' hlt hk => (Below.heap_setCell w' ⟨b, i, none⟩ v b' (fun e => by
    subst e
    exact hk l (by rw [← h.lab b' hlt]; exact hl) hs)).trans (h.keep b' hlt hk)
theorem Aft.grown (h : Aft S M O w M' O' w') {row : Option Nat} (g : w'.grownBy w'' row) (hr : ∀ b, row = some b → ∃ l, O' b = some l ∧ S l) : Aft S M O w M' O' w'' where
  os := g.os.trans h.os
  tape := g.tape.trans h.tape
  output := g.output.trans h.output
  size := Nat.le_trans h.size g.size
  le := h.le
  inn := h.inn.grown g (fun k hk => by
    obtain ⟨l, h1, _⟩ := hr k hk
    exact (h.ok k l h1).1)
  lab := h.lab
  ok := fun b l hl => ⟨(h.ok b l hl).1, Nat.lt_of_lt_of_le (h.ok b l hl).2 g.size⟩
  newM := h.newM
  newL := h.newL
  keep := fun b hlt hk => (g.block b (Nat.lt_of_lt_of_le hlt h.size) (fun e => by
    obtain ⟨l, h1, h2⟩ := hr b e.symm
    exact hk l (by rw [← h.lab b hlt]; exact h1) h2)).trans (h.keep b hlt hk)
/-- A new block is written no more. -/
theorem Aft.freeze (h : Aft S M O w M' O' w') {b : Nat} {o : Obj} (hb : w.heap.size ≤ b) (ho : w'.heap[b]? = some o) (hl : O' b = none) (hm : M' b = none) : Aft S M O w (add M' b o) O' w' where
  os := h.os
  tape := h.tape
  output := h.output
  size := h.size
  le := h.le.trans (Le.add hm o)
  inn := h.inn.add ho
  lab := h.lab
  ok := fun x l hx => ⟨by
    have : x ≠ b := fun e => by rw [e, hl] at hx; cases hx
    rw [add_other this]; exact (h.ok x l hx).1, (h.ok x l hx).2⟩
  newM := fun x hx => by
    by_cases e : x = b
    · exact .inr (by omega)
    · rw [add_other e] at hx; exact h.newM x hx
  newL := h.newL
  keep := h.keep
/-- Many new blocks are written no more. -/
theorem Aft.freezes {M2 : Fz} (h : Aft S M O w M' O' w') (hl : Le M' M2) (hI : In M2 w') (hn : ∀ b, M2 b ≠ none → M' b ≠ none ∨ w.heap.size ≤ b) (hf : ∀ b l, O' b = some l → M2 b = none) : Aft S M O w M2 O' w' where
  os := h.os
  tape := h.tape
  output := h.output
  size := h.size
  le := h.le.trans hl
  inn := hI
  lab := h.lab
  ok := fun x l hx => ⟨hf x l hx, (h.ok x l hx).2⟩
  newM := fun x hx => by
    rcases hn x hx with h1 | h1
    · exact h.newM x h1
    · exact .inr h1
  newL := h.newL
  keep := h.keep
/-- A new block is somebody's. -/
theorem Aft.label (h : Aft S M O w M' O' w') {b l : Nat} (hb : w.heap.size ≤ b) (hlt : b < w'.heap.size) (hm : M' b = none) (hs : S l) : Aft S M O w M' (grp.lab O' b l) w' where
  os := h.os
  tape := h.tape
  output := h.output
  size := h.size
  le := h.le
  inn := h.inn
  lab := fun x hx => (lab_ne O' l (by omega)).trans (h.lab x hx)
  ok := fun x l' hx => by
    by_cases e : x = b
    · subst e; exact ⟨hm, hlt⟩
    · rw [lab_ne O' l e] at hx; exact h.ok x l' hx
  newM := h.newM
  newL := fun x l' hx hl' => by
    by_cases e : x = b
    · subst e; rw [lab_at] at hl'; exact (Option.some.inj hl') ▸ hs
    · rw [lab_ne O' l e] at hl'; exact h.newL x l' hx hl'
  keep := h.keep
theorem Sta.fresh (h : Sta M O w) {b : Nat} (hb : w.heap.size ≤ b) : O b = none ∧ M b = none := by
  refine ⟨?_, h.inn.fresh hb⟩
  cases e : O b with
  | none => rfl
  | some l => have := (h.ok b l e).2; omega
theorem Sta.below (h : Sta M O w) (hb : Below w.heap.size w w') : Sta M O w' := ((Aft.refl (fun _ => True) h).below hb).sta
end

/-- A peer at work. -/
structure Nd (w : World) (M : Fz) (O : Lb) (b k : Nat) (p : Peer) (us : List RV) (lv vv nv mv : Value) : Prop where
  blk : w.heap[b]? = some (.cells #[.int .i64 p.term, .int .i64 p.vote, lv, .int .i64 k, .bool p.up, .int .i64 p.commit, .int .i64 p.role, vv, nv, mv] 110 (0, 0))
  own : O b = some (3 + k)
  log : w.ownsRow 0 38 3 lv us.length (us.flatMap recCells)
  recs : us.map (·.r) = p.log
  data : ∀ x ∈ us, BytesM M x.dv x.r.data ∧ x.r.data.length ≤ 1000
  votes : w.ownsRow 0 4 1 vv p.votes.length (p.votes.map Value.bool)
  next : w.ownsRow 0 3 1 nv p.next.length (p.next.map fun (n : Nat) => Value.int .i64 (n : Int))
  mat : w.ownsRow 0 3 1 mv p.mat.length (p.mat.map fun (n : Nat) => Value.int .i64 (n : Int))
  lab : ∀ v ∈ [lv, vv, nv, mv], ∀ g, v.ownBlock = some g → O g = some (3 + k)
  apart : ∀ g, nv.ownBlock = some g → mv.ownBlock ≠ some g
def Nod (w : World) (M : Fz) (O : Lb) (b k : Nat) (p : Peer) : Prop := ∃ us lv vv nv mv, Nd w M O b k p us lv vv nv mv

theorem type_ne {w : World} {base e sz : Nat} {v : Value} {n : Nat} {xs : List Value} (h : w.ownsRow base e sz v n xs) {b : Nat} {cur : Array Value} {t : Nat} (hb : w.heap[b]? = some (.cells cur t (0, 0))) (ht : t ≠ e) : v.ownBlock ≠ some b := fun hg => by
  obtain ⟨h1, ⟨rfl, _⟩ | ⟨g', cap, cur', rfl, _, hh, _⟩⟩ := h
  · simp [Value.ownBlock] at hg
  · simp only [Value.ownBlock, Option.some.injEq] at hg
    subst hg
    rw [hb] at hh
    simp only [Option.some.injEq, Obj.cells.injEq] at hh
    exact ht hh.2.1

section
variable {w w' : World} {M M' : Fz} {O O' : Lb} {b k : Nat} {p p' : Peer} {us : List RV} {lv vv nv mv : Value}
theorem Nd.keep (h : Nd w M O b k p us lv vv nv mv) (hk : ∀ x, O x = some (3 + k) → w'.heap[x]? = w.heap[x]?) (hl : Le M M') (ho : ∀ x, O x = some (3 + k) → O' x = some (3 + k)) : Nd w' M' O' b k p us lv vv nv mv where
  blk := (hk b h.own).trans h.blk
  own := ho b h.own
  log := row_kept h.log fun g hg => hk g (h.lab lv (by simp) g hg)
  recs := h.recs
  data := fun x hx => ⟨(h.data x hx).1.le hl, (h.data x hx).2⟩
  votes := row_kept h.votes fun g hg => hk g (h.lab vv (by simp) g hg)
  next := row_kept h.next fun g hg => hk g (h.lab nv (by simp) g hg)
  mat := row_kept h.mat fun g hg => hk g (h.lab mv (by simp) g hg)
  lab := fun v hv g hg => ho g (h.lab v hv g hg)
  apart := h.apart
theorem Nd.ne (h : Nd w M O b k p us lv vv nv mv) : lv.ownBlock ≠ some b ∧ vv.ownBlock ≠ some b ∧ nv.ownBlock ≠ some b ∧ mv.ownBlock ≠ some b :=
  ⟨type_ne h.log h.blk (by decide), type_ne h.votes h.blk (by decide), type_ne h.next h.blk (by decide), type_ne h.mat h.blk (by decide)⟩
/-- Cells of a peer are set: its lists stay, or are gone. -/
theorem Nd.put (h : Nd w M O b k p us lv vv nv mv) (p' : Peer) {vv' nv' mv' : Value} (hb : w'.heap[b]? = some (.cells #[.int .i64 p'.term, .int .i64 p'.vote, lv, .int .i64 k, .bool p'.up, .int .i64 p'.commit, .int .i64 p'.role, vv', nv', mv'] 110 (0, 0)))
    (hk : ∀ x, x ≠ b → w'.heap[x]? = w.heap[x]?) (hl : p'.log = p.log) (hv : (vv' = vv ∧ p'.votes = p.votes) ∨ (vv' = .slice none 0 0 ∧ p'.votes = [])) (hn : (nv' = nv ∧ p'.next = p.next) ∨ (nv' = .slice none 0 0 ∧ p'.next = []))
    (hm : (mv' = mv ∧ p'.mat = p.mat) ∨ (mv' = .slice none 0 0 ∧ p'.mat = [])) : Nd w' M O b k p' us lv vv' nv' mv' := by
  obtain ⟨n1, n2, n3, n4⟩ := h.ne
  have r1 := row_kept (w' := w') h.log fun g hg => hk g (fun e => n1 (e ▸ hg))
  have r2 := row_kept (w' := w') h.votes fun g hg => hk g (fun e => n2 (e ▸ hg))
  have r3 := row_kept (w' := w') h.next fun g hg => hk g (fun e => n3 (e ▸ hg))
  have r4 := row_kept (w' := w') h.mat fun g hg => hk g (fun e => n4 (e ▸ hg))
  refine ⟨hb, h.own, r1, by rw [hl]; exact h.recs, h.data, ?_, ?_, ?_, ?_, ?_⟩
  · rcases hv with ⟨rfl, e⟩ | ⟨rfl, e⟩
    · rw [e]; exact r2
    · rw [e]; exact World.ownsRow_nil w' 0 4 1
  · rcases hn with ⟨rfl, e⟩ | ⟨rfl, e⟩
    · rw [e]; exact r3
    · rw [e]; exact World.ownsRow_nil w' 0 3 1
  · rcases hm with ⟨rfl, e⟩ | ⟨rfl, e⟩
    · rw [e]; exact r4
    · rw [e]; exact World.ownsRow_nil w' 0 3 1
  · intro v hv' g hg
    simp only [List.mem_cons, List.not_mem_nil, or_false] at hv'
    rcases hv' with rfl | rfl | rfl | rfl
    · exact h.lab _ (by simp) g hg
    · rcases hv with ⟨rfl, _⟩ | ⟨rfl, _⟩
      · exact h.lab _ (by simp) g hg
      · simp [Value.ownBlock] at hg
    · rcases hn with ⟨rfl, _⟩ | ⟨rfl, _⟩
      · exact h.lab _ (by simp) g hg
      · simp [Value.ownBlock] at hg
    · rcases hm with ⟨rfl, _⟩ | ⟨rfl, _⟩
      · exact h.lab _ (by simp) g hg
      · simp [Value.ownBlock] at hg
  · intro g hg
    rcases hn with ⟨rfl, _⟩ | ⟨rfl, _⟩
    · rcases hm with ⟨rfl, _⟩ | ⟨rfl, _⟩
      · exact h.apart g hg
      · simp [Value.ownBlock]
    · simp [Value.ownBlock] at hg
end

/-- A letter's cells. -/
def letter (x : MV) (nx : Option Nat) : Array Value := #[.int .i64 x.m.kind, .int .i64 x.m.frm, .int .i64 x.m.to, .int .i64 x.m.term, .int .i64 x.m.a, .int .i64 x.m.b, .int .i64 x.m.c, .bool x.m.ok, x.lv, .pointer (nx.map fun b => ⟨b, 0, none⟩)]
def mv0 : MV := ⟨⟨0, 0, 0, 0, 0, 0, 0, false, []⟩, .slice none 0 0⟩
/-- The letters on their way: a head, and a block each. -/
structure Pst (w : World) (M : Fz) (O : Lb) (hd : Nat) (bs : List Nat) (us : List MV) : Prop where
  len : bs.length = us.length
  nodup : (hd :: bs).Nodup
  lab : ∀ b ∈ hd :: bs, O b = some 2
  blk : ∀ (i b : Nat) (x : MV), (hd :: bs)[i]? = some b → (mv0 :: us)[i]? = some x → w.heap[b]? = some (.cells (letter x bs[i]?) 100 (0, 0))
  logs : ∀ x ∈ us, RecsM M x.lv x.m.log
theorem Pst.keep {w w' : World} {M M' : Fz} {O O' : Lb} {hd : Nat} {bs : List Nat} {us : List MV} (h : Pst w M O hd bs us) (hk : ∀ x, O x = some 2 → w'.heap[x]? = w.heap[x]?) (hl : Le M M') (ho : ∀ x, O x = some 2 → O' x = some 2) : Pst w' M' O' hd bs us where
  len := h.len
  nodup := h.nodup
  lab := fun b hb => ho b (h.lab b hb)
  blk := fun i b x hb hx => (hk b (h.lab b (List.mem_iff_getElem?.2 ⟨i, hb⟩))).trans (h.blk i b x hb hx)
  logs := fun x hx => (h.logs x hx).le hl

/-- What is chosen. -/
structure Chs (w : World) (M : Fz) (O : Lb) (cv : Value) (cs : List RV) : Prop where
  row : w.ownsRow 0 38 3 cv cs.length (cs.flatMap recCells)
  lab : ∀ g, cv.ownBlock = some g → O g = some 1
  data : ∀ x ∈ cs, BytesM M x.dv x.r.data ∧ x.r.data.length ≤ 1000
theorem Chs.keep {w w' : World} {M M' : Fz} {O O' : Lb} {cv : Value} {cs : List RV} (h : Chs w M O cv cs) (hk : ∀ x, O x = some 1 → w'.heap[x]? = w.heap[x]?) (hl : Le M M') (ho : ∀ x, O x = some 1 → O' x = some 1) : Chs w' M' O' cv cs :=
  ⟨row_kept h.row fun g hg => hk g (h.lab g hg), fun g hg => ho g (h.lab g hg), fun x hx => ⟨(h.data x hx).1.le hl, (h.data x hx).2⟩⟩

/-- The group. -/
structure Gr (w : World) (M : Fz) (O : Lb) (d hd : Nat) (nb : List Nat) (c : Cl) (pv cv : Value) (bs : List Nat) (us : List MV) (cs : List RV) : Prop where
  st : Sta M O w
  blk : w.heap[d]? = some (.cells #[.pointer (some ⟨hd, 0, none⟩), .int .i64 us.length, pv, cv, .bool c.conflict] 105 (0, 0))
  own : O d = some 0
  peers : RowM M pv nb.length 1 (nb.map fun b => Value.pointer (some ⟨b, 0, none⟩))
  len : nb.length = c.peers.length
  nodes : ∀ (k b : Nat) (p : Peer), nb[k]? = some b → c.peers[k]? = some p → Nod w M O b k p
  post : Pst w M O hd bs us
  nets : us.map (·.m) = c.net
  chos : Chs w M O cv cs
  chosen : cs.map (·.r) = c.chosen
def G (w : World) (M : Fz) (O : Lb) (d : Nat) (nb : List Nat) (c : Cl) : Prop := ∃ hd pv cv bs us cs, Gr w M O d hd nb c pv cv bs us cs

section
variable {w w' : World} {M M' : Fz} {O O' : Lb} {d hd : Nat} {nb : List Nat} {c : Cl} {pv cv : Value} {bs : List Nat} {us : List MV} {cs : List RV}
theorem lab_of {S : Nat → Prop} (h : Sta M O w) (a : Aft S M O w M' O' w') {l : Nat} : ∀ x, O x = some l → O' x = some l := fun x hx => (a.lab x (h.ok x l hx).2).trans hx
theorem keep_of {S : Nat → Prop} (h : Sta M O w) (a : Aft S M O w M' O' w') {l : Nat} (hl : ¬ S l) : ∀ x, O x = some l → w'.heap[x]? = w.heap[x]? := fun x hx => a.keep x (h.ok x l hx).2 (fun l' hl' => by rw [hx] at hl'; exact (Option.some.inj hl') ▸ hl)
/-- A peer's own blocks were written, or new ones. -/
theorem Gr.node (h : Gr w M O d hd nb c pv cv bs us cs) {k b : Nat} {p' : Peer} (hb : nb[k]? = some b) (a : Aft (· = 3 + k) M O w M' O' w') (hn : Nod w' M' O' b k p') : Gr w' M' O' d hd nb (c.put k p') pv cv bs us cs where
  st := a.sta
  blk := (keep_of h.st a (by omega) d h.own).trans h.blk
  own := lab_of h.st a d h.own
  peers := h.peers.le a.le
  len := by simp [Cl.put]; exact h.len
  nodes := fun j b' p hb' hp => by
    by_cases e : j = k
    · subst e
      have e1 : b' = b := by rw [hb] at hb'; exact (Option.some.inj hb').symm
      have hlt : j < c.peers.length := by have := (List.getElem?_eq_some_iff.1 hb).1; rw [h.len] at this; exact this
      simp only [Cl.put, List.getElem?_set_self hlt, Option.some.injEq] at hp
      subst e1 hp
      exact hn
    · simp only [Cl.put] at hp
      rw [List.getElem?_set_ne (Ne.symm e)] at hp
      obtain ⟨us', lv, vv, nv, mv, hnd⟩ := h.nodes j b' p hb' hp
      exact ⟨us', lv, vv, nv, mv, hnd.keep (keep_of h.st a (by omega)) a.le (lab_of h.st a)⟩
  post := h.post.keep (keep_of h.st a (by omega)) a.le (lab_of h.st a)
  nets := h.nets
  chos := h.chos.keep (keep_of h.st a (by omega)) a.le (lab_of h.st a)
  chosen := h.chosen
/-- Nothing of the group was written. -/
theorem Gr.keep (h : Gr w M O d hd nb c pv cv bs us cs) (a : Aft (fun _ => False) M O w M' O' w') : Gr w' M' O' d hd nb c pv cv bs us cs where
  st := a.sta
  blk := (keep_of h.st a (fun x => x) d h.own).trans h.blk
  own := lab_of h.st a d h.own
  peers := h.peers.le a.le
  len := h.len
  nodes := fun j b' p hb' hp => by
    obtain ⟨us', lv, vv, nv, mv, hnd⟩ := h.nodes j b' p hb' hp
    exact ⟨us', lv, vv, nv, mv, hnd.keep (keep_of h.st a (fun x => x)) a.le (lab_of h.st a)⟩
  post := h.post.keep (keep_of h.st a (fun x => x)) a.le (lab_of h.st a)
  nets := h.nets
  chos := h.chos.keep (keep_of h.st a (fun x => x)) a.le (lab_of h.st a)
  chosen := h.chosen
/-- The letters, or what is chosen, or the group's own block were written. -/
theorem Gr.part (h : Gr w M O d hd nb c pv cv bs us cs) {c' : Cl} {cv' : Value} {bs' : List Nat} {us' : List MV} {cs' : List RV} (a : Aft (fun l => l < 3) M O w M' O' w') (hp : c'.peers = c.peers)
    (hb : w'.heap[d]? = some (.cells #[.pointer (some ⟨hd, 0, none⟩), .int .i64 us'.length, pv, cv', .bool c'.conflict] 105 (0, 0))) (hpost : Pst w' M' O' hd bs' us') (hn : us'.map (·.m) = c'.net) (hc : Chs w' M' O' cv' cs') (hch : cs'.map (·.r) = c'.chosen) : Gr w' M' O' d hd nb c' pv cv' bs' us' cs' where
  st := a.sta
  blk := hb
  own := lab_of h.st a d h.own
  peers := h.peers.le a.le
  len := by rw [hp]; exact h.len
  nodes := fun j b' p hb' hp' => by
    rw [hp] at hp'
    obtain ⟨us', lv, vv, nv, mv, hnd⟩ := h.nodes j b' p hb' hp'
    exact ⟨us', lv, vv, nv, mv, hnd.keep (keep_of h.st a (by omega)) a.le (lab_of h.st a)⟩
  post := hpost
  nets := hn
  chos := hc
  chosen := hch
theorem G.sta (h : G w M O d nb c) : Sta M O w := by obtain ⟨_, _, _, _, _, _, h⟩ := h; exact h.st
theorem G.keep (h : G w M O d nb c) (a : Aft (fun _ => False) M O w M' O' w') : G w' M' O' d nb c := by
  obtain ⟨_, _, _, _, _, _, h⟩ := h
  exact ⟨_, _, _, _, _, _, h.keep a⟩
theorem G.below (h : G w M O d nb c) (hb : Below w.heap.size w w') : G w' M O d nb c := h.keep ((Aft.refl _ h.sta).below hb)
theorem G.node (h : G w M O d nb c) {k b : Nat} {p' : Peer} (hb : nb[k]? = some b) (a : Aft (· = 3 + k) M O w M' O' w') (hn : Nod w' M' O' b k p') : G w' M' O' d nb (c.put k p') := by
  obtain ⟨_, _, _, _, _, _, h⟩ := h
  exact ⟨_, _, _, _, _, _, h.node hb a hn⟩
theorem G.len (h : G w M O d nb c) : nb.length = c.peers.length := by obtain ⟨_, _, _, _, _, _, h⟩ := h; exact h.len
theorem G.at (h : G w M O d nb c) {k b : Nat} (hb : nb[k]? = some b) : Nod w M O b k (c.at k) := by
  have hl := h.len
  obtain ⟨_, _, _, _, _, _, h⟩ := h
  have hlt : k < c.peers.length := by have := (List.getElem?_eq_some_iff.1 hb).1; omega
  have e : c.peers[k]? = some (c.at k) := by rw [Cl.at, List.getD_eq_getElem?_getD, List.getElem?_eq_getElem hlt]; rfl
  exact h.nodes k b (c.at k) hb e
end
/-- What is left behind a call on a peer. -/
def NDid (M : Fz) (O : Lb) (w : World) (b k : Nat) (p' : Peer) (w' : World) : Prop := ∃ M' O', Aft (· = 3 + k) M O w M' O' w' ∧ Nod w' M' O' b k p'
/-- What is left behind a call on the group. -/
def Did (M : Fz) (O : Lb) (w : World) (d : Nat) (nb : List Nat) (c' : Cl) (w' : World) : Prop := ∃ M' O', Aft (fun _ => True) M O w M' O' w' ∧ G w' M' O' d nb c'
theorem NDid.lift {M : Fz} {O : Lb} {w w' : World} {d b k : Nat} {nb : List Nat} {c : Cl} {p' : Peer} (h : NDid M O w b k p' w') (hg : G w M O d nb c) (hb : nb[k]? = some b) : Did M O w d nb (c.put k p') w' := by
  obtain ⟨M', O', a, hn⟩ := h
  exact ⟨M', O', a.mono (fun _ _ => trivial), hg.node hb a hn⟩
theorem NDid.below {M : Fz} {O : Lb} {w w' w'' : World} {b k : Nat} {p' : Peer} (h : NDid M O w b k p' w') (hb : Below w'.heap.size w' w'') : NDid M O w b k p' w'' := by
  obtain ⟨M', O', a, us, lv, vv, nv, mv, hn⟩ := h
  exact ⟨M', O', a.below hb, us, lv, vv, nv, mv, hn.keep (fun x hx => hb.block x (a.ok x _ hx).2) (Le.refl _) (fun _ hx => hx)⟩
theorem NDid.drew {M : Fz} {O : Lb} {w w' : World} {b k : Nat} {p' : Peer} (h : NDid M O w b k p' w') : NDid M O w b k p' w'.drew := h.below (Below.refl _ _).drew
theorem Did.below {M : Fz} {O : Lb} {w w' w'' : World} {d : Nat} {nb : List Nat} {c' : Cl} (h : Did M O w d nb c' w') (hb : Below w'.heap.size w' w'') : Did M O w d nb c' w'' := by
  obtain ⟨M', O', a, hg⟩ := h
  exact ⟨M', O', a.below hb, hg.below hb⟩
theorem Did.drew {M : Fz} {O : Lb} {w w' : World} {d : Nat} {nb : List Nat} {c' : Cl} (h : Did M O w d nb c' w') : Did M O w d nb c' w'.drew := h.below (Below.refl _ _).drew
theorem Did.trans {M M1 : Fz} {O O1 : Lb} {w w1 w' : World} {d : Nat} {nb : List Nat} {c' : Cl} (a : Aft (fun _ => True) M O w M1 O1 w1) (h : Did M1 O1 w1 d nb c' w') : Did M O w d nb c' w' := by
  obtain ⟨M', O', a', hg⟩ := h
  exact ⟨M', O', a.trans a', hg⟩
end Go.Proofs.Ytklkglbimjajnaa.grp
