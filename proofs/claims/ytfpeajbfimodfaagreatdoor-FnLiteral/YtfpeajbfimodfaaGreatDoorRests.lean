/- The rest from each letter on answers. -/
import Derived.Test.YtfpeajbfimodfaaGreatDoorKw
namespace Go.Proofs.YtfpeajbfimodfaaGreatDoor.rests
open Go.ChangeShapes Go.WideShapes Go.ChangeAt Go.RowKit
open Go.Proofs.YtfpeajbfimodfaaGreatDoor.bytes Go.Proofs.YtfpeajbfimodfaaGreatDoor.letters Go.Proofs.YtfpeajbfimodfaaGreatDoor.read Go.Proofs.YtfpeajbfimodfaaGreatDoor.places Go.Proofs.YtfpeajbfimodfaaGreatDoor.sets Go.Proofs.YtfpeajbfimodfaaGreatDoor.leaf Go.Proofs.YtfpeajbfimodfaaGreatDoor.tz Go.Proofs.YtfpeajbfimodfaaGreatDoor.net Go.Proofs.YtfpeajbfimodfaaGreatDoor.thr Go.Proofs.YtfpeajbfimodfaaGreatDoor.ask Go.Proofs.YtfpeajbfimodfaaGreatDoor.kn Go.Proofs.YtfpeajbfimodfaaGreatDoor.kw
set_option linter.unusedVariables false

/-- What the rest from letter k on answers, by its kind. -/
structure RestOK (g : Gr) (k : Nat) : Prop where
  last : k = g.ys.length → ∀ p, p ≤ g.ts.length → Asks g k 56 #[.int .i64 (p : Nat)] (restE g.ts (g.ys.drop k) p)
  one : k + 1 = g.ys.length → ∀ p, p ≤ g.ts.length → Asks g k 83 #[.int .i64 (p : Nat), .pointer (some ⟨g.tb k, 0, none⟩), .pointer (some ⟨g.fb k, 0, none⟩)] (restE g.ts (g.ys.drop k) p)
  more : k + 1 < g.ys.length → ∀ p, p ≤ g.ts.length → Asks g k 78 #[.int .i64 (p : Nat), .pointer (some ⟨g.c k + 4, 0, none⟩), .pointer (some ⟨g.c k + 2, 0, none⟩), .pointer (some ⟨g.c k + 5, 0, none⟩), .pointer (some ⟨g.c k + 3, 0, none⟩)] (restE g.ts (g.ys.drop k) p)
theorem leaf_asks (g : Gr) (hg : Geo g) (i k p : Nat) (hk : k < g.ys.length) (hp : p ≤ g.ts.length) : Asks g i 83 #[.int .i64 (p : Nat), .pointer (some ⟨g.tb k, 0, none⟩), .pointer (some ⟨g.fb k, 0, none⟩)] (endsC g.ts (g.ys.getD k 0) p) := by
  intro R w hN
  refine (leaf_any w _ _ (g.rb k) g.ts (g.ys.getD k 0) p hg.len hp hg.bytes (hN.fix.leaf k hk)).mono ?_
  rintro e w' ⟨h1, h2⟩
  exact ⟨h1, hN.st0 hg i h2⟩
theorem rest_ok (g : Gr) (hg : Geo g) : ∀ j k, k + j = g.ys.length → RestOK g k
  | 0, k, h => by
    refine ⟨fun _ p hp R w hN => ?_, fun h' => by omega, fun h' => by omega⟩
    have hd : g.ys.drop k = [] := List.drop_eq_nil_of_le (by omega)
    rw [hd]
    have := hg.len
    refine (only_any w p (by omega)).mono ?_
    rintro e w' ⟨h1, h2⟩
    exact ⟨h1, hN.st0 hg k h2⟩
  | 1, k, h => by
    refine ⟨fun h' => by omega, fun _ p hp => ?_, fun h' => by omega⟩
    rw [restE_drop _ _ _ _ (by omega), List.drop_eq_nil_of_le (by omega : g.ys.length ≤ k + 1)]
    exact leaf_asks g hg k k p (by omega) hp
  | j + 2, k, h => by
    have ih := rest_ok g hg (j + 1) (k + 1) (by omega)
    refine ⟨fun h' => by omega, fun h' => by omega, fun hk p hp => ?_⟩
    refine known_call g hg k p hk hp ?_
    by_cases e : k + 2 = g.ys.length
    · refine ask83 g hg k p (g.tb (k + 1)) (g.fb (k + 1)) hk hp ?_ (ih.one (by omega))
      unfold restV
      rw [if_neg (by omega), if_pos (by omega)]
      rfl
    · refine ask78 g hg k p _ _ _ _ hk hp ?_ (ih.more (by omega))
      unfold restV
      rw [if_neg (by omega), if_neg (by omega)]
end Go.Proofs.YtfpeajbfimodfaaGreatDoor.rests
