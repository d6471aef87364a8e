/- Frames one behind the other, in whatever pieces they come: about lists alone. -/
import Derived.Test.YtipcdioolafkpaaChanged
import Derived.Test.YtipcdioolafkpaaFeeds
namespace Go.Proofs.Ytipcdioolafkpaa.parts
open Go.Proofs.Ytipcdioolafkpaa.bytes Go.Proofs.Ytipcdioolafkpaa.put Go.Proofs.Ytipcdioolafkpaa.get Go.Proofs.Ytipcdioolafkpaa.pile Go.Proofs.Ytipcdioolafkpaa.back Go.Proofs.Ytipcdioolafkpaa.crcs Go.Proofs.Ytipcdioolafkpaa.frames Go.Proofs.Ytipcdioolafkpaa.one Go.Proofs.Ytipcdioolafkpaa.many Go.Proofs.Ytipcdioolafkpaa.differ Go.Proofs.Ytipcdioolafkpaa.changed Go.Proofs.Ytipcdioolafkpaa.feeds

theorem frameN_length (xs : List Int) : (frameN xs).length = (putN xs.length).length + (xs.length + 4) := by simp [frameN, four]

/-- A whole frame stands at the beginning. -/
theorem frameAt_whole (xs r : List Int) (hl : xs.length ≤ 4096) : frameAt (frameN xs ++ r) = (-1, xs, (frameN xs).length) := by
  have := frameAt_of xs (four (crcN xs)) r hl rfl
  rw [if_pos rfl] at this
  rw [frameN_length]
  exact this

/-- A number's bytes that are cut off. -/
theorem getR_pre (n : Nat) : ∀ (f k : Nat) (acc : Int) (j : Nat), (putN n).length ≤ f → j < (putN n).length → getR f k acc ((putN n).take j) = (0, 0, 1) := by
  induction n using putN.induct with
  | case1 n h =>
    intro f k acc j hf hj
    rw [putN_lt h] at hf hj ⊢
    simp only [List.length_cons, List.length_nil] at hf hj
    obtain ⟨f', rfl⟩ : ∃ f', f = f' + 1 := ⟨f - 1, by omega⟩
    obtain rfl : j = 0 := by omega
    rfl
  | case2 n h ih =>
    intro f k acc j hf hj
    rw [putN_ge (by omega)] at hf hj ⊢
    simp only [List.length_cons] at hf hj
    obtain ⟨f', rfl⟩ : ∃ f', f = f' + 1 := ⟨f - 1, by omega⟩
    cases j with
    | zero => rfl
    | succ j =>
      rw [List.take_succ_cons, getR_more (by omega)]
      exact ih f' (k + 1) _ j (by omega) (by omega)

/-- A beginning of a frame is not whole yet. -/
theorem frameAt_part (xs : List Int) (hl : xs.length ≤ 4096) (j : Nat) (hj : j < (frameN xs).length) : frameAt ((frameN xs).take j) = (0, [], 0) := by
  have hp := putN_len 8 xs.length (by omega)
  by_cases hc : j < (putN xs.length).length
  · have e : (frameN xs).take j = (putN xs.length).take j := by
      rw [frameN, List.append_assoc, List.take_append_of_le_length (by omega)]
    unfold frameAt
    rw [e, getR_pre xs.length 9 0 0 j hp hc, if_pos rfl]
  · have e : (frameN xs).take j = putN xs.length ++ (xs ++ four (crcN xs)).take (j - (putN xs.length).length) := by
      rw [frameN, List.append_assoc, List.take_append, List.take_of_length_le (by omega)]
    have hg : getR 9 0 0 ((frameN xs).take j) = ((xs.length : Int), (putN xs.length).length, 0) := by
      rw [e]
      have := getR_put xs.length 9 0 0 ((xs ++ four (crcN xs)).take (j - (putN xs.length).length)) hp (.inl rfl)
      simpa using this
    rw [frameN_length] at hj
    unfold frameAt
    rw [hg]
    simp only [Int.toNat_natCast]
    rw [if_neg (by decide), if_neg (by decide), if_neg (by omega), if_pos]
    rw [List.length_take, frameN_length]
    omega

/-- The frames of payloads, one behind the other. -/
def stream (xss : List (List Int)) : List Int := (xss.map frameN).flatten
theorem stream_cons (x : List Int) (xss : List (List Int)) : stream (x :: xss) = frameN x ++ stream xss := by simp [stream]
theorem frameN_pos (xs : List Int) : 0 < (frameN xs).length := by rw [frameN_length]; omega

/-- Of a beginning of frames the whole ones are read; what is left goes on with what has not come yet. -/
theorem all_part : ∀ (xss : List (List Int)) (j f : Nat), (∀ x ∈ xss, x.length ≤ 4096) → ((stream xss).take j).length < f →
    ∃ m, m ≤ xss.length ∧ allF f ((stream xss).take j) = (xss.take m, (stream (xss.take m)).length, 0) ∧ (stream (xss.take m)).length ≤ ((stream xss).take j).length ∧
      ((stream xss).take j).drop (stream (xss.take m)).length ++ (stream xss).drop j = stream (xss.drop m)
  | [], j, f, _, hf => by
    obtain ⟨f', rfl⟩ : ∃ f', f = f' + 1 := ⟨f - 1, by omega⟩
    refine ⟨0, by simp, ?_, by simp [stream], by simp [stream]⟩
    have e : (stream []).take j = [] := by simp [stream]
    have hn : frameAt [] = (0, [], 0) := by unfold frameAt; rw [if_pos (by rfl)]
    rw [e, allF_end (by rw [hn]; decide), hn]
    simp [stream]
  | x :: xss, j, f, hx, hf => by
    obtain ⟨f', rfl⟩ : ∃ f', f = f' + 1 := ⟨f - 1, by omega⟩
    have hxl := hx x (by simp)
    have hpos := frameN_pos x
    rw [stream_cons] at hf ⊢
    by_cases hj : j < (frameN x).length
    · have e : (frameN x ++ stream xss).take j = (frameN x).take j := List.take_append_of_le_length (by omega)
      refine ⟨0, by simp, ?_, by simp [stream], ?_⟩
      · rw [e, allF_end (by rw [frameAt_part x hxl j hj]; decide), frameAt_part x hxl j hj]
        simp [stream]
      · simp only [List.take_zero, List.drop_zero]
        rw [show (stream ([] : List (List Int))).length = 0 by simp [stream], List.drop_zero, List.take_append_drop, stream_cons]
    · have e : (frameN x ++ stream xss).take j = frameN x ++ (stream xss).take (j - (frameN x).length) := by
        rw [List.take_append, List.take_of_length_le (by omega)]
      rw [e, List.length_append] at hf
      obtain ⟨m, hm, h1, h2, h3⟩ := all_part xss (j - (frameN x).length) f' (fun y hy => hx y (by simp [hy])) (by omega)
      refine ⟨m + 1, by simp; omega, ?_, ?_, ?_⟩
      · rw [e, allF_more (by rw [frameAt_whole x _ hxl]), frameAt_whole x _ hxl]
        simp only [List.drop_left]
        rw [h1]
        simp [stream_cons]
      · rw [e, List.take_succ_cons, stream_cons, List.length_append, List.length_append]
        omega
      · rw [e, List.take_succ_cons, stream_cons, List.length_append, List.drop_append, List.drop_append, List.drop_of_length_le (show (frameN x).length ≤ (frameN x).length + (stream (xss.take m)).length by omega), List.drop_of_length_le (show (frameN x).length ≤ j by omega)]
        simp only [List.nil_append, List.drop_succ_cons]
        rw [show (frameN x).length + (stream (xss.take m)).length - (frameN x).length = (stream (xss.take m)).length by omega]
        exact h3

theorem all_full : ∀ (xss : List (List Int)) (f : Nat), (∀ x ∈ xss, x.length ≤ 4096) → (stream xss).length < f → allF f (stream xss) = (xss, (stream xss).length, 0)
  | [], f, _, hf => by
    obtain ⟨f', rfl⟩ : ∃ f', f = f' + 1 := ⟨f - 1, by omega⟩
    have e : stream ([] : List (List Int)) = [] := by simp [stream]
    have hn : frameAt [] = (0, [], 0) := by unfold frameAt; rw [if_pos (by rfl)]
    rw [e, allF_end (by rw [hn]; decide), hn]
    rfl
  | x :: xss, f, hx, hf => by
    obtain ⟨f', rfl⟩ : ∃ f', f = f' + 1 := ⟨f - 1, by omega⟩
    have hxl := hx x (by simp)
    have hpos := frameN_pos x
    rw [stream_cons, List.length_append] at hf
    rw [stream_cons, allF_more (by rw [frameAt_whole x _ hxl]), frameAt_whole x _ hxl]
    simp only [List.drop_left]
    rw [all_full xss f' (fun y hy => hx y (by simp [hy])) (by omega), List.length_append]

theorem feed_all : ∀ (cs : List (List Int)) (held : List Int) (xss : List (List Int)), cs ≠ [] → (∀ x ∈ xss, x.length ≤ 4096) → held ++ cs.flatten = stream xss → (stream xss).length ≤ 65536 → feedF held cs = (xss, [], 0)
  | [], _, _, h, _, _, _ => absurd rfl h
  | [c], held, xss, _, hx, he, hl => by
    have e : held ++ c = stream xss := by simpa using he
    have hlen := congrArg List.length e
    rw [List.length_append] at hlen
    rw [feedF, if_neg (by omega), e, all_full xss _ hx (by omega), if_neg (by simp)]
    simp [feedF]
  | c :: c' :: cs, held, xss, _, hx, he, hl => by
    have e : (held ++ c) ++ (c' :: cs).flatten = stream xss := by rw [← he]; simp
    have hlen := congrArg List.length e
    rw [List.length_append, List.length_append] at hlen
    have hp : held ++ c = (stream xss).take (held ++ c).length := by rw [← e, List.take_left]
    have hd : (stream xss).drop (held ++ c).length = (c' :: cs).flatten := by rw [← e, List.drop_left]
    obtain ⟨m, hm, h1, h2, h3⟩ := all_part xss (held ++ c).length ((held ++ c).length + 1) hx (by rw [← hp]; omega)
    rw [← hp] at h1 h2 h3
    rw [hd] at h3
    have hsl : (stream (xss.drop m)).length ≤ 65536 := by
      rw [← h3, List.length_append, List.length_drop, List.length_append]
      omega
    have ih := feed_all (c' :: cs) ((held ++ c).drop (stream (xss.take m)).length) (xss.drop m) (by simp) (fun y hy => hx y (List.mem_of_mem_drop hy)) h3 hsl
    rw [feedF, if_neg (by omega), h1, if_neg (by simp)]
    simp only
    rw [ih, if_pos rfl, List.take_append_drop]

theorem feed_three (xss : List (List Int)) (hx : ∀ x ∈ xss, x.length ≤ 4096) (hl : (stream xss).length ≤ 65536) (k j : Nat) (hkj : k ≤ j) :
    feedA ((stream xss).take k) [((stream xss).take j).drop k, [], (stream xss).drop j] = (xss, [], 0) := by
  rw [feedA, if_neg (by simp; omega)]
  refine feed_all _ _ xss (by simp) hx ?_ hl
  simp only [List.flatten_cons, List.flatten_nil, List.append_nil, List.nil_append]
  rw [← List.append_assoc]
  have : (stream xss).take k ++ ((stream xss).take j).drop k = (stream xss).take j := by
    have h1 : (stream xss).take k = ((stream xss).take j).take k := by rw [List.take_take, Nat.min_eq_left hkj]
    rw [h1, List.take_append_drop]
  rw [this, List.take_append_drop]

theorem unf_full (xss : List (List Int)) (hx : ∀ x ∈ xss, x.length ≤ 4096) (hl : (stream xss).length ≤ 65536) : unfA (stream xss) = (xss, (stream xss).length, 0) := by
  rw [unfA, if_neg (by omega), all_full xss _ hx (by omega), if_pos rfl]
theorem unf_part (xss : List (List Int)) (hx : ∀ x ∈ xss, x.length ≤ 4096) (hl : (stream xss).length ≤ 65536) (k : Nat) :
    ∃ m, m ≤ xss.length ∧ unfA ((stream xss).take k) = (xss.take m, (stream (xss.take m)).length, 0) ∧ (stream (xss.take m)).length ≤ k := by
  obtain ⟨m, hm, h1, h2, _⟩ := all_part xss k (((stream xss).take k).length + 1) hx (by omega)
  refine ⟨m, hm, ?_, by rw [List.length_take] at h2; omega⟩
  rw [unfA, if_neg (by simp; omega), h1, if_pos rfl]
end Go.Proofs.Ytipcdioolafkpaa.parts
