import Derived.Test.YtpgnbjlpkpmpcaaIn
import Derived.Test.YtpgnbjlpkpmpcaaZq
set_option linter.unusedVariables false
namespace Go.Proofs.Ytpgnbjlpkpmpcaa.M
theorem ends {n d : Int} (h : okB n d = true) : ∃ last, Goes n d last ∧ (eN n d last).2 = 1 := by
  have key : ∀ m, (∃ last, Goes n d last ∧ (eN n d last).2 = 1) ∨ Goes n d m := by
    intro m
    induction m with
    | zero => exact .inr fun i hi => by omega
    | succ m ih =>
      rcases ih with ih | ih
      · exact .inl ih
      · by_cases c : (eN n d m).2 = 1
        · exact .inl ⟨m, ih, c⟩
        · exact .inr fun i hi => by
            by_cases e : i = m
            · rw [e]; exact c
            · exact ih i (by omega)
  rcases key 60 with k | k
  · exact k
  · exact absurd (goes_lt h 60 k) (by omega)
end Go.Proofs.Ytpgnbjlpkpmpcaa.M
namespace Go.Proofs.Ytpgnbjlpkpmpcaa.R
open Go.RowKit Go.Proofs.Ytpgnbjlpkpmpcaa.N
theorem Try.info3 : (Try.prog.info? 3).map (fun i => (i.zero, i.size, i.bytes)) = some (some (.int .i64 0), 1, 8) := by kernel_rfl
/-- ints as cells -/
def i64s (ns : Nat → Int) (k : Nat) : List Value := (List.range k).map fun i => Value.int .i64 (ns i)
theorem i64s_succ (ns : Nat → Int) (k : Nat) : i64s ns (k + 1) = i64s ns k ++ [.int .i64 (ns k)] := by
  unfold i64s; rw [List.range_succ, List.map_append]; rfl
theorem i64s_len (ns : Nat → Int) (k : Nat) : (i64s ns k).length = k := by unfold i64s; simp
theorem i64s_get (ns : Nat → Int) (k i : Nat) (h : i < k) : (i64s ns k)[i]? = some (.int .i64 (ns i)) := by
  unfold i64s; rw [List.getElem?_map, List.getElem?_range h]; rfl
theorem owns_below {w w' : World} {B e k n : Nat} {v : Value} {xs : List Value} (h : w.ownsRow B e k v n xs) (hb : Below w.heap.size w w') : w'.ownsRow B e k v n xs := by
  obtain ⟨hl, h | ⟨g, cap, cur, hv, hg, hc, r⟩⟩ := h
  · exact ⟨hl, .inl h⟩
  · refine ⟨hl, .inr ⟨g, cap, cur, hv, hg, ?_, r⟩⟩
    have : g < w.heap.size := by
      rcases Nat.lt_or_ge g w.heap.size with h1 | h1
      · exact h1
      · simp [h1] at hc
    rw [hb.block g this]; exact hc
/-- a row of the call's own, read as a slice of ints -/
theorem ls_of_owns {w : World} {B n : Nat} {v : Value} {ns : Nat → Int} (h : w.ownsRow B 3 1 v n (i64s ns n)) (hi : ∀ i, i < n → In64 (ns i)) : ∃ a cap, v = .slice a n cap ∧ Ls w a n cap ns := by
  obtain ⟨hl, ⟨rfl, rfl⟩ | ⟨g, cap, cur, rfl, hg, hc, hn, hm, hs, ht⟩⟩ := h
  · exact ⟨none, 0, rfl, Nat.le_refl _, .inl rfl⟩
  · refine ⟨_, cap, rfl, hn, .inr ⟨g, 0, rfl, fun i hlt => ?_, hi⟩⟩
    have h' : w.ownsRow B 3 1 (.slice (some ⟨g, 0, none⟩) n cap) n (i64s ns n) := ⟨hl, .inr ⟨g, cap, cur, rfl, hg, hc, hn, hm, hs, ht⟩⟩
    rw [Nat.zero_add, h'.cellAt i (by omega), i64s_get ns n i hlt]
theorem equal_none (w : World) : Calls Try.prog 54 #[.slice none 0 0, .slice none 0 0] w fun e w' => e = .returned (.bool true) ∧ Below w.heap.size w w' := by
  go_enter Try.func54, Try.ntmps54
  go_wp2_with fail
  go_rounds 1
  all_goals go_ret
  all_goals exact ⟨rfl, Below.refl _ _⟩
set_option maxRecDepth 20000 in
set_option maxHeartbeats 1000000 in
theorem equal_same (b off c b' off' c' len : Nat) (ns : Nat → Int) (w : World) (hl : len ≤ 1000000) (HC : Hid (∀ i, i < len → w.cell? ⟨b, off + i, none⟩ = some (.int .i64 (ns i)))) (HD : Hid (∀ i, i < len → w.cell? ⟨b', off' + i, none⟩ = some (.int .i64 (ns i)))) :
    Calls Try.prog 54 #[.slice (some ⟨b, off, none⟩) len c, .slice (some ⟨b', off', none⟩) len c'] w fun e w' => e = .returned (.bool true) ∧ Below w.heap.size w w' := by
  go_enter Try.func54, Try.ntmps54
  go_wp2_with fail
  go_loopw [13] (fun i wr => ∃ k q : Nat, k ≤ len ∧ i = .int .i64 k ∧ wr = w.drewN q) (fun i _ => len - (intOf i).toNat)
  case atStart => exact ⟨0, 0, by omega, rfl, rfl⟩
  case round =>
    obtain ⟨k, q, hk, rfl, rfl⟩ := hrel
    by_cases hlt : k < len
    · have c1 := HC.out k hlt
      have c2 := HD.out k hlt
      go_wp2_with fail
      go_quiet (fail)
      all_goals go_wp2_with fail
      all_goals exact ⟨⟨k + 1, q + nq, by omega, by go_num, rfl⟩, by simp [intOf]; omega⟩
    · go_wp2_with fail
      go_ret
      exact ⟨rfl, below_drewN (Below.refl _ _) _⟩
end Go.Proofs.Ytpgnbjlpkpmpcaa.R
