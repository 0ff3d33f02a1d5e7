/- A stable order of indices by insertion, plain; rows of numbers that are their own; the comparison of strips. -/
import Derived.Test.YtgkonocjafoblaaVb
import Derived.Laws.OwnMore
set_option linter.unusedVariables false
namespace Go.Proofs.Ytgkonocjafoblaa
open Go Go.RowKit Go.Ab
/-- longer, or of one length and before it -/
def Bf (x : Nat → Nat) (i j : Nat) : Prop := x j < x i ∨ (x i = x j ∧ i < j)
/-- the first i indices in their order, the others where they were -/
structure Ord (x p : Nat → Nat) (i : Nat) : Prop where
  bf : ∀ a b, a < b → b < i → Bf x (p a) (p b)
  lt : ∀ a, a < i → p a < i
  on : ∀ q, i ≤ q → p q = q
  all : ∀ q, q < i → ∃ a, a < i ∧ p a = q
theorem Ord.one (x : Nat → Nat) : Ord x (fun q => q) 1 := ⟨fun a b h1 h2 => by omega, fun a h => h, fun q _ => rfl, fun q h => ⟨q, h, rfl⟩⟩
theorem Ord.zero (x : Nat → Nat) : Ord x (fun q => q) 0 := ⟨fun a b h1 h2 => by omega, fun a h => h, fun q _ => rfl, fun q h => ⟨q, h, rfl⟩⟩
/-- i taken to the place j, those from j on moved up by one -/
def insA (p : Nat → Nat) (i j a : Nat) : Nat := if a < j then p a else if a = j then i else if a ≤ i then p (a - 1) else a
theorem insA_low {p : Nat → Nat} {i j a : Nat} (h : a < j) : insA p i j a = p a := if_pos h
theorem insA_at (p : Nat → Nat) (i j : Nat) : insA p i j j = i := by unfold insA; simp
theorem insA_up {p : Nat → Nat} {i j a : Nat} (h : j < a) (h2 : a ≤ i) : insA p i j a = p (a - 1) := by unfold insA; rw [if_neg (by omega), if_neg (by omega), if_pos h2]
theorem insA_off {p : Nat → Nat} {i j a : Nat} (hj : j ≤ i) (h : i < a) : insA p i j a = a := by unfold insA; rw [if_neg (by omega), if_neg (by omega), if_neg (by omega)]
theorem Ord.ins {x p : Nat → Nat} {i j : Nat} (h : Ord x p i) (hj : j ≤ i) (hup : ∀ a, j ≤ a → a < i → x (p a) < x i) (hlow : j = 0 ∨ ¬ x (p (j - 1)) < x i) : Ord x (insA p i j) (i + 1) := by
  have hge : ∀ a, a < j → Bf x (p a) i := fun a ha => by
    have h1 := h.lt a (by omega)
    rcases hlow with h0 | h0
    · omega
    · by_cases e : a = j - 1
      · subst e; unfold Bf; omega
      · have := h.bf a (j - 1) (by omega) (by omega)
        unfold Bf at *; omega
  refine ⟨fun a b hab hb => ?_, fun a ha => ?_, fun q hq => insA_off hj (by omega), fun q hq => ?_⟩
  · rcases Nat.lt_trichotomy a j with h1 | h1 | h1
    · rw [insA_low h1]
      rcases Nat.lt_trichotomy b j with h2 | h2 | h2
      · rw [insA_low h2]; exact h.bf a b hab (by omega)
      · subst h2; rw [insA_at]; exact hge a h1
      · rw [insA_up h2 (by omega)]; exact h.bf a (b - 1) (by omega) (by omega)
    · subst h1
      rw [insA_at, insA_up hab (by omega)]
      exact .inl (hup (b - 1) (by omega) (by omega))
    · rw [insA_up h1 (by omega), insA_up (by omega) (by omega)]
      exact h.bf (a - 1) (b - 1) (by omega) (by omega)
  · rcases Nat.lt_trichotomy a j with h1 | h1 | h1
    · rw [insA_low h1]; have := h.lt a (by omega); omega
    · subst h1; rw [insA_at]; omega
    · rw [insA_up h1 (by omega)]; have := h.lt (a - 1) (by omega); omega
  · by_cases e : q = i
    · exact ⟨j, by omega, by rw [insA_at, e]⟩
    · obtain ⟨a, ha, rfl⟩ := h.all q (by omega)
      by_cases e2 : a < j
      · exact ⟨a, by omega, insA_low e2⟩
      · exact ⟨a + 1, by omega, by rw [insA_up (by omega) (by omega)]; simp⟩
theorem insA_start {x p : Nat → Nat} {i : Nat} (h : Ord x p i) : ∀ a, insA p i i a = p a := fun a => by
  rcases Nat.lt_trichotomy a i with h1 | h1 | h1
  · exact insA_low h1
  · subst h1; rw [insA_at, h.on a (Nat.le_refl _)]
  · rw [insA_off (Nat.le_refl _) h1, h.on a (by omega)]
/-- one exchange -/
theorem insA_swap {p : Nat → Nat} {i j : Nat} (h1 : 1 ≤ j) (hj : j ≤ i) (a : Nat) : insA p i (j - 1) a = if a = j - 1 then i else if a = j then p (j - 1) else insA p i j a := by
  by_cases e1 : a = j - 1
  · subst e1; rw [if_pos rfl, insA_at]
  · rw [if_neg e1]
    by_cases e2 : a = j
    · subst e2; rw [if_pos rfl, insA_up (by omega) hj]
    · rw [if_neg e2]
      by_cases e3 : a < j
      · rw [insA_low (by omega), insA_low e3]
      · by_cases e4 : a ≤ i
        · rw [insA_up (by omega) e4, insA_up (by omega) e4]
        · rw [insA_off (by omega) (by omega), insA_off (by omega) (by omega)]
def nts (p : Nat → Nat) (k : Nat) : List Value := (List.range k).map fun i => Value.int .i64 (p i : Int)
theorem nts_succ (p : Nat → Nat) (k : Nat) : nts p (k + 1) = nts p k ++ [.int .i64 (p k : Int)] := by
  unfold nts; rw [List.range_succ, List.map_append]; rfl
theorem nts_len (p : Nat → Nat) (k : Nat) : (nts p k).length = k := by unfold nts; simp
theorem nts_get (p : Nat → Nat) (k i : Nat) (h : i < k) : (nts p k)[i]? = some (.int .i64 (p i : Int)) := by
  unfold nts; rw [List.getElem?_map, List.getElem?_range h]; rfl
theorem nts_ext {p q : Nat → Nat} {k : Nat} (h : ∀ i, i < k → p i = q i) : nts p k = nts q k := by
  unfold nts
  exact List.map_congr_left fun i hi => by rw [h i (List.mem_range.1 hi)]
theorem nts_set (p : Nat → Nat) (k j v : Nat) : (nts p k).set j (.int .i64 (v : Int)) = nts (fun a => if a = j then v else p a) k := by
  apply List.ext_getElem?
  intro i
  by_cases hi : i < k
  · rw [nts_get _ _ _ hi, List.getElem?_set]
    by_cases e : j = i
    · subst e; simp [nts_len, hi]
    · rw [if_neg e, nts_get _ _ _ hi, if_neg (fun h => e h.symm)]
  · rw [List.getElem?_eq_none (by rw [List.length_set, nts_len]; omega), List.getElem?_eq_none (by rw [nts_len]; omega)]
/-- a row of its own: the numbers p of the block g -/
def Rw (w : World) (g k c : Nat) (p : Nat → Nat) : Prop := w.ownsRow g 3 1 (.slice (some ⟨g, 0, none⟩) k c) k (nts p k)
theorem Rw.cell {w : World} {g k c : Nat} {p : Nat → Nat} (h : Rw w g k c p) {j : Nat} (hj : j < k) : w.cell? ⟨g, j, none⟩ = some (.int .i64 (p j : Int)) := by
  rw [World.ownsRow.cellAt h j (by omega), nts_get _ _ _ hj]
theorem Rw.frozen {w : World} {g k c : Nat} {p : Nat → Nat} (h : Rw w g k c p) (j : Nat) : w.frozen? ⟨g, j, none⟩ = false := World.ownsRow.frozenAt h j
theorem Rw.set {w : World} {g k c : Nat} {p : Nat → Nat} (h : Rw w g k c p) (j v : Nat) : Rw (w.setCell ⟨g, j, none⟩ (.int .i64 (v : Int))) g k c (fun a => if a = j then v else p a) := by
  have := (World.ownsRow.stored h j (.int .i64 (v : Int))).1
  rw [nts_set] at this
  exact this
theorem Rw.ext {w : World} {g k c : Nat} {p q : Nat → Nat} (h : Rw w g k c p) (e : ∀ i, i < k → p i = q i) : Rw w g k c q := by
  unfold Rw; rw [← nts_ext e]; exact h
theorem Rw.kept {w w' : World} {g k c : Nat} {p : Nat → Nat} (h : Rw w g k c p) (e : w'.heap[g]? = w.heap[g]?) : Rw w' g k c p := by
  rcases h.2 with ⟨h', _⟩ | ⟨g', cap', cur, h', hb, hg, hnc, hcm, hcs, htake⟩
  · simp at h'
  · simp only [Value.slice.injEq, Option.some.injEq, Addr.mk.injEq, and_true, true_and] at h'
    obtain ⟨rfl, rfl⟩ := h'
    exact ⟨h.1, .inr ⟨g, c, cur, rfl, hb, e.trans hg, hnc, hcm, hcs, htake⟩⟩
theorem Rw.lk {w w' : World} {g k c : Nat} {p : Nat → Nat} (h : Rw w g k c p) (e : Lk w w') : Rw w' g k c p := h.kept (by rw [e.1])
/-- a world like another but for one block's cells and for draws -/
def Ob (w w' : World) (g : Nat) : Prop := w.grownBy w' (some g)
theorem Ob.refl (w : World) (g : Nat) : Ob w w g := World.grownBy.refl w _
theorem Ob.set {w w' : World} {g : Nat} (h : Ob w w' g) (j : Nat) (v : Value) : Ob w (w'.setCell ⟨g, j, none⟩ v) g :=
  ⟨h.os, h.tape, h.output, by simpa using h.size, fun k hk hne => by
    rw [← h.block k hk hne]
    exact heap_setCell_other w' ⟨g, j, none⟩ k v (fun e => hne (by simp [e]))⟩
theorem Ob.lk {w w' w2 : World} {g : Nat} (h : Ob w w' g) (k : Lk w' w2) : Ob w w2 g := ⟨k.2.1.trans h.os, k.2.2.1.trans h.tape, k.2.2.2.trans h.output, by rw [k.1]; exact h.size, fun i hi hne => by rw [k.1]; exact h.block i hi hne⟩
theorem Ob.cell {w w' : World} {g : Nat} (h : Ob w w' g) {a : Addr} {v : Value} (hc : w.cell? a = some v) (hne : a.block ≠ g) : w'.cell? a = some v := World.grownBy.cell h hc (by intro e; injection e with e; exact hne e)
theorem Ls.ob {w w' : World} {a : Option Addr} {l g : Nat} {f : Nat → Int} (h : Ls w a l f) (hb : Ob w w' g) (hne : ∀ b off, a = some ⟨b, off, none⟩ → b ≠ g) : Ls w' a l f := by
  rcases h with h | ⟨b, off, e, h⟩
  · exact .inl h
  · exact .inr ⟨b, off, e, fun i hi => ⟨hb.cell (h i hi).1 (hne b off e), (h i hi).2⟩⟩
theorem St.ob {w w' : World} {a : Option Addr} {l N g : Nat} {f : Nat → Int} {x : Nat → Nat} (h : St w a l N f x) (hb : Ob w w' g) (hne : ∀ b off, a = some ⟨b, off, none⟩ → b ≠ g) : St w' a l N f x := ⟨h.s.ob hb hne, h.e, h.b, h.n, h.hl⟩
theorem St.lk {w w' : World} {a : Option Addr} {l N : Nat} {f : Nat → Int} {x : Nat → Nat} (h : St w a l N f x) (hb : Lk w w') : St w' a l N f x := h.below (hb.below (Below.refl _ _))
set_option maxRecDepth 20000 in
set_option maxHeartbeats 1000000 in
theorem cmp_is (bs N l c i j : Nat) (a : Option Addr) (f : Nat → Int) (x : Nat → Nat) (w : World) (HS : Hid (St w a l N f x)) (hb : w.cell? ⟨bs, 0, none⟩ = some (.slice a l c)) (hi : i < l) (hj : j < l) :
    Calls Try.prog 102 #[.int .i64 i, .int .i64 j, .pointer (some ⟨bs, 0, none⟩)] w fun e w' => e = .returned (.int .i64 ((x j : Int) - (x i : Int))) ∧ ∃ n, w' = w.drewN n := by
  have hn2 := HS.out.n.2
  have hl := HS.out.hl
  obtain ⟨b, off, rfl, ci, i1, i2⟩ := HS.out.at hi
  obtain ⟨b', off', e, cj, j1, j2⟩ := HS.out.at hj
  injection e with e
  injection e with e1 e2
  subst e1 e2
  obtain ⟨X, eX⟩ : ∃ X, Hid (X = x i) := ⟨_, hide rfl⟩
  obtain ⟨Y, eY⟩ : ∃ Y, Hid (Y = x j) := ⟨_, hide rfl⟩
  rw [← eX.out] at ci i1 i2
  rw [← eY.out] at cj j1 j2
  rw [← eX.out, ← eY.out]
  go_enter Try.func102, Try.ntmps102
  go_wp2_with fail
  refine wp_region_quiet_lit (by kernel_rfl) (by kernel_rfl) ?_
  repeat (go_big_quiet_step (fail))
  refine wpQuiet_nil ?_
  intro w9 hw9
  obtain ⟨nq, rfl⟩ := hw9
  go_wp2_with fail
  go_ret
  exact ⟨by go_num, nq, rfl⟩
end Go.Proofs.Ytgkonocjafoblaa
