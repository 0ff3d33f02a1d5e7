/- A region that draws its order, reads, and ends with one operation before which all others stand: one walk in the order of the text serves every order. -/
import Derived.Test.YtgkonocjafoblaaYn
import Derived.Deep.Quiet
namespace Go.Ab
open Go Go.RowKit
section
variable {P : Program} {ops : Array Oper} {C : World → Prop}
/-- the quiet ones in whatever order, the last one left -/
def wpAnyL (P : Program) (ops : Array Oper) (C : World → Prop) (Q : Act → Prop) (last : Nat) : Nat → Array Bool → Act → Prop
  | 0, listed, a => Region.ready .any ops listed = [last] ∧ Region.ready .any ops (listed.setIfInBounds last true) = [] ∧ Q a
  | f + 1, listed, a => last ∉ Region.ready .any ops listed ∧ Region.ready .any ops listed ≠ [] ∧ ∀ i ∈ Region.ready .any ops listed, qOp P ops C i (wpAnyL P ops C Q last f (listed.setIfInBounds i true)) a

theorem wpAny_of_L {Q : Act → Prop} {Q' : Exit → Act → World → Prop} {last : Nat} (hQ : ∀ a w, C w → Q a → wpOp P ops Q' last (fun a' w' => Q' .normal a' w') a w) : ∀ (f : Nat) (listed : Array Bool) (a : Act) (w : World), C w →
    wpAnyL P ops C Q last f listed a → wpAny P .any ops Q' (f + 1) listed a w
  | 0, listed, a, w, hw, h => by
    refine ⟨fun h0 => (by rw [h.1] at h0; cases h0), fun i hi => ?_⟩
    rw [h.1] at hi
    obtain rfl := List.mem_singleton.1 hi
    exact wpOp_mono (fun a' w' h' => ⟨h.2.1, h'⟩) (hQ a w hw h.2.2)
  | f + 1, listed, a, w, hw, h => ⟨fun h0 => absurd h0 h.2.1, fun i hi => wpOp_of_qOp hw (fun a' w' hw' => wpAny_of_L hQ f _ a' w' hw') (h.2.2 i hi)⟩

theorem wpAnyL_first {Q : Act → Prop} {last i : Nat} {oi : Oper} {v : Value} (hi : ops[i]? = some oi) (hil : i ≠ last) (hu : i ∈ under ops last) (hsel : ∀ (j : Nat) (o : Oper) cs b, ops[j]? = some o → o.op ≠ .select cs b) :
    ∀ (f : Nat) (listed : Array Bool) (a : Act), Dn ops listed →
      (∀ j oj, ops[j]? = some oj → j ≠ i → listed.getD j true = false → (∀ e ∈ oj.after, Region.binds .any e = true → e.on ≠ i) → oi.apart ops oj = true) →
      i ∈ Region.ready .any ops listed → YieldsIn P ops C oi v a →
      wpAnyL P ops C Q last f (listed.setIfInBounds i true) (a.put oi.dst v) → wpAnyL P ops C Q last (f + 1) listed a := by
  have nolast : ∀ listed : Array Bool, Dn ops listed → i ∈ Region.ready .any ops listed → last ∉ Region.ready .any ops listed := fun listed hdn hr hl => by
    rcases under_ok hdn hl hu with h | h
    · exact hil h
    · rw [unlisted_of hr] at h; cases h
  intro f
  induction f with
  | zero =>
    intro listed a hdn hfree hr hy H
    refine ⟨nolast listed hdn hr, fun h => (by rw [h] at hr; cases hr), fun j hj => ?_⟩
    by_cases hji : j = i
    · subst hji; exact hy.qOp hi H
    · have h1 := ready_mono hj hji
      rw [H.1] at h1
      obtain rfl := List.mem_singleton.1 h1
      exact absurd hj (nolast listed hdn hr)
  | succ f ih =>
    intro listed a hdn hfree hr hy H
    refine ⟨nolast listed hdn hr, fun h => (by rw [h] at hr; cases hr), fun j hj => ?_⟩
    by_cases hji : j = i
    · subst hji; exact hy.qOp hi H
    · have h1 := H.2.2 j (ready_mono hj hji)
      obtain ⟨hjun, oj, hoj, hall⟩ := mem_ready.1 hj
      have hnot : ∀ e ∈ oj.after, Region.binds .any e = true → e.on ≠ i := fun e he hb heq => by
        have h1 := hall e he hb
        rw [heq, unlisted_of hr] at h1
        cases h1
      have h2 := qOp_put hoj (hfree j oj hoj hji hjun hnot) (fun cs b => hsel i oi cs b hi) (fun cs b => hsel j oj cs b hoj) hy h1
      refine qOp_mono (fun a' h3 => ih (listed.setIfInBounds j true) a' (dn_set hdn hj) (fun k ok hk hki hun hno => ?_) (ready_mono hr (Ne.symm hji)) h3.1 ?_) h2
      · refine hfree k ok hk hki ?_ hno
        by_cases hjk : j = k
        · subst hjk; exact hjun
        · rw [getD_set_ne true hjk] at hun; exact hun
      · rw [Array.setIfInBounds_comm _ _ hji]
        exact h3.2

def allUnder (ops : Array Oper) : Bool := (List.range (ops.size - 1)).all fun k => (under ops (ops.size - 1)).contains k

theorem ready_last {last : Nat} (hsz : ops.size = last + 1) {listed : Array Bool} (h : ∀ j, j < last → listed.getD j true = true) (hl : last ∈ Region.ready .any ops listed) : Region.ready .any ops listed = [last] := by
  have sub : ∀ i ∈ Region.ready .any ops listed, i = last := fun i hi => by
    obtain ⟨h1, o, ho, _⟩ := mem_ready.1 hi
    have hlt : i < ops.size := (Array.getElem?_eq_some_iff.1 ho).1
    rcases Nat.lt_or_ge i last with h2 | h2
    · rw [h i h2] at h1; cases h1
    · omega
  have nd : (Region.ready .any ops listed).Nodup := by unfold Region.ready; exact List.nodup_range.filter _
  cases hr : Region.ready .any ops listed with
  | nil => rw [hr] at hl; cases hl
  | cons x r =>
    have hx := sub x (by rw [hr]; simp)
    cases r with
    | nil => rw [hx]
    | cons y r =>
      have hy := sub y (by rw [hr]; simp)
      rw [hr] at nd
      simp only [List.nodup_cons, List.mem_cons] at nd
      exact absurd (.inl (hx.trans hy.symm)) nd.1
theorem wpAnyL_lex {Q : Act → Prop} (hs : Region.noSelect ops = true) (hu : allUnder ops = true) : ∀ (l : List Oper) (k : Nat) (listed : Array Bool) (a : Act), k + l.length + 1 = ops.size → (∀ j o, l[j]? = some o → ops[k + j]? = some o) → Dn ops listed →
    Region.lexFrom .any ops (l.length + 1) k listed = true → (∀ j, j < k → listed.getD j true = true) → wpQuiet P ops C Q l a → wpAnyL P ops C Q (ops.size - 1) l.length listed a
  | [], k, listed, a, hk, _, _, hB, hlow, h => by
    simp only [List.length_nil, Nat.add_zero] at hk
    rw [List.length_nil, Region.lexFrom, Region.lexFrom] at hB
    simp only [Bool.and_eq_true] at hB
    obtain ⟨⟨hr, _⟩, hB'⟩ := hB
    have hk' : k = ops.size - 1 := by omega
    subst hk'
    exact ⟨ready_last (by omega) hlow (by simpa using hr), by simpa using hB', h⟩
  | o :: l, k, listed, a, hk, hl, hdn, hB, hlow, h => by
    have h0 : ops[k]? = some o := by simpa using hl 0 o rfl
    simp only [List.length_cons] at hk
    rw [List.length_cons, Region.lexFrom] at hB
    rw [Bool.and_eq_true, Bool.and_eq_true] at hB
    obtain ⟨⟨hr, hf⟩, hB'⟩ := hB
    have hr' : k ∈ Region.ready .any ops listed := by simpa using hr
    have hst : qOp P ops C k (wpQuiet P ops C Q l) a := by unfold qOp; simp only [h0]; exact h
    obtain ⟨v, hy, hK⟩ := yieldsIn_of_qOp h0 hst
    have hkl : k ≠ ops.size - 1 := by omega
    have hmem : k ∈ under ops (ops.size - 1) := by
      have := List.all_eq_true.1 hu k (by rw [List.mem_range]; omega)
      simpa using this
    have hlow' : ∀ j, j < k + 1 → (listed.setIfInBounds k true).getD j true = true := fun j hj => by
      by_cases e : k = j
      · subst e
        have hsz : k < listed.size := by
          rcases Nat.lt_or_ge k listed.size with h' | h'
          · exact h'
          · have := (mem_ready.1 hr').1; simp [Array.getElem?_eq_none h'] at this
        simp [hsz]
      · rw [getD_set_ne true e]; exact hlow j (by omega)
    exact wpAnyL_first h0 hkl hmem (Region.noSelect_spec hs) l.length listed a hdn (Region.free_spec h0 hf) hr' hy
      (wpAnyL_lex hs hu l (k + 1) _ _ (by omega) (fun j o' hj => by have := hl (j + 1) o' (by simpa using hj); simpa [Nat.add_assoc, Nat.add_comm 1 j] using this) (dn_set hdn hr') hB' hlow' hK)

theorem wp_region_tail_lit {id : Nat} {L : List Oper} {o : Oper} {Q : Exit → Act → World → Prop} {a : Act} {w : World} (ho : L.getLast? = some o) (hm : P.follows .mixedOrders = true) (hB : Region.lexB .any L.toArray = true) (hu : allUnder L.toArray = true)
    (h : wpQuiet P L.toArray (fun w' => ∃ n, w' = w.drewN n) (fun a' => ∀ w', (∃ n, w' = w.drewN n) → wpList P L.toArray Q [o] a' w') L.dropLast a) : (Code.region id L.toArray true).wp P Q a w := by
  have hne : L ≠ [] := fun e => by subst e; cases ho
  have hlen : L.dropLast.length + 1 = L.length := by rw [List.length_dropLast]; have := List.length_pos_iff.2 hne; omega
  have hlast : L.toArray[L.toArray.size - 1]? = some o := by
    rw [List.getLast?_eq_getElem?] at ho
    simpa using ho
  simp only [Region.lexB, Bool.and_eq_true] at hB
  have hl := wpAnyL_lex (C := fun w' => ∃ n, w' = w.drewN n) hB.1 hu L.dropLast 0 (Array.replicate L.toArray.size false) a (by simp; omega) (fun j o' hj => by
      rw [List.getElem?_dropLast] at hj
      split at hj
      · simpa using hj
      · cases hj) (dn_start _ _) (by rw [hlen]; simpa using hB.2) (fun j hj => by omega) h
  refine wp_region_any hm ?_
  have := wpAny_of_L (Q' := Q) (last := L.toArray.size - 1) (fun a' w' hw' hq => ?_) _ _ _ { w with drawn := w.drawn + 1 } ⟨1, rfl⟩ hl
  · rw [hlen] at this
    exact this
  · have h1 := hq w' hw'
    unfold wpOp
    simp only [hlast]
    exact h1
end
end Go.Ab
