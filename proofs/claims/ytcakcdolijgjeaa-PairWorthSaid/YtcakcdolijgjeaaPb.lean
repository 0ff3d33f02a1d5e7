/- The greatest of ints in memory. -/
import Derived.Test.YtcakcdolijgjeaaPa
import Derived.WalkLawsBesides
set_option linter.unusedVariables false
namespace Go.Proofs.Ytcakcdolijgjeaa
open Go Go.RowKit Go.Ab
/-- the greatest of f 0 .. f l -/
def topN (f : Nat → Int) : Nat → Int
  | 0 => f 0
  | n + 1 => if topN f n < f (n + 1) then f (n + 1) else topN f n
set_option maxRecDepth 20000 in
set_option maxHeartbeats 1000000 in
theorem max_is (b off l c : Nat) (f : Nat → Int) (w : World) (hc : ∀ i, i ≤ l → w.cell? ⟨b, off + i, none⟩ = some (.int .i64 (f i))) (hl : l ≤ 1000) :
    Calls Try.prog 106 #[.slice (some ⟨b, off, none⟩) (l + 1) c] w fun e w' => e = .returned (.int .i64 (topN f l)) ∧ w = w' := by
  have H1 := hide hc
  have c0 := hc 0 (by omega)
  rw [Nat.add_zero] at c0
  clear hc
  go_enter Try.func106, Try.ntmps106
  go_wp2_with fail
  go_loop [3, 4] (fun m i => ∃ k : Nat, k ≤ l ∧ i = .int .i64 ((k : Int) + 1) ∧ ∃ v : Int, m = .int .i64 v ∧ Hid (v = topN f k)) (fun m i => l + 1 - (intOf i).toNat)
  case atStart => exact ⟨0, by omega, rfl, _, rfl, hide rfl⟩
  case round =>
    obtain ⟨k, hk, rfl, v, rfl, HV⟩ := hrel
    by_cases hlt : k < l
    · have ck := H1.out (k + 1) (by omega)
      have HN : Hid (topN f (k + 1) = if v < f (k + 1) then f (k + 1) else v) := hide (by rw [HV.out]; rfl)
      go_wp2_with fail
      go_round
      case rel => exact ⟨k + 1, by omega, by go_num, _, rfl, hide HN.out.symm⟩
      case measure => simp [intOf]; omega
    · obtain rfl : k = l := by omega
      go_wp2_with fail
      go_ret
      exact ⟨by rw [← HV.out]; rfl, rfl⟩
end Go.Proofs.Ytcakcdolijgjeaa
namespace Go.Ab
open Go Go.RowKit Go.Proofs Go.Proofs.Ytcakcdolijgjeaa
def topA : Int → List Value → Option Int
  | m, [] => some m
  | m, .int .i64 x :: l => topA (if m < x then x else m) l
  | _, _ => none
def topL : List Value → Option Int
  | .int .i64 x :: l => topA x l
  | _ => none
theorem topA_spec : ∀ (l : List Value) (m v : Int) (f : Nat → Int) (k : Nat), topA m l = some v → m = topN f k → (∀ i x, l[i]? = some (.int .i64 x) → f (k + 1 + i) = x) → v = topN f (k + l.length) ∧ ∀ i, i < l.length → l[i]? = some (.int .i64 (f (k + 1 + i)))
  | [], m, v, f, k, h, hm, hf => by
    simp [topA] at h; subst h; exact ⟨hm, fun i hi => by simp at hi⟩
  | y :: l, m, v, f, k, h, hm, hf => by
    unfold topA at h
    split at h
    · rename_i e; cases e
    · rename_i m' x l' e
      injection e with e1 e2
      subst e1; subst e2
      have hx : f (k + 1) = x := hf 0 x rfl
      obtain ⟨r1, r2⟩ := topA_spec l _ v f (k + 1) h (by show _ = (if topN f k < f (k + 1) then f (k + 1) else topN f k); rw [hx, ← hm]) (fun i x hi => by rw [show k + 1 + 1 + i = k + 1 + (i + 1) by omega]; exact hf (i + 1) x (by simpa using hi))
      refine ⟨by rw [r1, List.length_cons, show k + 1 + l.length = k + (l.length + 1) by omega], fun i hi => ?_⟩
      cases i with
      | zero => simp [hx]
      | succ i => simp at hi; have := r2 i (by omega); rw [show k + 1 + (i + 1) = k + 1 + 1 + i by omega]; simpa using this
    · cases h
theorem topL_spec {l : List Value} {v : Int} (h : topL l = some v) : ∃ f : Nat → Int, 1 ≤ l.length ∧ v = topN f (l.length - 1) ∧ ∀ i, i < l.length → l[i]? = some (.int .i64 (f i)) := by
  unfold topL at h
  split at h
  · rename_i x l'
    let f : Nat → Int := fun i => match (Value.int .i64 x :: l')[i]? with | some (.int _ y) => y | _ => 0
    obtain ⟨r1, r2⟩ := topA_spec l' x v f 0 h rfl (fun i y hi => by show (match (Value.int .i64 x :: l')[0 + 1 + i]? with | some (.int _ y) => y | _ => 0) = y; rw [show 0 + 1 + i = i + 1 by omega, List.getElem?_cons_succ, hi])
    refine ⟨f, by simp, by simpa using r1, fun i hi => ?_⟩
    cases i with
    | zero => rfl
    | succ i => simp at hi; have := r2 i (by omega); rw [show 0 + 1 + i = i + 1 by omega] at this; simpa using this
  · cases h
/-- slices.Max, as it is known -/
def maxMem : Mem := fun f args h =>
  match Nat.beq f 106, args with
  | true, [.slice (some a) n _] => (match Nat.ble n 1000, readN h h.next a n with | true, some l => (match topL l with | some v => some (.int .i64 v) | none => none) | _, _ => none)
  | _, _ => none
theorem readN_cells {P : Program} {w0 w : World} {ρ : Ren} {H : Hp} (hR : Rel P w0 ρ H w) {a a' : Addr} (har : AR ρ a a') {n : Nat} {l : List Value} (h : readN H H.next a n = some l) :
    l.length = n ∧ ∀ j v, l[j]? = some v → ∃ v', VR ρ v v' ∧ w.cell? (a'.add j) = some v' := by
  unfold readN at h
  cases n with
  | zero => simp at h; subst h; exact ⟨rfl, fun j v hj => by simp at hj⟩
  | succ n =>
    simp only [] at h
    cases hb : blockAt H H.next a with
    | none => simp [hb] at h
    | some c =>
      simp only [hb] at h
      obtain ⟨hlen, hget⟩ := takeA_spec _ _ _ h
      refine ⟨hlen, fun j v hj => ?_⟩
      obtain ⟨v', r, q⟩ := block_ok hR har hb j v (by have := hget j v hj; simpa [List.getElem?_drop] using this)
      exact ⟨v', r, q w (fun _ _ _ _ _ => rfl)⟩
theorem maxMem_ok : MemOk Try.prog maxMem := by
  intro f args h v hm
  unfold maxMem at hm
  split at hm
  · rename_i a n c hf
    have hf' : f = 106 := Nat.eq_of_beq_eq_true hf
    subst hf'
    split at hm
    · rename_i l hn hr
      split at hm
      · rename_i x hx
        cases hm
        refine ⟨rfl, fun w0 ρ w args' hR hargs => ?_⟩
        obtain ⟨g, h1, rfl, hg⟩ := topL_spec hx
        cases hargs with
        | cons hv hs =>
        cases hs
        obtain ⟨a', c', rfl, har | hz⟩ := hv.sl_inv
        · obtain ⟨hlen, hc⟩ := readN_cells hR har.1 hr
          obtain ⟨s1, s2, p, _, _, _⟩ := har.1
          obtain ⟨b', off', spot'⟩ := a'
          simp at s2
          subst s2
          subst hlen
          have hn' := Nat.le_of_ble_eq_true hn
          have key := max_is b' off' (l.length - 1) c' g w (fun i hi => by
            obtain ⟨v', r, q⟩ := hc i _ (hg i (by omega))
            rw [r.int_inv] at q
            simpa only [Go.WideShapes.add_plain] using q) (by omega)
          rw [show l.length - 1 + 1 = l.length by omega] at key
          refine key.mono ?_
          rintro e w' ⟨rfl, rfl⟩
          exact ⟨rfl, Below.refl _ _⟩
        · exfalso
          rw [hz.1] at hr
          simp [readN] at hr
          subst hr
          simp at h1
      · cases hm
    · cases hm
  · cases hm
end Go.Ab
