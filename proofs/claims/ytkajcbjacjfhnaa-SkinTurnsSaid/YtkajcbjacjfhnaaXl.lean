/- An operation that makes or writes memory (3): append; all of them. -/
import Derived.Test.YtkajcbjacjfhnaaXk
namespace Go.Ab
open Go Go.RowKit
section
variable {P : Program} {ρ : Ren} {ev ev' : Operand → Value} {w0 w : World} {H : Hp}

theorem growBy_le : ∀ (r c n : Nat), c ≤ n → Builtin.growBy n r c ≤ n + (n + 768) / 4
  | 0, c, n, h => by simp [Builtin.growBy]; omega
  | r + 1, c, n, h => by
    unfold Builtin.growBy
    split
    · omega
    · by_cases h2 : c + (c + 768) / 4 ≤ n
      · exact growBy_le r _ n h2
      · cases r with
        | zero => unfold Builtin.growBy; omega
        | succ r =>
          unfold Builtin.growBy
          rw [if_pos (by omega)]
          omega

theorem nextcap_le {need c : Nat} (h : c < need) : Builtin.nextslicecap need c ≤ 3 * need := by
  unfold Builtin.nextslicecap
  split
  · omega
  · split
    · omega
    · have := growBy_le 4 c need (by omega)
      omega

theorem near_refl (ρ : Ren) (H : Hp) (lim : Nat) (w : World) : Near ρ H lim w w := fun _ _ _ _ _ => rfl
theorem near_drew (ρ : Ren) (H : Hp) (lim : Nat) (w : World) : Near ρ H lim w w.drew := fun _ _ _ _ _ => rfl

/-- what is appended -/
theorem source_ok (hR : Rel P w0 ρ H w) {size : Nat} {x u : Value} (hx : VR ρ x u) {n : Nat} {new : List Value} (h : source H size x = some (n, new)) :
    ∃ new', VRs ρ new new' ∧ new.length = n * size ∧ (∀ w', (Builtin.lenOf u).run P w' = .ok n w') ∧ (∀ w', Near ρ H H.next w w' → (Builtin.firstCells size n u).run P w' = .ok ⟨new'⟩ w') := by
  unfold source at h
  split at h
  · rename_i a m c
    obtain ⟨a', c', eu, hcase⟩ := hx.sl_inv
    split at h
    case h_2 => cases h
    rename_i l hr
    cases h
    subst eu
    rcases hcase with ⟨har, _⟩ | ⟨rfl, _, _⟩
    · obtain ⟨l', rs, hl, run⟩ := readN_ok hR har hr
      exact ⟨l', rs, by rw [← rs.length, hl], fun w' => rfl, fun w' hn => by simp [Builtin.firstCells, run w' hn]⟩
    · rw [Nat.zero_mul] at hr
      simp [readN] at hr
      subst hr
      exact ⟨[], .nil, by simp, fun w' => rfl, fun w' hn => by simp [Builtin.firstCells, loadCells, loadCellsFrom]⟩
  · cases h
    have := hx.sl0_inv
    subst this
    exact ⟨[], .nil, by simp, fun w' => rfl, fun w' hn => rfl⟩
  · rename_i b
    split at h
    case isFalse => cases h
    rename_i hs
    cases h
    have := hx.str_inv
    subst this hs
    refine ⟨b.data.toList.map fun u => Value.int .u8 u.toNat, VRs.of_all (p := plain 3) (fun v => plain_refl 3 v) _ (by rw [List.all_map]; exact List.all_eq_true.2 fun _ _ => rfl), by simp, fun w' => rfl, fun w' _ => ?_⟩
    simp only [Builtin.firstCells, Sem.run_pure]
    congr 1
    apply Array.ext'
    simp
  · cases h


def kindOk (P : Program) (u : Option TypeId) : Bool := match u with | some u => (match P.underlying u with | some (.int _) => false | some _ => true | none => false) | none => true

section
variable {t e : TypeId} {u : Option TypeId} {ts : Array TypeId} {ty : TypeId} {s x : Value} {args : Array Value} {i : TypeInfo} {base : Option Addr} {len cap n : Nat}

theorem append_fits (h0 : ts[0]? = some t) (h1 : ts[1]? = u) (a0 : args[0]? = some s) (a1 : args[1]? = some x) (hu : P.underlying t = some (.slice e)) (hi : P.info? e = some i) (hz : kindOk P u = true)
    (hs : s = .slice base len cap) (hfit : len + n ≤ cap) {w' : World} {new : Array Value} (hl : (Builtin.lenOf x).run P w = .ok n w) (hn : (Builtin.firstCells i.size n x).run P w = .ok new w)
    (hst : (match base with | some a => storeCells (a.add (len * i.size)) new.toList | none => (pure () : Sem Unit)).run P w = .ok () w') :
    (Builtin.append_ ts ty args).run P w = .ok (.slice base (len + n) cap) w' := by
  subst hs
  have hgo : ∀ w1, (match base with | some a => storeCells (a.add (len * i.size)) new.toList | none => (pure () : Sem Unit)).run P w = .ok () w1 →
      (do (match base with | some a => storeCells (a.add (len * i.size)) new.toList | none => (pure () : Sem Unit)); pure (Value.slice base (len + n) cap) : Sem Value).run P w = .ok (.slice base (len + n) cap) w1 := fun w1 h => by
    rw [Sem.run_bind, h]; rfl
  unfold kindOk at hz
  unfold Builtin.append_
  cases u with
  | none =>
    cases base with
    | none =>
      simp only [h0, h1, a0, a1, Sem.run_bind, und_run hu w, Result.andThen_ok, sizeOf, typeInfo, run_program, hi, Sem.run_pure, Bool.false_eq_true, if_false, hl, if_pos hfit, Bool.not_false, if_true, hn]
      exact hgo w' hst
    | some a =>
      have hst : (storeCells (a.add (len * i.size)) new.toList).run P w = .ok () w' := hst
      simp only [h0, h1, a0, a1, Sem.run_bind, und_run hu w, Result.andThen_ok, sizeOf, typeInfo, run_program, hi, Sem.run_pure, Bool.false_eq_true, if_false, hl, if_pos hfit, Bool.not_false, if_true, hn, hst]
  | some u =>
    simp only [] at hz
    cases hu2 : P.underlying u with
    | none => simp [hu2] at hz
    | some d =>
      cases base with
      | none =>
        cases d <;> simp only [hu2, Bool.false_eq_true] at hz <;>
        simp only [h0, h1, a0, a1, Sem.run_bind, und_run hu w, und_run hu2 w, Result.andThen_ok, sizeOf, typeInfo, run_program, hi, Sem.run_pure, Bool.false_eq_true, if_false, hl, if_pos hfit, Bool.not_false, if_true, hn] <;>
        exact hgo w' hst
      | some a =>
        have hst : (storeCells (a.add (len * i.size)) new.toList).run P w = .ok () w' := hst
        cases d <;> simp only [hu2, Bool.false_eq_true] at hz <;>
        simp only [h0, h1, a0, a1, Sem.run_bind, und_run hu w, und_run hu2 w, Result.andThen_ok, sizeOf, typeInfo, run_program, hi, Sem.run_pure, Bool.false_eq_true, if_false, hl, if_pos hfit, Bool.not_false, if_true, hn, hst]

theorem append_grows (h0 : ts[0]? = some t) (h1 : ts[1]? = u) (a0 : args[0]? = some s) (a1 : args[1]? = some x) (hu : P.underlying t = some (.slice e)) (hi : P.info? e = some i) (hz : kindOk P u = true)
    (hs : s = .slice base len cap) (hfit : ¬ len + n ≤ cap) (hb : i.bytes ≠ 0) (hle : (len + n) * i.bytes ≤ 2 ^ 46) {old new : Array Value} {z : Value} (hl : (Builtin.lenOf x).run P w = .ok n w)
    (ho : (Builtin.firstCells i.size len s).run P w.drew = .ok old w.drew) (hn : (Builtin.firstCells i.size n x).run P w.drew = .ok new w.drew) (hzz : zero? P e = some z) :
    ∃ c, len + n ≤ c ∧ (Builtin.append_ ts ty args).run P w = .ok (.slice (some ⟨w.heap.size, 0, none⟩) (len + n) c) (w.drew.alloc (.cells (old ++ new ++ Builtin.zeroCells z.cells (c - (len + n))) e)) := by
  subst hs
  have hcap : ¬ (Builtin.nextslicecap (len + n) cap * i.bytes > 2 ^ 48) := by
    have h1 := nextcap_le (need := len + n) (c := cap) (by omega)
    have h2 := Nat.mul_le_mul_right i.bytes h1
    rw [Nat.mul_assoc] at h2
    omega
  have hmax : ¬ (((len + n : Nat) : Int) > IntKind.i64.max ∧ (False ∨ i.bytes = 0)) := by
    rintro ⟨_, h | h⟩
    · exact h
    · exact hb h
  refine ⟨(len + n) + w.tape w.drawn (.appendCap (len + n) cap e) % (2 ^ 63 - (len + n)), by omega, ?_⟩
  have hd : ({ w with drawn := w.drawn + 1 } : World) = w.drew := rfl
  unfold kindOk at hz
  unfold Builtin.append_
  cases u with
  | none =>
    simp only [h0, h1, a0, a1, Sem.run_bind, und_run hu w, Result.andThen_ok, sizeOf, typeInfo, run_program, hi, Sem.run_pure, Bool.false_eq_true, if_false, hl, if_neg hfit, hmax, if_neg hcap, Bool.not_false, if_true,
      run_choose, Question.forced, Question.cut, run_askRoom, hd, ho, hn, (zero_run hzz w.drew).1, newRow, run_newObj]
    rfl
  | some u =>
    simp only [] at hz
    cases hu2 : P.underlying u with
    | none => simp [hu2] at hz
    | some d =>
      cases d <;> simp only [hu2, Bool.false_eq_true] at hz <;>
      simp only [h0, h1, a0, a1, Sem.run_bind, und_run hu w, und_run hu2 w, Result.andThen_ok, sizeOf, typeInfo, run_program, hi, Sem.run_pure, Bool.false_eq_true, if_false, hl, if_neg hfit, hmax, if_neg hcap, Bool.not_false, if_true,
        run_choose, Question.forced, Question.cut, run_askRoom, hd, ho, hn, (zero_run hzz w.drew).1, newRow, run_newObj] <;>
      rfl
end
end
end Go.Ab
