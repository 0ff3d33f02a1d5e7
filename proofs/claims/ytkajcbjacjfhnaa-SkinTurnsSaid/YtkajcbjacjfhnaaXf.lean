/- An operation that looks at no memory (2). -/
import Derived.Test.YtkajcbjacjfhnaaXe
namespace Go.Ab
open Go Go.RowKit

theorem VR.cells {ρ : Ren} {v v' : Value} (h : VR ρ v v') : VRs ρ v.cells.toList v'.cells.toList := by
  cases h with
  | agg h => exact h
  | bool b => exact .cons (.bool b) .nil
  | int k n => exact .cons (.int k n) .nil
  | float k n => exact .cons (.float k n) .nil
  | complex k a b => exact .cons (.complex k a b) .nil
  | string s => exact .cons (.string s) .nil
  | ptr0 => exact .cons .ptr0 .nil
  | ptr a => exact .cons (.ptr a) .nil
  | sl0 n c => exact .cons (.sl0 n c) .nil
  | sl a c => exact .cons (.sl a c) .nil
  | sle a b => exact .cons (.sle a b) .nil
  | map0 => exact .cons .map0 .nil
  | map a => exact .cons (.map a) .nil
  | func f a b => exact .cons (.func f a b) .nil
  | nilFunc => exact .cons .nilFunc .nil
  | nilIface => exact .cons .nilIface .nil
  | iface t a => exact .cons (.iface t a) .nil
  | tuple a => exact .cons (.tuple a) .nil

theorem VR.cells_size {ρ : Ren} {v v' : Value} (h : VR ρ v v') : v'.cells.size = v.cells.size := by
  have := h.cells.length
  simpa using this

theorem fold_ok {ρ : Ren} (off : Nat) : ∀ (l l' : List Value) (k : Nat) (c c' : Array Value), VRs ρ l l' → VRs ρ c.toList c'.toList →
    VRs ρ ((l.zipIdx k).foldl (fun cs x => cs.setIfInBounds (off + x.2) x.1) c).toList ((l'.zipIdx k).foldl (fun cs x => cs.setIfInBounds (off + x.2) x.1) c').toList
  | _, _, _, _, _, .nil, h => by simpa using h
  | _, _, k, c, c', .cons (v := x) (v' := x') (l := l) (l' := l') a b, h => by
    simp only [List.zipIdx_cons, List.foldl_cons]
    exact fold_ok off l l' (k + 1) _ _ b (by simp only [Array.toList_setIfInBounds]; exact h.set _ a)

theorem fill_ok {ρ : Ren} {ev ev' : Operand → Value} (place : Nat → Option (Nat × Nat)) : ∀ (l : List (Nat × Operand)) (c c' r : Array Value), (∀ ix ∈ l, VR ρ (ev ix.2) (ev' ix.2)) → VRs ρ c.toList c'.toList →
    Instr.fill place c (l.map fun ix => (ix.1, ev ix.2)) = some r → ∃ r', Instr.fill place c' (l.map fun ix => (ix.1, ev' ix.2)) = some r' ∧ VRs ρ r.toList r'.toList
  | [], c, c', r, _, h, e => by simp [Instr.fill] at e; subst e; exact ⟨c', by simp [Instr.fill], h⟩
  | (i, x) :: l, c, c', r, hl, h, e => by
    have hx := hl (i, x) (by simp)
    simp only [List.map_cons, Instr.fill] at e ⊢
    cases hp : place i with
    | none => simp [hp] at e
    | some p =>
      obtain ⟨off, size⟩ := p
      simp only [hp] at e ⊢
      have hs := hx.cells_size
      have hcs : c'.size = c.size := by have := h.length; simpa using this
      rw [hs, hcs]
      split at e
      · cases e
      · rename_i hn
        rw [if_neg hn]
        refine fill_ok place l _ _ r (fun ix hix => hl ix (by simp [hix])) ?_ e
        have := fold_ok (ρ := ρ) off (ev x).cells.toList (ev' x).cells.toList 0 c c' hx.cells h
        simpa only [← Array.foldl_toList, Array.toList_zipIdx] using this

theorem array_pairs (f : Operand → Value) (parts : Array (Nat × Operand)) : (parts.map fun (i, x) => (i, f x)).toList = parts.toList.map fun ix => (ix.1, f ix.2) := by
  simp

theorem operands_build {t : TypeId} {parts : Array (Nat × Operand)} (ix : Nat × Operand) (h : ix ∈ parts.toList) : ix.2 ∈ (Op.build t parts).operands.toList := by
  simp only [Op.operands]
  simpa using ⟨ix.1, by simpa using h⟩

section
variable {P : Program} {ρ : Ren} {ev ev' : Operand → Value}

theorem build_ok {o : Oper} {t : TypeId} {parts : Array (Nat × Operand)} (ho : o.op = .build t parts) (hE : Evs ρ ev ev' o) {v : Value} (h : regBuild P ev t parts = some v) :
    ∃ v', VR ρ v v' ∧ ∀ w, (execOp ev' o).run P w = .ok (.value v') w := by
  have hl : ∀ ix ∈ parts.toList, VR ρ (ev ix.2) (ev' ix.2) := fun ix hix => hE ix.2 (by rw [ho]; exact operands_build ix hix)
  unfold regBuild at h
  cases hu : P.underlying t with
  | none => simp [hu] at h
  | some d =>
    cases hz : zero? P t with
    | none => simp only [hu, hz] at h; cases d <;> simp at h
    | some z =>
      have hzp := fun w => (zero_run hz w).1
      have hpl : plain 3 z = true := by
        obtain ⟨_, hp⟩ := zero_run hz ⟨#[], fun _ _ => 0, 0, default, #[]⟩; exact hp
      have hzr : VRs ρ z.cells.toList z.cells.toList := (plain_refl 3 z hpl).cells
      cases d <;> simp only [hu, hz] at h <;> try cases h
      case array n e =>
        cases hs : size? P e with
        | none => simp [hs] at h
        | some m =>
          simp only [hs] at h
          cases hf : Instr.fill (fun i => some (i * m, m)) z.cells (parts.toList.map fun ix => (ix.1, ev ix.2)) with
          | none => simp [hf] at h
          | some r =>
            simp only [hf, Option.map_some, Option.some.injEq] at h
            subst h
            obtain ⟨r', hr', hrr⟩ := fill_ok _ parts.toList z.cells z.cells r hl hzr hf
            refine ⟨.agg r', .agg hrr, fun w => ?_⟩
            simp only [execOp, ho, Instr.build, Sem.run_bind, hzp w, Result.andThen_ok, und_run hu w, size_run hs w, array_pairs, hr', Sem.run_pure]
      case struct fs =>
        cases hpl : placesOf P fs with
        | none => simp [hpl] at h
        | some places =>
          simp only [hpl] at h
          cases hf : Instr.fill (places[·]?) z.cells (parts.toList.map fun ix => (ix.1, ev ix.2)) with
          | none => simp [hf] at h
          | some r =>
            simp only [hf, Option.map_some, Option.some.injEq] at h
            subst h
            obtain ⟨r', hr', hrr⟩ := fill_ok _ parts.toList z.cells z.cells r hl hzr hf
            have hpr := fun w => pureRun_run _ hpl w
            refine ⟨.agg r', .agg hrr, fun w => ?_⟩
            simp only [execOp, ho, Instr.build, Sem.run_bind, hzp w, Result.andThen_ok, und_run hu w, hpr w, array_pairs, hr', Sem.run_pure]

theorem field_ok {o : Oper} {t : TypeId} {x : Operand} {f : Nat} (ho : o.op = .field t x f) (hE : Evs ρ ev ev' o) {v : Value} (h : regField P t (ev x) f = some v) :
    ∃ v', VR ρ v v' ∧ ∀ w, (execOp ev' o).run P w = .ok (.value v') w := by
  have hx : VR ρ (ev x) (ev' x) := hE x (by rw [ho]; simp [Op.operands])
  unfold regField at h
  cases hv : ev x <;> simp only [hv] at h <;> try cases h
  rename_i cs
  rw [hv] at hx
  obtain ⟨c', e', hcs⟩ := hx.agg_inv
  cases hu : P.underlying t with
  | none => simp [hu] at h
  | some d =>
    cases d <;> simp only [hu] at h <;> try cases h
    rename_i fs
    cases hf : fs[f]? with
    | none => simp [hf] at h
    | some fd =>
      simp only [hf] at h
      obtain ⟨v', r, hr⟩ := part_ok hcs h
      refine ⟨v', r, fun w => ?_⟩
      simp only [execOp, ho, Instr.field, Sem.run_bind, und_run hu w, Result.andThen_ok, hf, e', asAgg, Sem.run_pure, hr w]

theorem fieldAddr_ok {o : Oper} {t : TypeId} {x : Operand} {f : Nat} (ho : o.op = .fieldAddr t x f) (hE : Evs ρ ev ev' o) {v : Value} (h : regFieldAddr P t (ev x) f = some v) :
    ∃ v', VR ρ v v' ∧ ∀ w, (execOp ev' o).run P w = .ok (.value v') w := by
  have hx : VR ρ (ev x) (ev' x) := hE x (by rw [ho]; simp [Op.operands])
  unfold regFieldAddr at h
  split at h
  case h_2 => cases h
  rename_i a hv
  rw [hv] at hx
  obtain ⟨a', e', har⟩ := hx.ptr_inv
  cases hu : P.underlying t with
  | none => simp [hu] at h
  | some d =>
    cases d <;> simp only [hu] at h <;> try cases h
    rename_i fs
    cases hf : fs[f]? with
    | none => simp [hf] at h
    | some fd =>
      simp only [hf] at h
      split at h
      case h_2 => cases h
      rename_i n hn
      cases h
      refine ⟨.pointer (some (a'.add fd.offset)), .ptr (har.add _), fun w => ?_⟩
      simp only [execOp, ho, Instr.fieldAt, Sem.run_bind, und_run hu w, Result.andThen_ok, hf, e', Instr.sureAddr, Sem.run_pure, fieldPlace, size_run hn w]
      simp

theorem elem_ok {a a' : Addr} (har : AR ρ a a') {n : Nat} {e : TypeId} {i v : Value} (h : regElem P a n e i = some v) :
    ∃ k z s, i = .int k z ∧ 0 ≤ z ∧ z < (n : Int) ∧ size? P e = some s ∧ v = .pointer (some (a.add (z.toNat * s))) ∧ VR ρ v (.pointer (some (a'.add (z.toNat * s)))) := by
  unfold regElem at h
  cases i <;> simp only [] at h <;> try cases h
  rename_i k z
  split at h
  case h_2 => cases h
  rename_i hb
  cases hs : size? P e with
  | none => simp [hs] at h
  | some s =>
    simp only [hs, Option.some.injEq] at h
    subst h
    simp at hb
    exact ⟨k, z, s, rfl, hb.1, hb.2, rfl, rfl, .ptr (har.add _)⟩

theorem indexAddr_ok {o : Oper} {t : TypeId} {x i : Operand} (ho : o.op = .indexAddr t x i) (hE : Evs ρ ev ev' o) {v : Value} (h : regIndexAddr P t (ev x) (ev i) = some v) :
    ∃ v', VR ρ v v' ∧ ∀ w, (execOp ev' o).run P w = .ok (.value v') w := by
  have hx : VR ρ (ev x) (ev' x) := hE x (by rw [ho]; simp [Op.operands])
  have hi : VR ρ (ev i) (ev' i) := hE i (by rw [ho]; simp [Op.operands])
  unfold regIndexAddr at h
  split at h
  case h_3 => cases h
  case h_1 a n c hv =>
    rw [hv] at hx
    obtain ⟨a', c', e', hcase⟩ := hx.sl_inv
    cases hu : P.underlying t with
    | none => simp [hu] at h
    | some d =>
      cases d <;> simp only [hu] at h <;> try cases h
      rename_i e
      rcases hcase with ⟨har, _⟩ | ⟨rfl, _, _⟩
      · obtain ⟨k, z, s, hz, h0, h1, hs, rfl, hr⟩ := elem_ok har h
        rw [hz] at hi
        refine ⟨_, hr, fun w => ?_⟩
        simp only [execOp, ho, Instr.indexAt, Sem.run_bind, hi.int_inv, asIntOf, Sem.run_pure, Result.andThen_ok, und_run hu w, e', h0, h1, and_self, if_true, size_run hs w]
      · unfold regElem at h
        exfalso
        split at h
        · split at h
          · rename_i hb; simp at hb; omega
          · cases h
        · cases h
  case h_2 a hv =>
    rw [hv] at hx
    obtain ⟨a', e', har⟩ := hx.ptr_inv
    cases hu : P.underlying t with
    | none => simp [hu] at h
    | some d =>
      cases d <;> simp only [hu] at h <;> try cases h
      rename_i n e
      obtain ⟨k, z, s, hz, h0, h1, hs, rfl, hr⟩ := elem_ok har h
      rw [hz] at hi
      refine ⟨_, hr, fun w => ?_⟩
      simp only [execOp, ho, Instr.indexAt, Sem.run_bind, hi.int_inv, asIntOf, Sem.run_pure, Result.andThen_ok, und_run hu w, e', Instr.sureAddr, h0, h1, and_self, if_true, size_run hs w]
end
end Go.Ab
