/- An operation that looks at no memory: what is reckoned is what is run. An operation that looks at no memory (2). An operation that looks at no memory (3). An operation that looks at no memory (4): slices; all of them. -/
import Derived.Test.YtcakcdolijgjeaaYa
import Derived.Laws.Cells
namespace Go.Ab
open Go Go.RowKit

theorem vr_undef (ρ : Ren) : VR ρ undef undef := .tuple .nil

/-- two readings of an operation's operands -/
def Evs (ρ : Ren) (ev ev' : Operand → Value) (o : Oper) : Prop := ∀ x ∈ o.op.operands.toList, VR ρ (ev x) (ev' x)

theorem evs_of {ρ : Ren} {nt : Nat} {t : Tm} {a : Act} (h : TmR ρ nt t a.tmps) {o : Oper} (hok : o.op.operands.toList.all (okOpd nt) = true) : Evs ρ (aev t) a.eval o := by
  intro x hx
  have := List.all_eq_true.1 hok x hx
  cases x with
  | tmp i => exact h.2 i (by simpa [okOpd] using this)
  | const v => exact plain_refl 3 v this
  | global g => simp [okOpd] at this
  | func f => exact .func _ rfl .nil .nil

theorem regPlain_ok {P : Program} {ρ : Ren} {ev ev' : Operand → Value} {o : Oper} (hE : Evs ρ ev ev' o) (hs : ∀ cs b, o.op ≠ .select cs b) {v : Value} (h : regPlain P ev o = some v) :
    ∃ v', VR ρ v v' ∧ ∀ w, (execOp ev' o).run P w = .ok (.value v') w := by
  unfold regPlain at h
  cases ha : allPlain ev o with
  | false => simp [ha] at h
  | true =>
    simp only [ha] at h
    have hc : execOp ev' o = execOp ev o := execOp_congr o hs fun x hx => by
      have hx' : x ∈ o.op.operands.toList := by simpa using hx
      exact plain_eq 3 (List.all_eq_true.1 ha x hx') (hE x hx')
    cases hp : pureRun P (execOp ev o) with
    | none => simp [hp, asValue] at h
    | some nx =>
      cases nx <;> simp only [hp, asValue] at h <;> try cases h
      rename_i u
      cases hu : plain 3 u with
      | false => simp [hu] at h
      | true =>
        simp only [hu, Option.some.injEq] at h
        subst h
        exact ⟨u, plain_refl 3 u hu, fun w => by rw [hc]; exact pureRun_run _ hp w⟩

theorem VRs.map {ρ : Ren} {ev ev' : Operand → Value} : ∀ {l : List Operand}, (∀ x ∈ l, VR ρ (ev x) (ev' x)) → VRs ρ (l.map ev) (l.map ev')
  | [], _ => .nil
  | x :: l, h => .cons (h x (by simp)) (VRs.map fun y hy => h y (by simp [hy]))

theorem AR.add {ρ : Ren} {a a' : Addr} (h : AR ρ a a') (n : Nat) : AR ρ (a.add n) (a'.add n) := by
  obtain ⟨s, s', p, hp, e1, e2⟩ := h
  unfold Addr.add
  by_cases hn : n = 0
  · simp only [hn, if_true]; exact ⟨s, s', p, hp, e1, e2⟩
  · simp only [hn, if_false]; exact ⟨rfl, rfl, p, hp, e1, by show a'.off + n = a.off + n + p.shift; omega⟩

theorem agg_run {P : Program} {t : TypeId} {b : Bool} (h : agg? P t = some b) (w : World) : (isAgg t).run P w = .ok b w := by
  unfold agg? at h
  unfold isAgg underlying
  cases hu : P.underlying t with
  | none => simp [hu] at h
  | some d =>
    simp only [hu] at h
    cases d <;> simp at h <;> subst h <;> simp [hu]

theorem size_run {P : Program} {t : TypeId} {n : Nat} (h : size? P t = some n) (w : World) : (sizeOf t).run P w = .ok n w := by
  unfold size? at h
  cases hi : P.info? t with
  | none => simp [hi] at h
  | some i => simp [hi] at h; subst h; simp [sizeOf, typeInfo, hi]

theorem und_run {P : Program} {t : TypeId} {d : TypeDesc} (h : P.underlying t = some d) (w : World) : (underlying t).run P w = .ok d w := by
  simp [underlying, h]

theorem zero_run {P : Program} {t : TypeId} {z : Value} (h : zero? P t = some z) (w : World) : (zeroValue t).run P w = .ok z w ∧ plain 3 z = true := by
  unfold zero? at h
  cases hi : P.info? t with
  | none => simp [hi] at h
  | some i =>
    simp only [hi, Option.bind_some] at h
    cases hz : i.zero with
    | none => simp [hz] at h
    | some y =>
      simp only [hz] at h
      split at h
      · rename_i hp; cases h; exact ⟨by simp [zeroValue, typeInfo, hi, hz], hp⟩
      · cases h

theorem VRs.toArray_get {ρ : Ren} {c c' : Array Value} (h : VRs ρ c.toList c'.toList) (i : Nat) (v : Value) (e : c[i]? = some v) : ∃ v', c'[i]? = some v' ∧ VR ρ v v' := by
  have := h.get i v (by simpa using e)
  simpa using this

theorem part_ok {P : Program} {ρ : Ren} {c c' : Array Value} (h : VRs ρ c.toList c'.toList) {t : TypeId} {off : Nat} {v : Value} (hp : partA P t c off = some v) :
    ∃ v', VR ρ v v' ∧ ∀ w, (part t c' off).run P w = .ok v' w := by
  unfold partA at hp
  cases ha : agg? P t with
  | none => simp [ha] at hp
  | some b =>
    cases b with
    | true =>
      cases hs : size? P t with
      | none => simp [ha, hs] at hp
      | some n =>
        simp only [ha, hs, Option.some.injEq] at hp
        subst hp
        refine ⟨.agg ⟨(c'.toList.drop off).take n⟩, .agg ((h.drop off).take n), fun w => ?_⟩
        simp only [part, Sem.run_bind, agg_run ha w, Result.andThen_ok, if_true, size_run hs w, Sem.run_pure]
        congr 2
        apply Array.ext'
        simp [Array.toList_extract]
    | false =>
      simp only [ha] at hp
      obtain ⟨v', e, r⟩ := h.toArray_get off v hp
      refine ⟨v', r, fun w => ?_⟩
      simp [part, agg_run ha w, e]

theorem VR.agg_inv {ρ : Ren} {c : Array Value} {v' : Value} (h : VR ρ (.agg c) v') : ∃ c', v' = .agg c' ∧ VRs ρ c.toList c'.toList := by
  cases h with | agg h => exact ⟨_, rfl, h⟩
theorem VR.tuple_inv {ρ : Ren} {c : Array Value} {v' : Value} (h : VR ρ (.tuple c) v') : ∃ c', v' = .tuple c' ∧ VRs ρ c.toList c'.toList := by
  cases h with | tuple h => exact ⟨_, rfl, h⟩
theorem VR.bool_inv {ρ : Ren} {b : Bool} {v' : Value} (h : VR ρ (.bool b) v') : v' = .bool b := by cases h; rfl
theorem VR.int_inv {ρ : Ren} {k : IntKind} {n : Int} {v' : Value} (h : VR ρ (.int k n) v') : v' = .int k n := by cases h; rfl
theorem VR.str_inv {ρ : Ren} {s : ByteArray} {v' : Value} (h : VR ρ (.string s) v') : v' = .string s := by cases h; rfl
theorem VR.ptr_inv {ρ : Ren} {a : Addr} {v' : Value} (h : VR ρ (.pointer (some a)) v') : ∃ a', v' = .pointer (some a') ∧ AR ρ a a' := by cases h; exact ⟨_, rfl, ‹_›⟩
theorem VR.ptr0_inv {ρ : Ren} {v' : Value} (h : VR ρ (.pointer none) v') : v' = .pointer none := by cases h; rfl
theorem VR.sl0_inv {ρ : Ren} {n c : Nat} {v' : Value} (h : VR ρ (.slice none n c) v') : v' = .slice none n c := by cases h; rfl
theorem VR.map0_inv {ρ : Ren} {v' : Value} (h : VR ρ (.map none) v') : v' = .map none := by cases h; rfl
theorem VR.nilFunc_inv {ρ : Ren} {v' : Value} (h : VR ρ .nilFunc v') : v' = .nilFunc := by cases h; rfl
theorem VR.map_inv {ρ : Ren} {r : Nat} {v' : Value} (h : VR ρ (.map (some r)) v') : ∃ p, v' = .map (some p.real) ∧ ρ r = some p := by cases h; exact ⟨_, rfl, ‹_›⟩
theorem VR.func_inv {ρ : Ren} {fn : Fn} {f c : Array Value} {v' : Value} (hn : named fn = true) (h : VR ρ (.func fn f c) v') : ∃ f' c', v' = .func fn f' c' ∧ VRs ρ f.toList f'.toList ∧ VRs ρ c.toList c'.toList := by
  cases h with
  | func _ _ a b => exact ⟨_, _, rfl, a, b⟩
  | yield e => simp [named] at hn
theorem VR.func_some {ρ : Ren} {fn : Fn} {f c : Array Value} {v' : Value} (h : VR ρ (.func fn f c) v') : ∃ fn' f' c', v' = .func fn' f' c' := by
  cases h with
  | func _ _ a b => exact ⟨_, _, _, rfl⟩
  | yield e => exact ⟨_, _, _, rfl⟩
theorem VR.yield_inv {ρ : Ren} {l : Nat} {f c : Array Value} {v' : Value} (h : VR ρ (.func (.yield l) f c) v') : ∃ p, v' = .func (.yield p.real) #[] #[] ∧ ρ l = some p := by
  cases h with
  | func _ k a b => simp [named] at k
  | yield e => exact ⟨_, rfl, e⟩
theorem VR.sl_inv {ρ : Ren} {a : Addr} {n c : Nat} {v' : Value} (h : VR ρ (.slice (some a) n c) v') :
    ∃ a' c', v' = .slice (some a') n c' ∧ ((AR ρ a a' ∧ CapOk ρ a a' c c') ∨ (n = 0 ∧ c = 0 ∧ c' = 0)) := by
  cases h with
  | sl h k => exact ⟨_, _, rfl, .inl ⟨h, k⟩⟩
  | sle a a' => exact ⟨a', 0, rfl, .inr ⟨rfl, rfl, rfl⟩⟩

end Go.Ab
namespace Go.Ab
open Go Go.RowKit

theorem VR.cells {ρ : Ren} {v v' : Value} (h : VR ρ v v') : VRs ρ v.cells.toList v'.cells.toList := by
  cases h with
  | agg h => exact h
  | bool b => exact .cons (.bool b) .nil
  | int k n => exact .cons (.int k n) .nil
  | float k n => exact .cons (.float k n) .nil
  | complex k a b => exact .cons (.complex k a b) .nil
  | string s => exact .cons (.string s) .nil
  | ptr0 => exact .cons .ptr0 .nil
  | ptr a => exact .cons (.ptr a) .nil
  | sl0 n c => exact .cons (.sl0 n c) .nil
  | sl a c => exact .cons (.sl a c) .nil
  | sle a b => exact .cons (.sle a b) .nil
  | map0 => exact .cons .map0 .nil
  | map a => exact .cons (.map a) .nil
  | func f k a b => exact .cons (.func f k a b) .nil
  | yield e => exact .cons (.yield e) .nil
  | nilFunc => exact .cons .nilFunc .nil
  | nilIface => exact .cons .nilIface .nil
  | iface t a => exact .cons (.iface t a) .nil
  | tuple a => exact .cons (.tuple a) .nil

theorem VR.cells_size {ρ : Ren} {v v' : Value} (h : VR ρ v v') : v'.cells.size = v.cells.size := by
  have := h.cells.length
  simpa using this

theorem fold_ok {ρ : Ren} (off : Nat) : ∀ (l l' : List Value) (k : Nat) (c c' : Array Value), VRs ρ l l' → VRs ρ c.toList c'.toList →
    VRs ρ ((l.zipIdx k).foldl (fun cs x => cs.setIfInBounds (off + x.2) x.1) c).toList ((l'.zipIdx k).foldl (fun cs x => cs.setIfInBounds (off + x.2) x.1) c').toList
  | _, _, _, _, _, .nil, h => by simpa using h
  | _, _, k, c, c', .cons (v := x) (v' := x') (l := l) (l' := l') a b, h => by
    simp only [List.zipIdx_cons, List.foldl_cons]
    exact fold_ok off l l' (k + 1) _ _ b (by simp only [Array.toList_setIfInBounds]; exact h.set _ a)

theorem fill_ok {ρ : Ren} {ev ev' : Operand → Value} (place : Nat → Option (Nat × Nat)) : ∀ (l : List (Nat × Operand)) (c c' r : Array Value), (∀ ix ∈ l, VR ρ (ev ix.2) (ev' ix.2)) → VRs ρ c.toList c'.toList →
    Instr.fill place c (l.map fun ix => (ix.1, ev ix.2)) = some r → ∃ r', Instr.fill place c' (l.map fun ix => (ix.1, ev' ix.2)) = some r' ∧ VRs ρ r.toList r'.toList
  | [], c, c', r, _, h, e => by simp [Instr.fill] at e; subst e; exact ⟨c', by simp [Instr.fill], h⟩
  | (i, x) :: l, c, c', r, hl, h, e => by
    have hx := hl (i, x) (by simp)
    simp only [List.map_cons, Instr.fill] at e ⊢
    cases hp : place i with
    | none => simp [hp] at e
    | some p =>
      obtain ⟨off, size⟩ := p
      simp only [hp] at e ⊢
      have hs := hx.cells_size
      have hcs : c'.size = c.size := by have := h.length; simpa using this
      rw [hs, hcs]
      split at e
      · cases e
      · rename_i hn
        rw [if_neg hn]
        refine fill_ok place l _ _ r (fun ix hix => hl ix (by simp [hix])) ?_ e
        have := fold_ok (ρ := ρ) off (ev x).cells.toList (ev' x).cells.toList 0 c c' hx.cells h
        simpa only [← Array.foldl_toList, Array.toList_zipIdx] using this

theorem array_pairs (f : Operand → Value) (parts : Array (Nat × Operand)) : (parts.map fun (i, x) => (i, f x)).toList = parts.toList.map fun ix => (ix.1, f ix.2) := by
  simp

theorem operands_build {t : TypeId} {parts : Array (Nat × Operand)} (ix : Nat × Operand) (h : ix ∈ parts.toList) : ix.2 ∈ (Op.build t parts).operands.toList := by
  simp only [Op.operands]
  simpa using ⟨ix.1, by simpa using h⟩

section
variable {P : Program} {ρ : Ren} {ev ev' : Operand → Value}

theorem build_ok {o : Oper} {t : TypeId} {parts : Array (Nat × Operand)} (ho : o.op = .build t parts) (hE : Evs ρ ev ev' o) {v : Value} (h : regBuild P ev t parts = some v) :
    ∃ v', VR ρ v v' ∧ ∀ w, (execOp ev' o).run P w = .ok (.value v') w := by
  have hl : ∀ ix ∈ parts.toList, VR ρ (ev ix.2) (ev' ix.2) := fun ix hix => hE ix.2 (by rw [ho]; exact operands_build ix hix)
  unfold regBuild at h
  cases hu : P.underlying t with
  | none => simp [hu] at h
  | some d =>
    cases hz : zero? P t with
    | none => simp only [hu, hz] at h; cases d <;> simp at h
    | some z =>
      have hzp := fun w => (zero_run hz w).1
      have hpl : plain 3 z = true := by
        obtain ⟨_, hp⟩ := zero_run hz ⟨#[], fun _ _ => 0, 0, default, #[]⟩; exact hp
      have hzr : VRs ρ z.cells.toList z.cells.toList := (plain_refl 3 z hpl).cells
      cases d <;> simp only [hu, hz] at h <;> try cases h
      case array n e =>
        cases hs : size? P e with
        | none => simp [hs] at h
        | some m =>
          simp only [hs] at h
          cases hf : Instr.fill (fun i => some (i * m, m)) z.cells (parts.toList.map fun ix => (ix.1, ev ix.2)) with
          | none => simp [hf] at h
          | some r =>
            simp only [hf, Option.map_some, Option.some.injEq] at h
            subst h
            obtain ⟨r', hr', hrr⟩ := fill_ok _ parts.toList z.cells z.cells r hl hzr hf
            refine ⟨.agg r', .agg hrr, fun w => ?_⟩
            simp only [execOp, ho, Instr.build, Sem.run_bind, hzp w, Result.andThen_ok, und_run hu w, size_run hs w, array_pairs, hr', Sem.run_pure]
      case struct fs =>
        cases hpl : placesOf P fs with
        | none => simp [hpl] at h
        | some places =>
          simp only [hpl] at h
          cases hf : Instr.fill (places[·]?) z.cells (parts.toList.map fun ix => (ix.1, ev ix.2)) with
          | none => simp [hf] at h
          | some r =>
            simp only [hf, Option.map_some, Option.some.injEq] at h
            subst h
            obtain ⟨r', hr', hrr⟩ := fill_ok _ parts.toList z.cells z.cells r hl hzr hf
            have hpr := fun w => pureRun_run _ hpl w
            refine ⟨.agg r', .agg hrr, fun w => ?_⟩
            simp only [execOp, ho, Instr.build, Sem.run_bind, hzp w, Result.andThen_ok, und_run hu w, hpr w, array_pairs, hr', Sem.run_pure]

theorem field_ok {o : Oper} {t : TypeId} {x : Operand} {f : Nat} (ho : o.op = .field t x f) (hE : Evs ρ ev ev' o) {v : Value} (h : regField P t (ev x) f = some v) :
    ∃ v', VR ρ v v' ∧ ∀ w, (execOp ev' o).run P w = .ok (.value v') w := by
  have hx : VR ρ (ev x) (ev' x) := hE x (by rw [ho]; simp [Op.operands])
  unfold regField at h
  cases hv : ev x <;> simp only [hv] at h <;> try cases h
  rename_i cs
  rw [hv] at hx
  obtain ⟨c', e', hcs⟩ := hx.agg_inv
  cases hu : P.underlying t with
  | none => simp [hu] at h
  | some d =>
    cases d <;> simp only [hu] at h <;> try cases h
    rename_i fs
    cases hf : fs[f]? with
    | none => simp [hf] at h
    | some fd =>
      simp only [hf] at h
      obtain ⟨v', r, hr⟩ := part_ok hcs h
      refine ⟨v', r, fun w => ?_⟩
      simp only [execOp, ho, Instr.field, Sem.run_bind, und_run hu w, Result.andThen_ok, hf, e', asAgg, Sem.run_pure, hr w]

theorem fieldAddr_ok {o : Oper} {t : TypeId} {x : Operand} {f : Nat} (ho : o.op = .fieldAddr t x f) (hE : Evs ρ ev ev' o) {v : Value} (h : regFieldAddr P t (ev x) f = some v) :
    ∃ v', VR ρ v v' ∧ ∀ w, (execOp ev' o).run P w = .ok (.value v') w := by
  have hx : VR ρ (ev x) (ev' x) := hE x (by rw [ho]; simp [Op.operands])
  unfold regFieldAddr at h
  split at h
  case h_2 => cases h
  rename_i a hv
  rw [hv] at hx
  obtain ⟨a', e', har⟩ := hx.ptr_inv
  cases hu : P.underlying t with
  | none => simp [hu] at h
  | some d =>
    cases d <;> simp only [hu] at h <;> try cases h
    rename_i fs
    cases hf : fs[f]? with
    | none => simp [hf] at h
    | some fd =>
      simp only [hf] at h
      split at h
      case h_2 => cases h
      rename_i n hn
      cases h
      refine ⟨.pointer (some (a'.add fd.offset)), .ptr (har.add _), fun w => ?_⟩
      simp only [execOp, ho, Instr.fieldAt, Sem.run_bind, und_run hu w, Result.andThen_ok, hf, e', Instr.sureAddr, Sem.run_pure, fieldPlace, size_run hn w]
      simp

theorem elem_ok {a a' : Addr} (har : AR ρ a a') {n : Nat} {e : TypeId} {i v : Value} (h : regElem P a n e i = some v) :
    ∃ k z s, i = .int k z ∧ 0 ≤ z ∧ z < (n : Int) ∧ size? P e = some s ∧ v = .pointer (some (a.add (z.toNat * s))) ∧ VR ρ v (.pointer (some (a'.add (z.toNat * s)))) := by
  unfold regElem at h
  cases i <;> simp only [] at h <;> try cases h
  rename_i k z
  split at h
  case h_2 => cases h
  rename_i hb
  cases hs : size? P e with
  | none => simp [hs] at h
  | some s =>
    simp only [hs, Option.some.injEq] at h
    subst h
    simp at hb
    exact ⟨k, z, s, rfl, hb.1, hb.2, rfl, rfl, .ptr (har.add _)⟩

theorem indexAddr_ok {o : Oper} {t : TypeId} {x i : Operand} (ho : o.op = .indexAddr t x i) (hE : Evs ρ ev ev' o) {v : Value} (h : regIndexAddr P t (ev x) (ev i) = some v) :
    ∃ v', VR ρ v v' ∧ ∀ w, (execOp ev' o).run P w = .ok (.value v') w := by
  have hx : VR ρ (ev x) (ev' x) := hE x (by rw [ho]; simp [Op.operands])
  have hi : VR ρ (ev i) (ev' i) := hE i (by rw [ho]; simp [Op.operands])
  unfold regIndexAddr at h
  split at h
  case h_3 => cases h
  case h_1 a n c hv =>
    rw [hv] at hx
    obtain ⟨a', c', e', hcase⟩ := hx.sl_inv
    cases hu : P.underlying t with
    | none => simp [hu] at h
    | some d =>
      cases d <;> simp only [hu] at h <;> try cases h
      rename_i e
      rcases hcase with ⟨har, _⟩ | ⟨rfl, _, _⟩
      · obtain ⟨k, z, s, hz, h0, h1, hs, rfl, hr⟩ := elem_ok har h
        rw [hz] at hi
        refine ⟨_, hr, fun w => ?_⟩
        simp only [execOp, ho, Instr.indexAt, Sem.run_bind, hi.int_inv, asIntOf, Sem.run_pure, Result.andThen_ok, und_run hu w, e', h0, h1, and_self, if_true, size_run hs w]
      · unfold regElem at h
        exfalso
        split at h
        · split at h
          · rename_i hb; simp at hb; omega
          · cases h
        · cases h
  case h_2 a hv =>
    rw [hv] at hx
    obtain ⟨a', e', har⟩ := hx.ptr_inv
    cases hu : P.underlying t with
    | none => simp [hu] at h
    | some d =>
      cases d <;> simp only [hu] at h <;> try cases h
      rename_i n e
      obtain ⟨k, z, s, hz, h0, h1, hs, rfl, hr⟩ := elem_ok har h
      rw [hz] at hi
      refine ⟨_, hr, fun w => ?_⟩
      simp only [execOp, ho, Instr.indexAt, Sem.run_bind, hi.int_inv, asIntOf, Sem.run_pure, Result.andThen_ok, und_run hu w, e', Instr.sureAddr, h0, h1, and_self, if_true, size_run hs w]
end
end Go.Ab
namespace Go.Ab
open Go Go.RowKit
section
variable {P : Program} {ρ : Ren} {ev ev' : Operand → Value}

abbrev Gives (P : Program) (ρ : Ren) (ev' : Operand → Value) (o : Oper) (v : Value) : Prop := ∃ v', VR ρ v v' ∧ ∀ w, (execOp ev' o).run P w = .ok (.value v') w

theorem pick_ok {o : Oper} {c a b : Operand} (ho : o.op = .pick c a b) (hE : Evs ρ ev ev' o) {v : Value} (h : regPick ev c a b = some v) : Gives P ρ ev' o v := by
  have hc : VR ρ (ev c) (ev' c) := hE c (by rw [ho]; simp [Op.operands])
  have ha : VR ρ (ev a) (ev' a) := hE a (by rw [ho]; simp [Op.operands])
  have hb : VR ρ (ev b) (ev' b) := hE b (by rw [ho]; simp [Op.operands])
  unfold regPick at h
  split at h
  case h_2 => cases h
  rename_i t hv
  rw [hv] at hc
  cases t <;> simp at h <;> subst h
  · exact ⟨_, hb, fun w => by simp [execOp, ho, hc.bool_inv, asBool]⟩
  · exact ⟨_, ha, fun w => by simp [execOp, ho, hc.bool_inv, asBool]⟩

theorem makeFunc_ok {o : Oper} {fn : Fn} {f c : Array Operand} (ho : o.op = .makeFunc fn f c) (hn : named fn = true) (hE : Evs ρ ev ev' o) : Gives P ρ ev' o (.func fn ⟨f.toList.map ev⟩ ⟨c.toList.map ev⟩) := by
  have h1 : ∀ x ∈ f.toList, VR ρ (ev x) (ev' x) := fun x hx => hE x (by rw [ho]; simp [Op.operands]; exact .inl (by simpa using hx))
  have h2 : ∀ x ∈ c.toList, VR ρ (ev x) (ev' x) := fun x hx => hE x (by rw [ho]; simp [Op.operands]; exact .inr (by simpa using hx))
  refine ⟨.func fn ⟨f.toList.map ev'⟩ ⟨c.toList.map ev'⟩, .func fn hn (VRs.map h1) (VRs.map h2), fun w => ?_⟩
  have e : ∀ l : Array Operand, l.map ev' = ⟨l.toList.map ev'⟩ := fun l => by apply Array.ext'; simp
  simp [execOp, ho, Instr.makeFunc, e f, e c]

theorem extract_ok {o : Oper} {t : Operand} {ix : Nat} (ho : o.op = .extract t ix) (hE : Evs ρ ev ev' o) {v : Value} (h : regExtract (ev t) ix = some v) : Gives P ρ ev' o v := by
  have hc : VR ρ (ev t) (ev' t) := hE t (by rw [ho]; simp [Op.operands])
  unfold regExtract at h
  split at h
  case h_2 => cases h
  rename_i vs hv
  rw [hv] at hc
  obtain ⟨c', e', hcs⟩ := hc.tuple_inv
  obtain ⟨v', hv', r⟩ := hcs.toArray_get ix v h
  exact ⟨v', r, fun w => by simp [execOp, ho, Instr.extract, e', hv']⟩

theorem nilCheck_ok {o : Oper} {x : Operand} (ho : o.op = .nilCheck x) (hE : Evs ρ ev ev' o) {v : Value} (h : regNilCheck (ev x) = some v) : Gives P ρ ev' o v := by
  have hc : VR ρ (ev x) (ev' x) := hE x (by rw [ho]; simp [Op.operands])
  unfold regNilCheck at h
  split at h
  · rename_i a hv
    cases h
    rw [hv] at hc
    obtain ⟨a', e', har⟩ := hc.ptr_inv
    exact ⟨.pointer (some a'), .ptr har, fun w => by simp [execOp, ho, e']⟩
  · rename_i f a b hv
    cases h
    rw [hv] at hc
    obtain ⟨a', b', e', h1, h2⟩ := hc.func_inv rfl
    refine ⟨.func (.func f) a' b', ?_, fun w => by simp [execOp, ho, e']⟩
    exact .func _ rfl h1 h2
  · rename_i l a b hv
    cases h
    rw [hv] at hc
    obtain ⟨p, e', h1⟩ := hc.yield_inv
    rw [← hv]
    exact ⟨ev' x, hE x (by rw [ho]; simp [Op.operands]), fun w => by simp [execOp, ho, e']⟩
  · cases h

theorem len_ok {o : Oper} {c : Call} (ho : o.op = .call c) (hb : c.callee = .builtin .len) {t : TypeId} {x : Operand} (ht : c.argTypes[0]? = some t) (hx : c.args[0]? = some x) (hE : Evs ρ ev ev' o) {v : Value}
    (h : regLen P t (ev x) = some v) : Gives P ρ ev' o v := by
  have hmem : x ∈ o.op.operands.toList := by
    rw [ho]
    have : x ∈ c.args.toList := List.mem_of_getElem? (by simpa using hx)
    simp [Op.operands, Call.operands, hb]
    simpa using this
  have hc : VR ρ (ev x) (ev' x) := hE x hmem
  have run : ∀ w n, (Builtin.len_ c.argTypes o.type (c.args.map ev')).run P w = .ok (.int .i64 n) w → (execOp ev' o).run P w = .ok (.value (.int .i64 n)) w := fun w n hr => by
    simp [execOp, ho, resolve, hb, invoke, builtin, hr]
  have ha : (c.args.map ev')[0]? = some (ev' x) := by simp [hx]
  unfold regLen at h
  split at h
  · rename_i a n cap hv
    rw [hv] at hc
    cases hu : P.underlying t with
    | none => simp [hu] at h
    | some d =>
      cases d <;> simp only [hu] at h <;> try cases h
      refine ⟨.int .i64 n, .int _ _, fun w => run w n ?_⟩
      cases a with
      | none => simp [Builtin.len_, ht, ha, hc.sl0_inv, und_run hu w, goInt]
      | some a =>
        obtain ⟨a', c', e', _⟩ := hc.sl_inv
        simp [Builtin.len_, ht, ha, e', und_run hu w, goInt]
  · rename_i s hv
    rw [hv] at hc
    cases hu : P.underlying t with
    | none => simp [hu] at h
    | some d =>
      cases d <;> simp only [hu] at h <;> try cases h
      refine ⟨.int .i64 s.size, .int _ _, fun w => run w s.size ?_⟩
      simp [Builtin.len_, ht, ha, hc.str_inv, und_run hu w, goInt]
  · cases hu : P.underlying t with
    | none => simp [hu] at h
    | some d =>
      cases d <;> simp only [hu] at h <;> try cases h
      rename_i n e
      refine ⟨.int .i64 n, .int _ _, fun w => run w n ?_⟩
      simp [Builtin.len_, ht, ha, und_run hu w, goInt]

theorem two_args {c : Call} {v u : Value} (h : c.args.toList.map ev = [v, u]) : ∃ x y, c.args = #[x, y] ∧ ev x = v ∧ ev y = u := by
  obtain ⟨l, hl⟩ : ∃ l, c.args = ⟨l⟩ := ⟨c.args.toList, rfl⟩
  rw [hl] at h
  match l, h, hl with
  | [x, y], h, hl => simp at h; exact ⟨x, y, hl, h.1, h.2⟩

theorem min_ok {o : Oper} {c : Call} (ho : o.op = .call c) (hb : c.callee = .builtin .min) (hE : Evs ρ ev ev' o) {v : Value} (h : regMin (c.args.toList.map ev) = some v) : Gives P ρ ev' o v := by
  unfold regMin at h
  split at h
  case h_2 => cases h
  rename_i k x k' y hl
  cases h
  obtain ⟨a, b, hab, ha, hb'⟩ := two_args hl
  have h1 : VR ρ (ev a) (ev' a) := hE a (by rw [ho]; simp [Op.operands, Call.operands, hb, hab])
  have h2 : VR ρ (ev b) (ev' b) := hE b (by rw [ho]; simp [Op.operands, Call.operands, hb, hab])
  rw [ha] at h1; rw [hb'] at h2
  refine ⟨_, plain_refl 3 _ rfl, fun w => ?_⟩
  simp only [execOp, ho, resolve, hb, hab, Sem.run_bind, Sem.run_pure, Result.andThen_ok, invoke, builtin, Builtin.min_, List.map_toArray, List.map_cons, List.map_nil, h1.int_inv, h2.int_inv, List.foldlM_cons, List.foldlM_nil, Builtin.min2]
  by_cases hyx : y < x <;> simp [hyx]

theorem three_args {l : Array Operand} {u v x : Value} (h : l.toList.map ev = [u, v, x]) : ∃ a b c, l = #[a, b, c] ∧ ev a = u ∧ ev b = v ∧ ev c = x := by
  obtain ⟨l⟩ := l
  match l, h with
  | [a, b, c], h => simp at h; exact ⟨a, b, c, rfl, h.1, h.2.1, h.2.2⟩
  | [], h => simp at h
  | [_], h => simp at h
  | [_, _], h => simp at h
  | _ :: _ :: _ :: _ :: _, h => simp at h

theorem max_ok {o : Oper} {c : Call} (ho : o.op = .call c) (hb : c.callee = .builtin .max) (hE : Evs ρ ev ev' o) {v : Value} (h : regMax (c.args.toList.map ev) = some v) : Gives P ρ ev' o v := by
  unfold regMax at h
  split at h
  · rename_i k x k' y hl
    cases h
    obtain ⟨a, b, hab, ha, hb'⟩ := two_args hl
    have h1 : VR ρ (ev a) (ev' a) := hE a (by rw [ho]; simp [Op.operands, Call.operands, hb, hab])
    have h2 : VR ρ (ev b) (ev' b) := hE b (by rw [ho]; simp [Op.operands, Call.operands, hb, hab])
    rw [ha] at h1; rw [hb'] at h2
    refine ⟨_, plain_refl 3 _ rfl, fun w => ?_⟩
    simp only [execOp, ho, resolve, hb, hab, Sem.run_bind, Sem.run_pure, Result.andThen_ok, invoke, builtin, Builtin.max_, List.map_toArray, List.map_cons, List.map_nil, h1.int_inv, h2.int_inv, List.foldlM_cons, List.foldlM_nil, Builtin.max2]
    by_cases hyx : y > x <;> simp [hyx]
  · rename_i k x k' y k'' z hl
    cases h
    obtain ⟨a, b, d, hab, ha, hb', hd⟩ := three_args hl
    have h1 : VR ρ (ev a) (ev' a) := hE a (by rw [ho]; simp [Op.operands, Call.operands, hb, hab])
    have h2 : VR ρ (ev b) (ev' b) := hE b (by rw [ho]; simp [Op.operands, Call.operands, hb, hab])
    have h3 : VR ρ (ev d) (ev' d) := hE d (by rw [ho]; simp [Op.operands, Call.operands, hb, hab])
    rw [ha] at h1; rw [hb'] at h2; rw [hd] at h3
    refine ⟨_, plain_refl 3 _ rfl, fun w => ?_⟩
    simp only [execOp, ho, resolve, hb, hab, Sem.run_bind, Sem.run_pure, Result.andThen_ok, invoke, builtin, Builtin.max_, List.map_toArray, List.map_cons, List.map_nil, h1.int_inv, h2.int_inv, h3.int_inv, List.foldlM_cons, List.foldlM_nil, Builtin.max2]
    by_cases hyx : y > x
    · by_cases hz : z > y <;> simp [hyx, hz]
    · by_cases hz : z > x <;> simp [hyx, hz]
  · cases h

theorem regCall_ok {o : Oper} {c : Call} (ho : o.op = .call c) (hE : Evs ρ ev ev' o) {v : Value} (h : regCall P ev c = some v) : Gives P ρ ev' o v := by
  unfold regCall at h
  split at h
  case h_2 => cases h
  rename_i b hb
  split at h
  · split at h
    case h_2 => cases h
    rename_i t x ht hx
    exact len_ok ho hb ht hx hE h
  · exact min_ok ho hb hE h
  · exact max_ok ho hb hE h
  · cases h

theorem un_ok {o : Oper} {op : UnOp} {t : TypeId} {x : Operand} (ho : o.op = .unOp op t x) (hE : Evs ρ ev ev' o) {v : Value} (h : regUn P ev o op (ev x) = some v) : Gives P ρ ev' o v := by
  have hs : ∀ cs b, o.op ≠ .select cs b := fun cs b e => by rw [ho] at e; cases e
  have hc : VR ρ (ev x) (ev' x) := hE x (by rw [ho]; simp [Op.operands])
  unfold regUn at h
  split at h
  · rename_i b hv
    cases h
    rw [hv] at hc
    exact ⟨.bool !b, .bool _, fun w => by simp [execOp, ho, hc.bool_inv, Op.unary]⟩
  · exact regPlain_ok hE hs h

theorem convert_ok {o : Oper} {s d : TypeId} {x : Operand} (ho : o.op = .convert s d x) (hE : Evs ρ ev ev' o) {v : Value} (h : regConvert P ev o s d (ev x) = some v) : Gives P ρ ev' o v := by
  have hs : ∀ cs b, o.op ≠ .select cs b := fun cs b e => by rw [ho] at e; cases e
  have hc : VR ρ (ev x) (ev' x) := hE x (by rw [ho]; simp [Op.operands])
  unfold regConvert at h
  split at h
  · rename_i k n hv
    rw [hv] at hc
    split at h
    · rename_i sd q hu hd
      cases h
      refine ⟨_, .int _ _, fun w => ?_⟩
      simp [execOp, ho, convert, und_run hu w, und_run hd w, hc.int_inv, Conv.intToInt]
    · exact regPlain_ok hE hs h
  · exact regPlain_ok hE hs h

theorem index_ok {o : Oper} {t : TypeId} {x i : Operand} (ho : o.op = .index t x i) (hE : Evs ρ ev ev' o) {v : Value} (h : regIndex P ev o t (ev x) (ev i) = some v) : Gives P ρ ev' o v := by
  have hs : ∀ cs b, o.op ≠ .select cs b := fun cs b e => by rw [ho] at e; cases e
  have hx : VR ρ (ev x) (ev' x) := hE x (by rw [ho]; simp [Op.operands])
  have hi : VR ρ (ev i) (ev' i) := hE i (by rw [ho]; simp [Op.operands])
  unfold regIndex at h
  split at h
  · rename_i s k n hv hn
    rw [hv] at hx; rw [hn] at hi
    split at h
    · rename_i b hu hd hb
      cases h
      simp at hd
      refine ⟨_, .int _ _, fun w => ?_⟩
      simp only [execOp, ho, Instr.index, Sem.run_bind, hi.int_inv, asIntOf, Sem.run_pure, Result.andThen_ok, und_run hu w, hx.str_inv, if_pos hd, hb]
    · cases h
  · exact regPlain_ok hE hs h

theorem binOp_int {op : BinOp} {t : TypeId} {k k' : IntKind} {a b : Int} {v : Value} (h : intBin op k k' a b = some v) : (binOp op t (.int k a) (.int k' b) : Sem Value) = .pure v := by
  unfold intBin at h
  split at h
  case h_2 => cases h
  rename_i hk
  simp at hk
  subst hk
  cases op <;> simp at h <;> subst h <;> simp [binOp, Op.intArith, Op.intCmp] <;> rfl

theorem eqGuard_ok {op : BinOp} {t : TypeId} {x y : Operand} {v u : Value} (h1 : ∀ xs, v ≠ .agg xs) (h2 : v ≠ .nilIface) (w : World) : (eqGuard op t x y v u).run P w = .ok () w := by
  unfold eqGuard
  cases v <;> first | exact absurd rfl (h1 _) | exact absurd rfl h2 | (cases op <;> simp)

theorem equal_run {t : TypeId} {v u : Value} {r : Bool} (h : ∀ w, (Op.equal t v u).run P w = .ok r w) {op : BinOp} {z : Value} (he : (op = .eql ∧ z = .bool r) ∨ (op = .neq ∧ z = .bool !r))
    (hv : (∃ a, v = .pointer a) ∨ (∃ a n c, v = .slice a n c) ∨ (∃ a, v = .map a) ∨ (∃ f a b, v = .func f a b)) (w : World) : (binOp op t v u).run P w = .ok z w := by
  rcases he with ⟨rfl, rfl⟩ | ⟨rfl, rfl⟩ <;> rcases hv with ⟨a, rfl⟩ | ⟨a, n, c, rfl⟩ | ⟨a, rfl⟩ | ⟨f, a, b, rfl⟩ <;> simp [binOp, h w]

theorem eq_ptr {t e : TypeId} (ht : P.underlying t = some (.pointer e)) (d : Nat) (a : Addr) (w : World) : (Op.equalIn (d + 1) t (.pointer (some a)) (.pointer none)).run P w = .ok false w := by
  simp [Op.equalIn, und_run ht w]
theorem eq_slice {t e : TypeId} (ht : P.underlying t = some (.slice e)) (d : Nat) (a : Addr) (n c n' c' : Nat) (w : World) : (Op.equalIn (d + 1) t (.slice (some a) n c) (.slice none n' c')).run P w = .ok false w := by
  simp [Op.equalIn, und_run ht w]
theorem eq_map {t k e : TypeId} (ht : P.underlying t = some (.map k e)) (d : Nat) (a : Nat) (w : World) : (Op.equalIn (d + 1) t (.map (some a)) (.map none)).run P w = .ok false w := by
  simp [Op.equalIn, und_run ht w]
theorem eq_func {t : TypeId} {p q : Array TypeId} {r : Bool} (ht : P.underlying t = some (.func p q r)) (d : Nat) (f : Fn) (a b : Array Value) (w : World) : (Op.equalIn (d + 1) t (.func f a b) .nilFunc).run P w = .ok false w := by
  simp [Op.equalIn, und_run ht w]

theorem eqNil_some {op : BinOp} {v : Value} (h : eqNil op = some v) : (op = .eql ∧ v = .bool false) ∨ (op = .neq ∧ v = .bool !false) := by
  unfold eqNil at h
  cases op <;> simp at h <;> simp [← h]

theorem bin_ok {o : Oper} {op : BinOp} {t u : TypeId} {x y : Operand} (ho : o.op = .binOp op t x y u) (hE : Evs ρ ev ev' o) {v : Value} (h : regBin P ev o op t (ev x) (ev y) = some v) : Gives P ρ ev' o v := by
  have hs : ∀ cs b, o.op ≠ .select cs b := fun cs b e => by rw [ho] at e; cases e
  have hx : VR ρ (ev x) (ev' x) := hE x (by rw [ho]; simp [Op.operands])
  have hy : VR ρ (ev y) (ev' y) := hE y (by rw [ho]; simp [Op.operands])
  have fin : ∀ {z : Value}, (∀ xs, ev' x ≠ .agg xs) → ev' x ≠ .nilIface → (∀ w, (binOp op t (ev' x) (ev' y)).run P w = .ok z w) → ∀ w, (execOp ev' o).run P w = .ok (.value z) w := fun h1 h2 hr w => by
    simp [execOp, ho, eqGuard_ok (P := P) h1 h2 w, hr w]
  have isb : ∀ {z : Value}, eqNil op = some z → VR ρ z z := fun hz => by rcases eqNil_some hz with ⟨_, rfl⟩ | ⟨_, rfl⟩ <;> exact .bool _
  unfold regBin at h
  split at h
  · rename_i k a hv
    rw [hv] at hx
    split at h
    · rename_i k' b hu
      rw [hu] at hy
      split at h
      · rename_i r hr
        cases h
        have hp := fun w => (by rw [binOp_int (t := t) hr]; rfl : (binOp op t (.int k a) (.int k' b)).run P w = .ok v w)
        refine ⟨v, ?_, fin (by rw [hx.int_inv]; simp) (by rw [hx.int_inv]; simp) (by rw [hx.int_inv, hy.int_inv]; exact hp)⟩
        unfold intBin at hr
        split at hr
        case h_2 => cases hr
        cases op <;> simp at hr <;> subst hr <;> first | exact .int _ _ | exact .bool _
      · exact regPlain_ok hE hs h
    · cases h
  · rename_i a hv
    rw [hv] at hx
    obtain ⟨a', ea, _⟩ := hx.ptr_inv
    split at h
    case h_2 => cases h
    rename_i e hu ht
    rw [hu] at hy
    refine ⟨v, isb h, fin (by rw [ea]; simp) (by rw [ea]; simp) ?_⟩
    rw [ea, hy.ptr0_inv]
    exact equal_run (r := false) (fun w => eq_ptr ht 9999 _ w) (eqNil_some h) (.inl ⟨_, rfl⟩)
  · rename_i a n c hv
    rw [hv] at hx
    obtain ⟨a', c', ea, _⟩ := hx.sl_inv
    split at h
    case h_2 => cases h
    rename_i n' c'' e hu ht
    rw [hu] at hy
    refine ⟨v, isb h, fin (by rw [ea]; simp) (by rw [ea]; simp) ?_⟩
    rw [ea, hy.sl0_inv]
    exact equal_run (r := false) (fun w => eq_slice ht 9999 _ _ _ _ _ w) (eqNil_some h) (.inr (.inl ⟨_, _, _, rfl⟩))
  · rename_i a hv
    rw [hv] at hx
    obtain ⟨a', ea, _⟩ := hx.map_inv
    split at h
    case h_2 => cases h
    rename_i k e hu ht
    rw [hu] at hy
    refine ⟨v, isb h, fin (by rw [ea]; simp) (by rw [ea]; simp) ?_⟩
    rw [ea, hy.map0_inv]
    exact equal_run (r := false) (fun w => eq_map ht 9999 _ w) (eqNil_some h) (.inr (.inr (.inl ⟨_, rfl⟩)))
  · rename_i fn a b hv
    rw [hv] at hx
    obtain ⟨f', a', b', ea⟩ := hx.func_some
    split at h
    case h_2 => cases h
    rename_i p q r hu ht
    rw [hu] at hy
    refine ⟨v, isb h, fin (by rw [ea]; simp) (by rw [ea]; simp) ?_⟩
    rw [ea, hy.nilFunc_inv]
    exact equal_run (r := false) (fun w => eq_func ht 9999 _ _ _ w) (eqNil_some h) (.inr (.inr (.inr ⟨_, _, _, rfl⟩)))
  · exact regPlain_ok hE hs h
end
end Go.Ab
namespace Go.Ab
open Go Go.RowKit
section
variable {P : Program} {ρ : Ren} {ev ev' : Operand → Value}

theorem bound_ok {x : Value} {y : Nat} {code : BoundsCode} {k : IntKind} {i : Int} (hx : x = .int k i) (h : 0 ≤ i ∧ i ≤ (y : Int)) (w : World) : (Instr.sliceBound x y code).run P w = .ok i.toNat w := by
  subst hx
  simp [Instr.sliceBound, asIntOf, h]

theorem bnd_ok {y : Nat} {x : Option Operand} {d : Option Nat} {r : Nat} (h : bnd y (x.map ev) d = some r) : (x = none ∧ d = some r) ∨ (∃ o k i, x = some o ∧ ev o = .int k i ∧ 0 ≤ i ∧ i ≤ (y : Int) ∧ r = i.toNat) := by
  cases x with
  | none => exact .inl ⟨rfl, by simpa [bnd] using h⟩
  | some o =>
    right
    simp only [Option.map_some, bnd] at h
    split at h
    · rename_i k i hv
      cases hv' : ev o <;> simp only [hv'] at hv <;> try cases hv
      split at h
      · rename_i hb; cases h; exact ⟨o, _, _, rfl, hv', hb.1, hb.2, rfl⟩
      · cases h
    · cases h
    · rename_i hv; cases hv

theorem bounds_ok {isS : Bool} {len cap cap' : Nat} (hcap : cap ≤ cap') {lo hi mx : Option Operand} (hlo : ∀ x ∈ lo, VR ρ (ev x) (ev' x)) (hhi : ∀ x ∈ hi, VR ρ (ev x) (ev' x)) (hmx : ∀ x ∈ mx, VR ρ (ev x) (ev' x))
    {l h m : Nat} (e : boundsA len cap (lo.map ev) (hi.map ev) (mx.map ev) = some (l, h, m)) :
    ∃ m', (∀ w, (Instr.sliceBounds isS len cap' (lo.map ev') (hi.map ev') (mx.map ev')).run P w = .ok (l, h, m') w) ∧ l ≤ h ∧ m ≤ cap ∧ (m' = m ∨ (m = cap ∧ m' = cap')) := by
  unfold boundsA at e
  split at e
  · cases e
  rename_i m1 em
  split at e
  · cases e
  rename_i h1 eh
  split at e
  · cases e
  rename_i l1 el
  simp only [Option.some.injEq, Prod.mk.injEq] at e
  obtain ⟨rfl, rfl, rfl⟩ := e
  have hl : l1 ≤ h1 := by
    rcases bnd_ok el with ⟨_, hd⟩ | ⟨_, _, _, _, _, _, hi, rfl⟩
    · simp at hd; omega
    · omega
  rcases bnd_ok em with ⟨rfl, hd⟩ | ⟨om, km, im, rfl, hvm, hm0, hm1, rfl⟩
  · simp at hd
    subst hd
    refine ⟨cap', fun w => ?_, hl, Nat.le_refl _, .inr ⟨rfl, rfl⟩⟩
    unfold Instr.sliceBounds
    rcases bnd_ok eh with ⟨rfl, hd⟩ | ⟨oh, kh, ih, rfl, hvh, hh0, hh1, rfl⟩
    · simp at hd
      subst hd
      rcases bnd_ok el with ⟨rfl, hd⟩ | ⟨ol, kl, il, rfl, hvl, hl0, hl1, rfl⟩
      · simp at hd; subst hd; simp
      · have hvl' := hlo ol rfl; rw [hvl] at hvl'
        simp [bound_ok (P := P) hvl'.int_inv ⟨hl0, hl1⟩ w]
    · have hvh' := hhi oh rfl; rw [hvh] at hvh'
      rcases bnd_ok el with ⟨rfl, hd⟩ | ⟨ol, kl, il, rfl, hvl, hl0, hl1, rfl⟩
      · simp at hd; subst hd; simp [bound_ok (P := P) (y := cap') hvh'.int_inv ⟨hh0, by omega⟩ w]
      · have hvl' := hlo ol rfl; rw [hvl] at hvl'
        simp [bound_ok (P := P) (y := cap') hvh'.int_inv ⟨hh0, by omega⟩ w, bound_ok (P := P) hvl'.int_inv ⟨hl0, hl1⟩ w]
  · have hvm' := hmx om rfl; rw [hvm] at hvm'
    refine ⟨im.toNat, fun w => ?_, hl, by omega, .inl rfl⟩
    unfold Instr.sliceBounds
    rcases bnd_ok eh with ⟨rfl, hd⟩ | ⟨oh, kh, ih, rfl, hvh, hh0, hh1, rfl⟩
    · simp at hd
    · have hvh' := hhi oh rfl; rw [hvh] at hvh'
      rcases bnd_ok el with ⟨rfl, hd⟩ | ⟨ol, kl, il, rfl, hvl, hl0, hl1, rfl⟩
      · simp at hd; subst hd; simp [bound_ok (P := P) (y := cap') hvm'.int_inv ⟨hm0, by omega⟩ w, bound_ok (P := P) (y := im.toNat) hvh'.int_inv ⟨hh0, by omega⟩ w]
      · have hvl' := hlo ol rfl; rw [hvl] at hvl'
        simp [bound_ok (P := P) (y := cap') hvm'.int_inv ⟨hm0, by omega⟩ w, bound_ok (P := P) (y := im.toNat) hvh'.int_inv ⟨hh0, by omega⟩ w, bound_ok (P := P) hvl'.int_inv ⟨hl0, hl1⟩ w]

theorem slice_ok {w0 w : World} {H : Hp} (hR : Rel P w0 ρ H w) {o : Oper} {t : TypeId} {x : Operand} {lo hi mx : Option Operand} (ho : o.op = .slice t x lo hi mx) (hE : Evs ρ ev ev' o) {v : Value}
    (h : regSlice P H ev o t x lo hi mx = some v) : Gives P ρ ev' o v := by
  have hs : ∀ cs b, o.op ≠ .select cs b := fun cs b e => by rw [ho] at e; cases e
  have hx : VR ρ (ev x) (ev' x) := hE x (by rw [ho]; simp [Op.operands])
  have hlo : ∀ y ∈ lo, VR ρ (ev y) (ev' y) := fun y hy => hE y (by rw [ho]; cases hy; simp [Op.operands])
  have hhi : ∀ y ∈ hi, VR ρ (ev y) (ev' y) := fun y hy => hE y (by rw [ho]; cases hy; simp [Op.operands])
  have hmx : ∀ y ∈ mx, VR ρ (ev y) (ev' y) := fun y hy => hE y (by rw [ho]; cases hy; simp [Op.operands])
  unfold regSlice at h
  split at h
  · rename_i e a len cap hu hv
    rw [hv] at hx
    obtain ⟨a', cap', ea, hcase⟩ := hx.sl_inv
    split at h
    case h_2 => cases h
    rename_i s c E l hh m hsz hget hb
    split at h
    case isFalse => cases h
    rename_i hc
    obtain ⟨rfl, hhm⟩ := hc
    cases h
    have hcap : cap ≤ cap' := by
      rcases hcase with ⟨_, hck⟩ | ⟨_, rfl, rfl⟩
      · rcases hck with rfl | ⟨p, es, N, M, _, _, _, _, hle⟩
        · exact Nat.le_refl _
        · exact hle
      · exact Nat.le_refl _
    obtain ⟨m', hbr, hlh, hmc, hmm⟩ := bounds_ok (P := P) (isS := true) hcap hlo hhi hmx hb
    refine ⟨.slice (if m' = l then some a' else some (a'.add (l * s))) (hh - l) (m' - l), ?_, fun w => ?_⟩
    · by_cases hml : m' = l
      · have e1 : hh - l = 0 := by rcases hmm with rfl | ⟨rfl, rfl⟩ <;> omega
        have e2 : m - l = 0 := by rcases hmm with rfl | ⟨rfl, rfl⟩ <;> omega
        have e3 : m' - l = 0 := by omega
        rw [e1, e2, e3, if_pos hml]
        exact .sle _ _
      · rw [if_neg hml]
        rcases hcase with ⟨har, hck⟩ | ⟨rfl, rfl, rfl⟩
        · refine .sl (har.add _) ?_
          rcases hmm with rfl | ⟨rfl, rfl⟩
          · exact .inl rfl
          · rcases hck with rfl | ⟨p, es, N, M, hp, htl, hN, hM, hle⟩
            · exact .inl rfl
            · right
              obtain ⟨q, c', fz, hq, _, _, hten⟩ := hR.blk a.block _ hget
              rw [hp] at hq; cases hq
              obtain ⟨_, _, _, hes⟩ := hten es N M htl
              have : es = s := by unfold size? at hsz; rw [hsz] at hes; simpa using hes.symm
              subst this
              have hadd : ∀ b : Addr, (b.add (l * es)).off = b.off + l * es := fun b => by unfold Addr.add; split <;> simp_all
              have hblk : (a.add (l * es)).block = a.block := by unfold Addr.add; split <;> rfl
              have h1 : (m - l) * es = m * es - l * es := Nat.sub_mul m l es
              have h2 : (m' - l) * es = m' * es - l * es := Nat.sub_mul m' l es
              have h3 : l * es ≤ m * es := Nat.mul_le_mul_right es (by omega)
              have h4 : l * es ≤ m' * es := Nat.mul_le_mul_right es (by omega)
              exact ⟨p, es, N, M, by rw [hblk]; exact hp, htl, by rw [hadd, h1]; omega, by rw [hadd, h2]; omega, by omega⟩
        · exfalso
          rcases hmm with rfl | ⟨rfl, rfl⟩ <;> omega
    · simp only [execOp, ho, Instr.sliceAt, Sem.run_bind, und_run hu w, Result.andThen_ok, Instr.slice, ea, hbr w, size_run hsz w, Sem.run_pure]
      split <;> rfl
  · rename_i e hu hv
    rw [hv] at hx
    split at h
    case h_2 => cases h
    rename_i s hsz hb
    cases h
    obtain ⟨m', hbr, hlh, hmc, hmm⟩ := bounds_ok (P := P) (isS := true) (Nat.le_refl 0) hlo hhi hmx hb
    have hm0 : m' = 0 := by rcases hmm with rfl | ⟨_, rfl⟩ <;> rfl
    subst hm0
    refine ⟨.slice none 0 0, .sl0 0 0, fun w => ?_⟩
    simp [execOp, ho, Instr.sliceAt, und_run hu w, Instr.slice, hx.sl0_inv, hbr w, size_run hsz w]
  · rename_i n e a hu hv
    rw [hv] at hx
    obtain ⟨a', ea, har⟩ := hx.ptr_inv
    split at h
    case h_2 => cases h
    rename_i s l hh m hsz hb
    split at h
    case isTrue => cases h
    rename_i hml
    cases h
    obtain ⟨m', hbr, hlh, hmc, hmm⟩ := bounds_ok (P := P) (isS := false) (Nat.le_refl n) hlo hhi hmx hb
    have : m' = m := by rcases hmm with rfl | ⟨rfl, rfl⟩ <;> rfl
    subst this
    refine ⟨.slice (some (a'.add (l * s))) (hh - l) (m' - l), .sl (har.add _) (.inl rfl), fun w => ?_⟩
    simp only [execOp, ho, Instr.sliceAt, Sem.run_bind, und_run hu w, Result.andThen_ok, ea, Instr.sureAddr, Sem.run_pure, hbr w, size_run hsz w, if_neg hml]
  · exact regPlain_ok hE hs h
  · cases h

theorem regOp_ok {w0 w : World} {H : Hp} (hR : Rel P w0 ρ H w) {o : Oper} (hE : Evs ρ ev ev' o) {v : Value} (h : regOp P H ev o = some v) : Gives P ρ ev' o v := by
  unfold regOp at h
  split at h
  · rename_i x ho; cases h; exact ⟨ev' x, hE x (by rw [ho]; simp [Op.operands]), fun w => by simp [execOp, ho]⟩
  · rename_i x ho; cases h; exact ⟨ev' x, hE x (by rw [ho]; simp [Op.operands]), fun w => by simp [execOp, ho]⟩
  · rename_i ho; exact pick_ok ho hE h
  · rename_i ho
    split at h
    · rename_i hn; cases h; exact makeFunc_ok ho hn hE
    · cases h
  · rename_i ho; exact extract_ok ho hE h
  · rename_i ho; exact field_ok ho hE h
  · rename_i ho; exact build_ok ho hE h
  · rename_i ho; exact fieldAddr_ok ho hE h
  · rename_i ho; exact indexAddr_ok ho hE h
  · rename_i ho; exact slice_ok hR ho hE h
  · rename_i ho; exact nilCheck_ok ho hE h
  · rename_i ho; exact regCall_ok ho hE h
  · rename_i ho; exact bin_ok ho hE h
  · rename_i ho; exact un_ok ho hE h
  · rename_i ho; exact convert_ok ho hE h
  · rename_i ho; exact index_ok ho hE h
  · rename_i ho; exact regPlain_ok hE (fun cs b e => by rw [ho] at e; cases e) h
  · cases h
end
end Go.Ab
