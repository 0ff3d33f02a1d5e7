/- An operation that looks at no memory: what is reckoned is what is run. -/
import Derived.Test.YtkajcbjacjfhnaaXd
import Derived.Laws.Cells
namespace Go.Ab
open Go Go.RowKit

def TmR (ρ : Ren) (nt : Nat) (t : Tm) (a : Array Value) : Prop := nt = a.size ∧ ∀ i, i < nt → VR ρ (getT t i) (a.getD i undef)

theorem TmR.ext {ρ ρ' : Ren} {nt : Nat} (h : Ext ρ ρ') {t : Tm} {a : Array Value} (r : TmR ρ nt t a) : TmR ρ' nt t a := ⟨r.1, fun i hi => (r.2 i hi).ext h⟩

theorem vr_undef (ρ : Ren) : VR ρ undef undef := .tuple .nil

/-- two readings of an operation's operands -/
def Evs (ρ : Ren) (ev ev' : Operand → Value) (o : Oper) : Prop := ∀ x ∈ o.op.operands.toList, VR ρ (ev x) (ev' x)

theorem evs_of {ρ : Ren} {nt : Nat} {t : Tm} {a : Act} (h : TmR ρ nt t a.tmps) {o : Oper} (hok : o.op.operands.toList.all (okOpd nt) = true) : Evs ρ (aev t) a.eval o := by
  intro x hx
  have := List.all_eq_true.1 hok x hx
  cases x with
  | tmp i => exact h.2 i (by simpa [okOpd] using this)
  | const v => exact plain_refl 3 v this
  | global g => simp [okOpd] at this
  | func f => exact .func _ .nil .nil

theorem regPlain_ok {P : Program} {ρ : Ren} {ev ev' : Operand → Value} {o : Oper} (hE : Evs ρ ev ev' o) (hs : ∀ cs b, o.op ≠ .select cs b) {v : Value} (h : regPlain P ev o = some v) :
    ∃ v', VR ρ v v' ∧ ∀ w, (execOp ev' o).run P w = .ok (.value v') w := by
  unfold regPlain at h
  cases ha : allPlain ev o with
  | false => simp [ha] at h
  | true =>
    simp only [ha] at h
    have hc : execOp ev' o = execOp ev o := execOp_congr o hs fun x hx => by
      have hx' : x ∈ o.op.operands.toList := by simpa using hx
      exact plain_eq 3 (List.all_eq_true.1 ha x hx') (hE x hx')
    cases hp : pureRun P (execOp ev o) with
    | none => simp [hp, asValue] at h
    | some nx =>
      cases nx <;> simp only [hp, asValue] at h <;> try cases h
      rename_i u
      cases hu : plain 3 u with
      | false => simp [hu] at h
      | true =>
        simp only [hu, Option.some.injEq] at h
        subst h
        exact ⟨u, plain_refl 3 u hu, fun w => by rw [hc]; exact pureRun_run _ hp w⟩

theorem VRs.map {ρ : Ren} {ev ev' : Operand → Value} : ∀ {l : List Operand}, (∀ x ∈ l, VR ρ (ev x) (ev' x)) → VRs ρ (l.map ev) (l.map ev')
  | [], _ => .nil
  | x :: l, h => .cons (h x (by simp)) (VRs.map fun y hy => h y (by simp [hy]))

theorem AR.add {ρ : Ren} {a a' : Addr} (h : AR ρ a a') (n : Nat) : AR ρ (a.add n) (a'.add n) := by
  obtain ⟨s, s', p, hp, e1, e2⟩ := h
  unfold Addr.add
  by_cases hn : n = 0
  · simp only [hn, if_true]; exact ⟨s, s', p, hp, e1, e2⟩
  · simp only [hn, if_false]; exact ⟨rfl, rfl, p, hp, e1, by show a'.off + n = a.off + n + p.shift; omega⟩

theorem agg_run {P : Program} {t : TypeId} {b : Bool} (h : agg? P t = some b) (w : World) : (isAgg t).run P w = .ok b w := by
  unfold agg? at h
  unfold isAgg underlying
  cases hu : P.underlying t with
  | none => simp [hu] at h
  | some d =>
    simp only [hu] at h
    cases d <;> simp at h <;> subst h <;> simp [hu]

theorem size_run {P : Program} {t : TypeId} {n : Nat} (h : size? P t = some n) (w : World) : (sizeOf t).run P w = .ok n w := by
  unfold size? at h
  cases hi : P.info? t with
  | none => simp [hi] at h
  | some i => simp [hi] at h; subst h; simp [sizeOf, typeInfo, hi]

theorem und_run {P : Program} {t : TypeId} {d : TypeDesc} (h : P.underlying t = some d) (w : World) : (underlying t).run P w = .ok d w := by
  simp [underlying, h]

theorem zero_run {P : Program} {t : TypeId} {z : Value} (h : zero? P t = some z) (w : World) : (zeroValue t).run P w = .ok z w ∧ plain 3 z = true := by
  unfold zero? at h
  cases hi : P.info? t with
  | none => simp [hi] at h
  | some i =>
    simp only [hi, Option.bind_some] at h
    cases hz : i.zero with
    | none => simp [hz] at h
    | some y =>
      simp only [hz] at h
      split at h
      · rename_i hp; cases h; exact ⟨by simp [zeroValue, typeInfo, hi, hz], hp⟩
      · cases h

theorem VRs.toArray_get {ρ : Ren} {c c' : Array Value} (h : VRs ρ c.toList c'.toList) (i : Nat) (v : Value) (e : c[i]? = some v) : ∃ v', c'[i]? = some v' ∧ VR ρ v v' := by
  have := h.get i v (by simpa using e)
  simpa using this

theorem part_ok {P : Program} {ρ : Ren} {c c' : Array Value} (h : VRs ρ c.toList c'.toList) {t : TypeId} {off : Nat} {v : Value} (hp : partA P t c off = some v) :
    ∃ v', VR ρ v v' ∧ ∀ w, (part t c' off).run P w = .ok v' w := by
  unfold partA at hp
  cases ha : agg? P t with
  | none => simp [ha] at hp
  | some b =>
    cases b with
    | true =>
      cases hs : size? P t with
      | none => simp [ha, hs] at hp
      | some n =>
        simp only [ha, hs, Option.some.injEq] at hp
        subst hp
        refine ⟨.agg ⟨(c'.toList.drop off).take n⟩, .agg ((h.drop off).take n), fun w => ?_⟩
        simp only [part, Sem.run_bind, agg_run ha w, Result.andThen_ok, if_true, size_run hs w, Sem.run_pure]
        congr 2
        apply Array.ext'
        simp [Array.toList_extract]
    | false =>
      simp only [ha] at hp
      obtain ⟨v', e, r⟩ := h.toArray_get off v hp
      refine ⟨v', r, fun w => ?_⟩
      simp [part, agg_run ha w, e]

theorem VR.agg_inv {ρ : Ren} {c : Array Value} {v' : Value} (h : VR ρ (.agg c) v') : ∃ c', v' = .agg c' ∧ VRs ρ c.toList c'.toList := by
  cases h with | agg h => exact ⟨_, rfl, h⟩
theorem VR.tuple_inv {ρ : Ren} {c : Array Value} {v' : Value} (h : VR ρ (.tuple c) v') : ∃ c', v' = .tuple c' ∧ VRs ρ c.toList c'.toList := by
  cases h with | tuple h => exact ⟨_, rfl, h⟩
theorem VR.bool_inv {ρ : Ren} {b : Bool} {v' : Value} (h : VR ρ (.bool b) v') : v' = .bool b := by cases h; rfl
theorem VR.int_inv {ρ : Ren} {k : IntKind} {n : Int} {v' : Value} (h : VR ρ (.int k n) v') : v' = .int k n := by cases h; rfl
theorem VR.str_inv {ρ : Ren} {s : ByteArray} {v' : Value} (h : VR ρ (.string s) v') : v' = .string s := by cases h; rfl
theorem VR.ptr_inv {ρ : Ren} {a : Addr} {v' : Value} (h : VR ρ (.pointer (some a)) v') : ∃ a', v' = .pointer (some a') ∧ AR ρ a a' := by cases h; exact ⟨_, rfl, ‹_›⟩
theorem VR.ptr0_inv {ρ : Ren} {v' : Value} (h : VR ρ (.pointer none) v') : v' = .pointer none := by cases h; rfl
theorem VR.sl0_inv {ρ : Ren} {n c : Nat} {v' : Value} (h : VR ρ (.slice none n c) v') : v' = .slice none n c := by cases h; rfl
theorem VR.map0_inv {ρ : Ren} {v' : Value} (h : VR ρ (.map none) v') : v' = .map none := by cases h; rfl
theorem VR.nilFunc_inv {ρ : Ren} {v' : Value} (h : VR ρ .nilFunc v') : v' = .nilFunc := by cases h; rfl
theorem VR.map_inv {ρ : Ren} {r : Nat} {v' : Value} (h : VR ρ (.map (some r)) v') : ∃ p, v' = .map (some p.real) ∧ ρ r = some p := by cases h; exact ⟨_, rfl, ‹_›⟩
theorem VR.func_inv {ρ : Ren} {fn : Fn} {f c : Array Value} {v' : Value} (h : VR ρ (.func fn f c) v') : ∃ f' c', v' = .func fn f' c' ∧ VRs ρ f.toList f'.toList ∧ VRs ρ c.toList c'.toList := by
  cases h with | func _ a b => exact ⟨_, _, rfl, a, b⟩
theorem VR.sl_inv {ρ : Ren} {a : Addr} {n c : Nat} {v' : Value} (h : VR ρ (.slice (some a) n c) v') :
    ∃ a' c', v' = .slice (some a') n c' ∧ ((AR ρ a a' ∧ CapOk ρ a a' c c') ∨ (n = 0 ∧ c = 0 ∧ c' = 0)) := by
  cases h with
  | sl h k => exact ⟨_, _, rfl, .inl ⟨h, k⟩⟩
  | sle a a' => exact ⟨a', 0, rfl, .inr ⟨rfl, rfl, rfl⟩⟩

end Go.Ab
