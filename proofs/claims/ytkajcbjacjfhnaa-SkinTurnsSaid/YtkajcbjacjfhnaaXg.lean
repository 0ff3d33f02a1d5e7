/- An operation that looks at no memory (3). -/
import Derived.Test.YtkajcbjacjfhnaaXf
namespace Go.Ab
open Go Go.RowKit
section
variable {P : Program} {ρ : Ren} {ev ev' : Operand → Value}

abbrev Gives (P : Program) (ρ : Ren) (ev' : Operand → Value) (o : Oper) (v : Value) : Prop := ∃ v', VR ρ v v' ∧ ∀ w, (execOp ev' o).run P w = .ok (.value v') w

theorem pick_ok {o : Oper} {c a b : Operand} (ho : o.op = .pick c a b) (hE : Evs ρ ev ev' o) {v : Value} (h : regPick ev c a b = some v) : Gives P ρ ev' o v := by
  have hc : VR ρ (ev c) (ev' c) := hE c (by rw [ho]; simp [Op.operands])
  have ha : VR ρ (ev a) (ev' a) := hE a (by rw [ho]; simp [Op.operands])
  have hb : VR ρ (ev b) (ev' b) := hE b (by rw [ho]; simp [Op.operands])
  unfold regPick at h
  split at h
  case h_2 => cases h
  rename_i t hv
  rw [hv] at hc
  cases t <;> simp at h <;> subst h
  · exact ⟨_, hb, fun w => by simp [execOp, ho, hc.bool_inv, asBool]⟩
  · exact ⟨_, ha, fun w => by simp [execOp, ho, hc.bool_inv, asBool]⟩

theorem makeFunc_ok {o : Oper} {fn : Fn} {f c : Array Operand} (ho : o.op = .makeFunc fn f c) (hE : Evs ρ ev ev' o) : Gives P ρ ev' o (.func fn ⟨f.toList.map ev⟩ ⟨c.toList.map ev⟩) := by
  have h1 : ∀ x ∈ f.toList, VR ρ (ev x) (ev' x) := fun x hx => hE x (by rw [ho]; simp [Op.operands]; exact .inl (by simpa using hx))
  have h2 : ∀ x ∈ c.toList, VR ρ (ev x) (ev' x) := fun x hx => hE x (by rw [ho]; simp [Op.operands]; exact .inr (by simpa using hx))
  refine ⟨.func fn ⟨f.toList.map ev'⟩ ⟨c.toList.map ev'⟩, .func fn (VRs.map h1) (VRs.map h2), fun w => ?_⟩
  have e : ∀ l : Array Operand, l.map ev' = ⟨l.toList.map ev'⟩ := fun l => by apply Array.ext'; simp
  simp [execOp, ho, Instr.makeFunc, e f, e c]

theorem extract_ok {o : Oper} {t : Operand} {ix : Nat} (ho : o.op = .extract t ix) (hE : Evs ρ ev ev' o) {v : Value} (h : regExtract (ev t) ix = some v) : Gives P ρ ev' o v := by
  have hc : VR ρ (ev t) (ev' t) := hE t (by rw [ho]; simp [Op.operands])
  unfold regExtract at h
  split at h
  case h_2 => cases h
  rename_i vs hv
  rw [hv] at hc
  obtain ⟨c', e', hcs⟩ := hc.tuple_inv
  obtain ⟨v', hv', r⟩ := hcs.toArray_get ix v h
  exact ⟨v', r, fun w => by simp [execOp, ho, Instr.extract, e', hv']⟩

theorem nilCheck_ok {o : Oper} {x : Operand} (ho : o.op = .nilCheck x) (hE : Evs ρ ev ev' o) {v : Value} (h : regNilCheck (ev x) = some v) : Gives P ρ ev' o v := by
  have hc : VR ρ (ev x) (ev' x) := hE x (by rw [ho]; simp [Op.operands])
  unfold regNilCheck at h
  split at h
  · rename_i a hv
    cases h
    rw [hv] at hc
    obtain ⟨a', e', har⟩ := hc.ptr_inv
    exact ⟨.pointer (some a'), .ptr har, fun w => by simp [execOp, ho, e']⟩
  · rename_i f a b hv
    cases h
    rw [hv] at hc
    obtain ⟨a', b', e', h1, h2⟩ := hc.func_inv
    refine ⟨.func (.func f) a' b', ?_, fun w => by simp [execOp, ho, e']⟩
    exact .func _ h1 h2
  · cases h

theorem len_ok {o : Oper} {c : Call} (ho : o.op = .call c) (hb : c.callee = .builtin .len) {t : TypeId} {x : Operand} (ht : c.argTypes[0]? = some t) (hx : c.args[0]? = some x) (hE : Evs ρ ev ev' o) {v : Value}
    (h : regLen P t (ev x) = some v) : Gives P ρ ev' o v := by
  have hmem : x ∈ o.op.operands.toList := by
    rw [ho]
    have : x ∈ c.args.toList := List.mem_of_getElem? (by simpa using hx)
    simp [Op.operands, Call.operands, hb]
    simpa using this
  have hc : VR ρ (ev x) (ev' x) := hE x hmem
  have run : ∀ w n, (Builtin.len_ c.argTypes o.type (c.args.map ev')).run P w = .ok (.int .i64 n) w → (execOp ev' o).run P w = .ok (.value (.int .i64 n)) w := fun w n hr => by
    simp [execOp, ho, resolve, hb, invoke, builtin, hr]
  have ha : (c.args.map ev')[0]? = some (ev' x) := by simp [hx]
  unfold regLen at h
  split at h
  · rename_i a n cap hv
    rw [hv] at hc
    cases hu : P.underlying t with
    | none => simp [hu] at h
    | some d =>
      cases d <;> simp only [hu] at h <;> try cases h
      refine ⟨.int .i64 n, .int _ _, fun w => run w n ?_⟩
      cases a with
      | none => simp [Builtin.len_, ht, ha, hc.sl0_inv, und_run hu w, goInt]
      | some a =>
        obtain ⟨a', c', e', _⟩ := hc.sl_inv
        simp [Builtin.len_, ht, ha, e', und_run hu w, goInt]
  · rename_i s hv
    rw [hv] at hc
    cases hu : P.underlying t with
    | none => simp [hu] at h
    | some d =>
      cases d <;> simp only [hu] at h <;> try cases h
      refine ⟨.int .i64 s.size, .int _ _, fun w => run w s.size ?_⟩
      simp [Builtin.len_, ht, ha, hc.str_inv, und_run hu w, goInt]
  · cases hu : P.underlying t with
    | none => simp [hu] at h
    | some d =>
      cases d <;> simp only [hu] at h <;> try cases h
      rename_i n e
      refine ⟨.int .i64 n, .int _ _, fun w => run w n ?_⟩
      simp [Builtin.len_, ht, ha, und_run hu w, goInt]

theorem two_args {c : Call} {v u : Value} (h : c.args.toList.map ev = [v, u]) : ∃ x y, c.args = #[x, y] ∧ ev x = v ∧ ev y = u := by
  obtain ⟨l, hl⟩ : ∃ l, c.args = ⟨l⟩ := ⟨c.args.toList, rfl⟩
  rw [hl] at h
  match l, h, hl with
  | [x, y], h, hl => simp at h; exact ⟨x, y, hl, h.1, h.2⟩

theorem min_ok {o : Oper} {c : Call} (ho : o.op = .call c) (hb : c.callee = .builtin .min) (hE : Evs ρ ev ev' o) {v : Value} (h : regMin (c.args.toList.map ev) = some v) : Gives P ρ ev' o v := by
  unfold regMin at h
  split at h
  case h_2 => cases h
  rename_i k x k' y hl
  cases h
  obtain ⟨a, b, hab, ha, hb'⟩ := two_args hl
  have h1 : VR ρ (ev a) (ev' a) := hE a (by rw [ho]; simp [Op.operands, Call.operands, hb, hab])
  have h2 : VR ρ (ev b) (ev' b) := hE b (by rw [ho]; simp [Op.operands, Call.operands, hb, hab])
  rw [ha] at h1; rw [hb'] at h2
  refine ⟨_, plain_refl 3 _ rfl, fun w => ?_⟩
  simp only [execOp, ho, resolve, hb, hab, Sem.run_bind, Sem.run_pure, Result.andThen_ok, invoke, builtin, Builtin.min_, List.map_toArray, List.map_cons, List.map_nil, h1.int_inv, h2.int_inv, List.foldlM_cons, List.foldlM_nil, Builtin.min2]
  by_cases hyx : y < x <;> simp [hyx]

theorem max_ok {o : Oper} {c : Call} (ho : o.op = .call c) (hb : c.callee = .builtin .max) (hE : Evs ρ ev ev' o) {v : Value} (h : regMax (c.args.toList.map ev) = some v) : Gives P ρ ev' o v := by
  unfold regMax at h
  split at h
  case h_2 => cases h
  rename_i k x k' y hl
  cases h
  obtain ⟨a, b, hab, ha, hb'⟩ := two_args hl
  have h1 : VR ρ (ev a) (ev' a) := hE a (by rw [ho]; simp [Op.operands, Call.operands, hb, hab])
  have h2 : VR ρ (ev b) (ev' b) := hE b (by rw [ho]; simp [Op.operands, Call.operands, hb, hab])
  rw [ha] at h1; rw [hb'] at h2
  refine ⟨_, plain_refl 3 _ rfl, fun w => ?_⟩
  simp only [execOp, ho, resolve, hb, hab, Sem.run_bind, Sem.run_pure, Result.andThen_ok, invoke, builtin, Builtin.max_, List.map_toArray, List.map_cons, List.map_nil, h1.int_inv, h2.int_inv, List.foldlM_cons, List.foldlM_nil, Builtin.max2]
  by_cases hyx : y > x <;> simp [hyx]

theorem regCall_ok {o : Oper} {c : Call} (ho : o.op = .call c) (hE : Evs ρ ev ev' o) {v : Value} (h : regCall P ev c = some v) : Gives P ρ ev' o v := by
  unfold regCall at h
  split at h
  case h_2 => cases h
  rename_i b hb
  split at h
  · split at h
    case h_2 => cases h
    rename_i t x ht hx
    exact len_ok ho hb ht hx hE h
  · exact min_ok ho hb hE h
  · exact max_ok ho hb hE h
  · cases h

theorem un_ok {o : Oper} {op : UnOp} {t : TypeId} {x : Operand} (ho : o.op = .unOp op t x) (hE : Evs ρ ev ev' o) {v : Value} (h : regUn P ev o op (ev x) = some v) : Gives P ρ ev' o v := by
  have hs : ∀ cs b, o.op ≠ .select cs b := fun cs b e => by rw [ho] at e; cases e
  have hc : VR ρ (ev x) (ev' x) := hE x (by rw [ho]; simp [Op.operands])
  unfold regUn at h
  split at h
  · rename_i b hv
    cases h
    rw [hv] at hc
    exact ⟨.bool !b, .bool _, fun w => by simp [execOp, ho, hc.bool_inv, Op.unary]⟩
  · exact regPlain_ok hE hs h

theorem convert_ok {o : Oper} {s d : TypeId} {x : Operand} (ho : o.op = .convert s d x) (hE : Evs ρ ev ev' o) {v : Value} (h : regConvert P ev o s d (ev x) = some v) : Gives P ρ ev' o v := by
  have hs : ∀ cs b, o.op ≠ .select cs b := fun cs b e => by rw [ho] at e; cases e
  have hc : VR ρ (ev x) (ev' x) := hE x (by rw [ho]; simp [Op.operands])
  unfold regConvert at h
  split at h
  · rename_i k n hv
    rw [hv] at hc
    split at h
    · rename_i sd q hu hd
      cases h
      refine ⟨_, .int _ _, fun w => ?_⟩
      simp [execOp, ho, convert, und_run hu w, und_run hd w, hc.int_inv, Conv.intToInt]
    · exact regPlain_ok hE hs h
  · exact regPlain_ok hE hs h

theorem index_ok {o : Oper} {t : TypeId} {x i : Operand} (ho : o.op = .index t x i) (hE : Evs ρ ev ev' o) {v : Value} (h : regIndex P ev o t (ev x) (ev i) = some v) : Gives P ρ ev' o v := by
  have hs : ∀ cs b, o.op ≠ .select cs b := fun cs b e => by rw [ho] at e; cases e
  have hx : VR ρ (ev x) (ev' x) := hE x (by rw [ho]; simp [Op.operands])
  have hi : VR ρ (ev i) (ev' i) := hE i (by rw [ho]; simp [Op.operands])
  unfold regIndex at h
  split at h
  · rename_i s k n hv hn
    rw [hv] at hx; rw [hn] at hi
    split at h
    · rename_i b hu hd hb
      cases h
      simp at hd
      refine ⟨_, .int _ _, fun w => ?_⟩
      simp only [execOp, ho, Instr.index, Sem.run_bind, hi.int_inv, asIntOf, Sem.run_pure, Result.andThen_ok, und_run hu w, hx.str_inv, if_pos hd, hb]
    · cases h
  · exact regPlain_ok hE hs h

theorem binOp_int {op : BinOp} {t : TypeId} {k k' : IntKind} {a b : Int} {v : Value} (h : intBin op k k' a b = some v) : (binOp op t (.int k a) (.int k' b) : Sem Value) = .pure v := by
  unfold intBin at h
  split at h
  case h_2 => cases h
  rename_i hk
  simp at hk
  subst hk
  cases op <;> simp at h <;> subst h <;> simp [binOp, Op.intArith, Op.intCmp] <;> rfl

theorem eqGuard_ok {op : BinOp} {t : TypeId} {x y : Operand} {v u : Value} (h1 : ∀ xs, v ≠ .agg xs) (h2 : v ≠ .nilIface) (w : World) : (eqGuard op t x y v u).run P w = .ok () w := by
  unfold eqGuard
  cases v <;> first | exact absurd rfl (h1 _) | exact absurd rfl h2 | (cases op <;> simp)

theorem equal_run {t : TypeId} {v u : Value} {r : Bool} (h : ∀ w, (Op.equal t v u).run P w = .ok r w) {op : BinOp} {z : Value} (he : (op = .eql ∧ z = .bool r) ∨ (op = .neq ∧ z = .bool !r))
    (hv : (∃ a, v = .pointer a) ∨ (∃ a n c, v = .slice a n c) ∨ (∃ a, v = .map a) ∨ (∃ f a b, v = .func f a b)) (w : World) : (binOp op t v u).run P w = .ok z w := by
  rcases he with ⟨rfl, rfl⟩ | ⟨rfl, rfl⟩ <;> rcases hv with ⟨a, rfl⟩ | ⟨a, n, c, rfl⟩ | ⟨a, rfl⟩ | ⟨f, a, b, rfl⟩ <;> simp [binOp, h w]

theorem eq_ptr {t e : TypeId} (ht : P.underlying t = some (.pointer e)) (d : Nat) (a : Addr) (w : World) : (Op.equalIn (d + 1) t (.pointer (some a)) (.pointer none)).run P w = .ok false w := by
  simp [Op.equalIn, und_run ht w]
theorem eq_slice {t e : TypeId} (ht : P.underlying t = some (.slice e)) (d : Nat) (a : Addr) (n c n' c' : Nat) (w : World) : (Op.equalIn (d + 1) t (.slice (some a) n c) (.slice none n' c')).run P w = .ok false w := by
  simp [Op.equalIn, und_run ht w]
theorem eq_map {t k e : TypeId} (ht : P.underlying t = some (.map k e)) (d : Nat) (a : Nat) (w : World) : (Op.equalIn (d + 1) t (.map (some a)) (.map none)).run P w = .ok false w := by
  simp [Op.equalIn, und_run ht w]
theorem eq_func {t : TypeId} {p q : Array TypeId} {r : Bool} (ht : P.underlying t = some (.func p q r)) (d : Nat) (f : Fn) (a b : Array Value) (w : World) : (Op.equalIn (d + 1) t (.func f a b) .nilFunc).run P w = .ok false w := by
  simp [Op.equalIn, und_run ht w]

theorem eqNil_some {op : BinOp} {v : Value} (h : eqNil op = some v) : (op = .eql ∧ v = .bool false) ∨ (op = .neq ∧ v = .bool !false) := by
  unfold eqNil at h
  cases op <;> simp at h <;> simp [← h]

theorem bin_ok {o : Oper} {op : BinOp} {t u : TypeId} {x y : Operand} (ho : o.op = .binOp op t x y u) (hE : Evs ρ ev ev' o) {v : Value} (h : regBin P ev o op t (ev x) (ev y) = some v) : Gives P ρ ev' o v := by
  have hs : ∀ cs b, o.op ≠ .select cs b := fun cs b e => by rw [ho] at e; cases e
  have hx : VR ρ (ev x) (ev' x) := hE x (by rw [ho]; simp [Op.operands])
  have hy : VR ρ (ev y) (ev' y) := hE y (by rw [ho]; simp [Op.operands])
  have fin : ∀ {z : Value}, (∀ xs, ev' x ≠ .agg xs) → ev' x ≠ .nilIface → (∀ w, (binOp op t (ev' x) (ev' y)).run P w = .ok z w) → ∀ w, (execOp ev' o).run P w = .ok (.value z) w := fun h1 h2 hr w => by
    simp [execOp, ho, eqGuard_ok (P := P) h1 h2 w, hr w]
  have isb : ∀ {z : Value}, eqNil op = some z → VR ρ z z := fun hz => by rcases eqNil_some hz with ⟨_, rfl⟩ | ⟨_, rfl⟩ <;> exact .bool _
  unfold regBin at h
  split at h
  · rename_i k a hv
    rw [hv] at hx
    split at h
    · rename_i k' b hu
      rw [hu] at hy
      split at h
      · rename_i r hr
        cases h
        have hp := fun w => (by rw [binOp_int (t := t) hr]; rfl : (binOp op t (.int k a) (.int k' b)).run P w = .ok v w)
        refine ⟨v, ?_, fin (by rw [hx.int_inv]; simp) (by rw [hx.int_inv]; simp) (by rw [hx.int_inv, hy.int_inv]; exact hp)⟩
        unfold intBin at hr
        split at hr
        case h_2 => cases hr
        cases op <;> simp at hr <;> subst hr <;> first | exact .int _ _ | exact .bool _
      · exact regPlain_ok hE hs h
    · cases h
  · rename_i a hv
    rw [hv] at hx
    obtain ⟨a', ea, _⟩ := hx.ptr_inv
    split at h
    case h_2 => cases h
    rename_i e hu ht
    rw [hu] at hy
    refine ⟨v, isb h, fin (by rw [ea]; simp) (by rw [ea]; simp) ?_⟩
    rw [ea, hy.ptr0_inv]
    exact equal_run (r := false) (fun w => eq_ptr ht 9999 _ w) (eqNil_some h) (.inl ⟨_, rfl⟩)
  · rename_i a n c hv
    rw [hv] at hx
    obtain ⟨a', c', ea, _⟩ := hx.sl_inv
    split at h
    case h_2 => cases h
    rename_i n' c'' e hu ht
    rw [hu] at hy
    refine ⟨v, isb h, fin (by rw [ea]; simp) (by rw [ea]; simp) ?_⟩
    rw [ea, hy.sl0_inv]
    exact equal_run (r := false) (fun w => eq_slice ht 9999 _ _ _ _ _ w) (eqNil_some h) (.inr (.inl ⟨_, _, _, rfl⟩))
  · rename_i a hv
    rw [hv] at hx
    obtain ⟨a', ea, _⟩ := hx.map_inv
    split at h
    case h_2 => cases h
    rename_i k e hu ht
    rw [hu] at hy
    refine ⟨v, isb h, fin (by rw [ea]; simp) (by rw [ea]; simp) ?_⟩
    rw [ea, hy.map0_inv]
    exact equal_run (r := false) (fun w => eq_map ht 9999 _ w) (eqNil_some h) (.inr (.inr (.inl ⟨_, rfl⟩)))
  · rename_i fn a b hv
    rw [hv] at hx
    obtain ⟨a', b', ea, _⟩ := hx.func_inv
    split at h
    case h_2 => cases h
    rename_i p q r hu ht
    rw [hu] at hy
    refine ⟨v, isb h, fin (by rw [ea]; simp) (by rw [ea]; simp) ?_⟩
    rw [ea, hy.nilFunc_inv]
    exact equal_run (r := false) (fun w => eq_func ht 9999 _ _ _ w) (eqNil_some h) (.inr (.inr (.inr ⟨_, _, _, rfl⟩)))
  · exact regPlain_ok hE hs h
end
end Go.Ab
