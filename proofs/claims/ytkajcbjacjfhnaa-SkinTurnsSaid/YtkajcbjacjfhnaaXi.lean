/- An operation that reads memory. -/
import Derived.Test.YtkajcbjacjfhnaaXh
namespace Go.Ab
open Go Go.RowKit
section
variable {P : Program} {ρ : Ren} {ev ev' : Operand → Value}

/-- a world whose blocks below 'lim' lie as they lay in w -/
def Near (ρ : Ren) (H : Hp) (lim : Nat) (w w' : World) : Prop := ∀ k p, k < lim → Live H k → ρ k = some p → w'.heap[p.real]? = w.heap[p.real]?

theorem takeA_spec : ∀ (n : Nat) (l r : List Value), takeA n l = some r → r.length = n ∧ ∀ (j : Nat) (v : Value), r[j]? = some v → l[j]? = some v
  | 0, l, r, h => by simp [takeA] at h; subst h; simp
  | n + 1, [], r, h => by simp [takeA] at h
  | n + 1, x :: l, r, h => by
    simp only [takeA] at h
    cases ht : takeA n l with
    | none => simp [ht] at h
    | some s =>
      simp only [ht, Option.some.injEq] at h
      subst h
      obtain ⟨h1, h2⟩ := takeA_spec n l s ht
      refine ⟨by simp [h1], fun j v hj => ?_⟩
      cases j with
      | zero => simpa using hj
      | succ j => simp at hj ⊢; exact h2 j v hj

theorem block_ok {w0 w : World} {H : Hp} (hR : Rel P w0 ρ H w) {lim : Nat} {a a' : Addr} (har : AR ρ a a') {c : List Value} (h : blockAt H lim a = some c) :
    ∀ i v, c[a.off + i]? = some v → ∃ v', VR ρ v v' ∧ ∀ w', Near ρ H lim w w' → w'.cell? (a'.add i) = some v' := by
  obtain ⟨s, s', p, hp, e1, e2⟩ := har
  unfold blockAt at h
  rw [s] at h
  simp only [] at h
  split at h
  case h_2 => cases h
  rename_i hlt
  split at h
  case h_2 => cases h
  rename_i c1 E hg
  cases h
  have hlt : a.block < lim := Nat.blt_eq.mp hlt
  obtain ⟨q, c', fz, hq, hb, hc, _⟩ := hR.blk a.block _ hg
  rw [hp] at hq; cases hq
  intro i v hi
  obtain ⟨v', hv', r⟩ := hc (a.off + i) v hi
  refine ⟨v', r, fun w' hn => ?_⟩
  have := hn a.block p hlt (live_of hg (by simp)) hp
  have hadd : a'.add i = ⟨p.real, a'.off + i, none⟩ := by
    unfold Addr.add
    obtain ⟨b, o, sp⟩ := a'
    simp only at s' e1
    subst s' e1
    split <;> simp_all
  rw [hadd]
  unfold World.cell?
  simp only [this, hb]
  simp
  rw [show a'.off + i = a.off + i + p.shift by omega]
  exact hv'

theorem VRs.build {ρ : Ren} {Q : Nat → Value → Prop} : ∀ (l : List Value) (k : Nat), (∀ j v, l[j]? = some v → ∃ v', VR ρ v v' ∧ Q (k + j) v') → ∃ l', VRs ρ l l' ∧ ∀ j v', l'[j]? = some v' → Q (k + j) v'
  | [], k, _ => ⟨[], .nil, fun j v h => by simp at h⟩
  | x :: l, k, h => by
    obtain ⟨x', r, q⟩ := h 0 x rfl
    obtain ⟨l', rs, qs⟩ := VRs.build (Q := Q) l (k + 1) (fun j v hj => by
      obtain ⟨v', r, q⟩ := h (j + 1) v (by simpa using hj)
      exact ⟨v', r, by rw [show k + 1 + j = k + (j + 1) by omega]; exact q⟩)
    refine ⟨x' :: l', .cons r rs, fun j v' hj => ?_⟩
    cases j with
    | zero => simp at hj; subst hj; exact q
    | succ j => simp at hj; rw [show k + (j + 1) = k + 1 + j by omega]; exact qs j v' hj

theorem readN_ok {w0 w : World} {H : Hp} (hR : Rel P w0 ρ H w) {lim : Nat} {a a' : Addr} (har : AR ρ a a') {n : Nat} {l : List Value} (h : readN H lim a n = some l) :
    ∃ l', VRs ρ l l' ∧ l'.length = n ∧ ∀ w', Near ρ H lim w w' → (loadCells a' n).run P w' = .ok ⟨l'⟩ w' := by
  unfold readN at h
  cases n with
  | zero => simp at h; subst h; exact ⟨[], .nil, rfl, fun w' _ => rfl⟩
  | succ n =>
    simp only [] at h
    cases hb : blockAt H lim a with
    | none => simp [hb] at h
    | some c =>
      simp only [hb] at h
      obtain ⟨hlen, hget⟩ := takeA_spec _ _ _ h
      have key := block_ok hR har hb
      obtain ⟨l', rs, qs⟩ := VRs.build (ρ := ρ) (Q := fun j v' => ∀ w', Near ρ H lim w w' → w'.cell? (a'.add j) = some v') l 0 (fun j v hj => by
        obtain ⟨v', r, q⟩ := key j v (by have := hget j v hj; simpa [List.getElem?_drop] using this)
        exact ⟨v', r, by simpa using q⟩)
      have hl' : l'.length = n + 1 := by rw [rs.length, hlen]
      refine ⟨l', rs, hl', fun w' hn => ?_⟩
      have := run_loadCells_list (P := P) w' a' l' (fun j v hj => by have := qs j v hj w' hn; simpa using this)
      rw [hl'] at this
      exact this

theorem Addr.add_zero' (a : Addr) : a.add 0 = a := rfl

theorem loadA_ok {w0 w : World} {H : Hp} (hR : Rel P w0 ρ H w) {lim : Nat} {a a' : Addr} (har : AR ρ a a') {t : TypeId} {v : Value} (h : loadA P H lim t a = some v) :
    ∃ v', VR ρ v v' ∧ ∀ w', Near ρ H lim w w' → (loadVar t a').run P w' = .ok v' w' := by
  unfold loadA at h
  cases ha : agg? P t with
  | none => simp [ha] at h
  | some b =>
    cases b with
    | true =>
      simp only [ha] at h
      cases hs : size? P t with
      | none => simp [hs] at h
      | some n =>
        simp only [hs] at h
        cases hr : readN H lim a n with
        | none => simp [hr] at h
        | some l =>
          simp only [hr, Option.some.injEq] at h
          subst h
          obtain ⟨l', rs, _, run⟩ := readN_ok hR har hr
          exact ⟨.agg ⟨l'⟩, .agg rs, fun w' hn => by simp [loadVar, agg_run ha w', size_run hs w', run w' hn]⟩
    | false =>
      simp only [ha] at h
      cases hb : blockAt H lim a with
      | none => simp [hb] at h
      | some c =>
        simp only [hb] at h
        obtain ⟨v', r, q⟩ := block_ok hR har hb 0 v (by simpa using h)
        exact ⟨v', r, fun w' hn => by have := q w' hn; rw [Addr.add_zero'] at this; simp [loadVar, agg_run ha w', this]⟩

/-! ### maps -/

theorem pureRun_bind {α β : Type} (f : α → Sem β) : ∀ (x : Sem α), pureRun P (x >>= f) = (pureRun P x).bind fun a => pureRun P (f a) := by
  intro x
  show pureRun P (x.bind f) = _
  induction x with
  | pure a => simp [Sem.bind, pureRun]
  | program k ih => simp only [Sem.bind, pureRun]; exact ih P
  | mark m k ih => simp only [Sem.bind, pureRun]; exact ih
  | _ => simp [Sem.bind, pureRun]

inductive FR (ρ : Ren) : Option (Nat × Value) → Option (Nat × Value) → Prop
  | none : FR ρ none none
  | some (i) {v v'} : VR ρ v v' → FR ρ (some (i, v)) (some (i, v'))

theorem findNow_ok {kind : TypeDesc} {k : Value} : ∀ {es es' : List MapEntry} (i : Nat), Ents ρ es es' → keysPlain es = true →
    (∀ r, Instr.findNow kind k es i = some r → ∃ r', Instr.findNow kind k es' i = some r' ∧ FR ρ r r') ∧ (Instr.findNow kind k es i = none → Instr.findNow kind k es' i = none)
  | _, _, i, .nil, _ => by simp [Instr.findNow]; exact .none
  | _, _, i, .cons (k := q) (k' := q') (v := v) (v' := v') (b := b) (l := l) (l' := l') hk hv hs, hp => by
    simp only [keysPlain, List.all_cons, Bool.and_eq_true] at hp
    have : q' = q := plain_eq 3 hp.1 hk
    subst this
    have ih := findNow_ok (kind := kind) (k := k) (i + 1) hs hp.2
    simp only [Instr.findNow]
    cases Instr.sameNow kind k q' with
    | none => simp
    | some b =>
      cases b with
      | true => simp; exact .some i hv
      | false => exact ih

theorem findAsking_ok {key : TypeId} {k : Value} : ∀ {es es' : List MapEntry} (i : Nat), Ents ρ es es' → keysPlain es = true →
    ∀ r, pureRun P (Instr.findAsking key k es i) = some r → ∃ r', pureRun P (Instr.findAsking key k es' i) = some r' ∧ FR ρ r r'
  | _, _, i, .nil, _ => fun r h => by simp [Instr.findAsking] at h; exact ⟨none, by simp [Instr.findAsking]; rfl, by cases h; exact .none⟩
  | _, _, i, .cons (k := q) (k' := q') (v := v) (v' := v') (b := b) (l := l) (l' := l') hk hv hs, hp => fun r h => by
    simp only [keysPlain, List.all_cons, Bool.and_eq_true] at hp
    have : q' = q := plain_eq 3 hp.1 hk
    subst this
    have ih := findAsking_ok (key := key) (k := k) (i + 1) hs hp.2 r
    simp only [Instr.findAsking, pureRun_bind] at h ⊢
    cases he : pureRun P (Op.equal key k q') with
    | none => simp [he] at h
    | some b =>
      simp only [he, Option.bind_some] at h ⊢
      cases b with
      | true =>
        simp only [if_true] at h ⊢
        have h : some (some (i, v)) = some r := h
        cases h
        exact ⟨some (i, v'), rfl, .some i hv⟩
      | false =>
        simp only [Bool.false_eq_true, if_false] at h ⊢
        exact ih h

theorem findKey_ok {key : TypeId} {k : Value} {es es' : List MapEntry} (hs : Ents ρ es es') (hp : keysPlain es = true) {r : Option (Nat × Value)} (h : pureRun P (Instr.findKey key k es) = some r) :
    ∃ r', pureRun P (Instr.findKey key k es') = some r' ∧ FR ρ r r' := by
  unfold Instr.findKey at h ⊢
  rw [pureRun_bind] at h ⊢
  cases hu : pureRun P (underlying key) with
  | none => simp [hu] at h
  | some d =>
    simp only [hu, Option.bind_some] at h ⊢
    have hf := findNow_ok (kind := d) (k := k) 0 hs hp
    cases hn : Instr.findNow d k es 0 with
    | none =>
      rw [hf.2 hn]
      simp only [hn] at h
      exact findAsking_ok 0 hs hp r h
    | some q =>
      obtain ⟨q', e, fr⟩ := hf.1 q hn
      simp only [hn] at h
      rw [e]
      have h : some q = some r := h
      cases h
      exact ⟨q', rfl, fr⟩

theorem Ents.length {es es' : List MapEntry} (h : Ents ρ es es') : es'.length = es.length := by
  induction h with
  | nil => rfl
  | cons _ _ _ ih => simp [ih]

theorem map_ok {w0 w : World} {H : Hp} (hR : Rel P w0 ρ H w) {lim : Nat} {v u : Value} (hv : VR ρ v u) {es : List MapEntry} (h : mapAt H lim v = some es) :
    (u = .map none ∧ es = []) ∨ ∃ r es' clock, u = .map (some r) ∧ Ents ρ es es'.toList ∧ ∀ w', Near ρ H lim w w' → (getObj r).run P w' = .ok (.map es' clock) w' ∧ w'.heap[r]? = some (.map es' clock) := by
  unfold mapAt at h
  split at h
  · cases h; exact .inl ⟨hv.map0_inv, rfl⟩
  · rename_i r
    obtain ⟨p, e, hp⟩ := hv.map_inv
    split at h
    case h_2 => cases h
    rename_i hlt
    split at h
    case h_2 => cases h
    rename_i es1 clock hg
    cases h
    obtain ⟨q, es', hq, hb, hes⟩ := hR.blk r _ hg
    rw [hp] at hq; cases hq
    refine .inr ⟨p.real, es', clock, e, hes, fun w' hn => ?_⟩
    have := hn r p (by simpa using hlt) (live_of hg (by simp)) hp
    rw [hb] at this
    exact ⟨by simp [getObj, Sem.run, this], this⟩
  · cases h

theorem found_ok {z : Value} (hz : VR ρ z z) {ok : Bool} {r r' : Option (Nat × Value)} (h : FR ρ r r') : VR ρ (found z ok r) (found z ok r') := by
  cases h with
  | none => cases ok <;> first | exact hz | exact .tuple (.cons hz (.cons (.bool _) .nil))
  | some i hv => cases ok <;> first | exact hv | exact .tuple (.cons hv (.cons (.bool _) .nil))

theorem lookup_ok {w0 w : World} {H : Hp} (hR : Rel P w0 ρ H w) {lim : Nat} {o : Oper} {t : TypeId} {x k : Operand} {ok : Bool} (ho : o.op = .lookup t x k ok) (hE : Evs ρ ev ev' o) {v : Value}
    (h : rdLookup P H lim t (ev x) (ev k) ok = some v) : ∃ v', VR ρ v v' ∧ ∀ w', Near ρ H lim w w' → (execOp ev' o).run P w' = .ok (.value v') w' := by
  have hx : VR ρ (ev x) (ev' x) := hE x (by rw [ho]; simp [Op.operands])
  have hk : VR ρ (ev k) (ev' k) := hE k (by rw [ho]; simp [Op.operands])
  unfold rdLookup at h
  split at h
  case h_2 => cases h
  rename_i key elem hu
  split at h
  case h_2 => cases h
  rename_i es z hm hz
  split at h
  case h_2 => cases h
  rename_i hpp
  simp only [Bool.and_eq_true] at hpp
  split at h
  case h_2 => cases h
  rename_i r hck hfk
  cases h
  have ek : ev' k = ev k := plain_eq 3 hpp.1 hk
  have hzz : VR ρ z z := plain_refl 3 z (zero_run hz w).2
  rcases map_ok hR hx hm with ⟨e, rfl⟩ | ⟨rr, es', clock, e, hes, hrun⟩
  · obtain ⟨r', hr', fr⟩ := findKey_ok (ρ := ρ) (es' := []) .nil hpp.2 hfk
    refine ⟨found z ok r', found_ok hzz fr, fun w' _ => ?_⟩
    have h1 := pureRun_run _ hck w'
    have h2 := pureRun_run _ hr' w'
    simp only [List.isEmpty_nil] at h1
    simp only [execOp, ho, Instr.lookup, Sem.run_bind, und_run hu w', Result.andThen_ok, e, ek, Sem.run_pure, List.isEmpty_toArray, List.isEmpty_nil, h1, h2]
    cases r' with
    | none => cases ok <;> simp [found, (zero_run hz w').1]
    | some q => obtain ⟨i, q⟩ := q; cases ok <;> simp [found]
  · obtain ⟨r', hr', fr⟩ := findKey_ok (ρ := ρ) (es' := es'.toList) hes hpp.2 hfk
    refine ⟨found z ok r', found_ok hzz fr, fun w' hn => ?_⟩
    have hemp : es'.isEmpty = es.isEmpty := by
      have := hes.length
      rw [Bool.eq_iff_iff]
      simp [Array.isEmpty, List.isEmpty_iff]
      rw [← List.length_eq_zero_iff, ← this]
      simp
    have h1 := pureRun_run _ hck w'
    have h2 := pureRun_run _ hr' w'
    simp only [execOp, ho, Instr.lookup, Sem.run_bind, und_run hu w', Result.andThen_ok, e, ek, Sem.run_pure, (hrun w' hn).1, hemp, h1, h2]
    cases r' with
    | none => cases ok <;> simp [found, (zero_run hz w').1]
    | some q => obtain ⟨i, q⟩ := q; cases ok <;> simp [found]

theorem rdLen_ok {w0 w : World} {H : Hp} (hR : Rel P w0 ρ H w) {lim : Nat} {o : Oper} {c : Call} (ho : o.op = .call c) (hb : c.callee = .builtin .len) {t : TypeId} {x : Operand} (ht : c.argTypes[0]? = some t) (hx : c.args[0]? = some x)
    (hE : Evs ρ ev ev' o) {v : Value} (h : rdLen P H lim t (ev x) = some v) : ∃ v', VR ρ v v' ∧ ∀ w', Near ρ H lim w w' → (execOp ev' o).run P w' = .ok (.value v') w' := by
  have hmem : x ∈ o.op.operands.toList := by
    rw [ho]
    have : x ∈ c.args.toList := List.mem_of_getElem? (by simpa using hx)
    simp [Op.operands, Call.operands, hb]
    simpa using this
  have hc : VR ρ (ev x) (ev' x) := hE x hmem
  have run : ∀ w n, (Builtin.len_ c.argTypes o.type (c.args.map ev')).run P w = .ok (.int .i64 n) w → (execOp ev' o).run P w = .ok (.value (.int .i64 n)) w := fun w n hr => by
    simp [execOp, ho, resolve, hb, invoke, builtin, hr]
  have ha : (c.args.map ev')[0]? = some (ev' x) := by simp [hx]
  unfold rdLen at h
  split at h
  case h_2 => cases h
  rename_i k e hu
  split at h
  case h_2 => cases h
  rename_i es hm
  cases h
  refine ⟨.int .i64 es.length, .int _ _, fun w' hn => run w' _ ?_⟩
  rcases map_ok hR hc hm with ⟨e1, rfl⟩ | ⟨rr, es', clock, e1, hes, hrun⟩
  · simp [Builtin.len_, ht, ha, e1, und_run hu w', goInt]
  · have := hes.length
    simp [Builtin.len_, ht, ha, e1, und_run hu w', goInt, (hrun w' hn).1]
    rw [← this]; simp

theorem rdOp_ok {w0 w : World} {H : Hp} (hR : Rel P w0 ρ H w) {lim : Nat} {o : Oper} (hE : Evs ρ ev ev' o) {v : Value} (h : rdOp P H lim ev o = some v) :
    ∃ v', VR ρ v v' ∧ ∀ w', Near ρ H lim w w' → (execOp ev' o).run P w' = .ok (.value v') w' := by
  unfold rdOp at h
  split at h
  · rename_i t x ho
    have hx : VR ρ (ev x) (ev' x) := hE x (by rw [ho]; simp [Op.operands])
    unfold rdLoad at h
    split at h
    case h_2 => cases h
    rename_i a hv
    rw [hv] at hx
    obtain ⟨a', ea, har⟩ := hx.ptr_inv
    obtain ⟨v', r, q⟩ := loadA_ok hR har h
    exact ⟨v', r, fun w' hn => by simp [execOp, ho, Instr.loadAt, ea, Instr.sureAddr, q w' hn]⟩
  · rename_i ho
    exact lookup_ok hR ho hE h
  · rename_i c ho
    unfold rdCall at h
    split at h
    case h_2 => cases h
    rename_i b hb
    split at h
    case h_2 => cases h
    split at h
    case h_2 => cases h
    rename_i t x ht hx
    exact rdLen_ok hR ho hb ht hx hE h
  · cases h
end
end Go.Ab
