/- An operation that reads memory. An operation that makes or writes memory (1). An operation that makes or writes memory (2): maps, make. An operation that makes or writes memory (3): append; all of them. An operation that makes or writes memory (4): append over the abstract heap; all of them. -/
import Derived.Test.YtcakcdolijgjeaaYe
import Derived.Laws.CopyRow
namespace Go.Ab
open Go Go.RowKit
section
variable {P : Program} {ρ : Ren} {ev ev' : Operand → Value}

/-- a world whose blocks below 'lim' lie as they lay in w -/
def Near (ρ : Ren) (H : Hp) (lim : Nat) (w w' : World) : Prop := ∀ k p, k < lim → Live H k → ρ k = some p → w'.heap[p.real]? = w.heap[p.real]?

theorem takeA_spec : ∀ (n : Nat) (l r : List Value), takeA n l = some r → r.length = n ∧ ∀ (j : Nat) (v : Value), r[j]? = some v → l[j]? = some v
  | 0, l, r, h => by simp [takeA] at h; subst h; simp
  | n + 1, [], r, h => by simp [takeA] at h
  | n + 1, x :: l, r, h => by
    simp only [takeA] at h
    cases ht : takeA n l with
    | none => simp [ht] at h
    | some s =>
      simp only [ht, Option.some.injEq] at h
      subst h
      obtain ⟨h1, h2⟩ := takeA_spec n l s ht
      refine ⟨by simp [h1], fun j v hj => ?_⟩
      cases j with
      | zero => simpa using hj
      | succ j => simp at hj ⊢; exact h2 j v hj

theorem block_ok {w0 w : World} {H : Hp} (hR : Rel P w0 ρ H w) {lim : Nat} {a a' : Addr} (har : AR ρ a a') {c : List Value} (h : blockAt H lim a = some c) :
    ∀ i v, c[a.off + i]? = some v → ∃ v', VR ρ v v' ∧ ∀ w', Near ρ H lim w w' → w'.cell? (a'.add i) = some v' := by
  obtain ⟨s, s', p, hp, e1, e2⟩ := har
  unfold blockAt at h
  rw [s] at h
  simp only [] at h
  split at h
  case h_2 => cases h
  rename_i hlt
  split at h
  case h_2 => cases h
  rename_i c1 E hg
  cases h
  have hlt : a.block < lim := Nat.blt_eq.mp hlt
  obtain ⟨q, c', fz, hq, hb, hc, _⟩ := hR.blk a.block _ hg
  rw [hp] at hq; cases hq
  intro i v hi
  obtain ⟨v', hv', r⟩ := hc (a.off + i) v hi
  refine ⟨v', r, fun w' hn => ?_⟩
  have := hn a.block p hlt (live_of hg (by simp)) hp
  have hadd : a'.add i = ⟨p.real, a'.off + i, none⟩ := by
    unfold Addr.add
    obtain ⟨b, o, sp⟩ := a'
    simp only at s' e1
    subst s' e1
    split <;> simp_all
  rw [hadd]
  unfold World.cell?
  simp only [this, hb]
  simp
  rw [show a'.off + i = a.off + i + p.shift by omega]
  exact hv'

theorem VRs.build {ρ : Ren} {Q : Nat → Value → Prop} : ∀ (l : List Value) (k : Nat), (∀ j v, l[j]? = some v → ∃ v', VR ρ v v' ∧ Q (k + j) v') → ∃ l', VRs ρ l l' ∧ ∀ j v', l'[j]? = some v' → Q (k + j) v'
  | [], k, _ => ⟨[], .nil, fun j v h => by simp at h⟩
  | x :: l, k, h => by
    obtain ⟨x', r, q⟩ := h 0 x rfl
    obtain ⟨l', rs, qs⟩ := VRs.build (Q := Q) l (k + 1) (fun j v hj => by
      obtain ⟨v', r, q⟩ := h (j + 1) v (by simpa using hj)
      exact ⟨v', r, by rw [show k + 1 + j = k + (j + 1) by omega]; exact q⟩)
    refine ⟨x' :: l', .cons r rs, fun j v' hj => ?_⟩
    cases j with
    | zero => simp at hj; subst hj; exact q
    | succ j => simp at hj; rw [show k + (j + 1) = k + 1 + j by omega]; exact qs j v' hj

theorem readN_ok {w0 w : World} {H : Hp} (hR : Rel P w0 ρ H w) {lim : Nat} {a a' : Addr} (har : AR ρ a a') {n : Nat} {l : List Value} (h : readN H lim a n = some l) :
    ∃ l', VRs ρ l l' ∧ l'.length = n ∧ ∀ w', Near ρ H lim w w' → (loadCells a' n).run P w' = .ok ⟨l'⟩ w' := by
  unfold readN at h
  cases n with
  | zero => simp at h; subst h; exact ⟨[], .nil, rfl, fun w' _ => rfl⟩
  | succ n =>
    simp only [] at h
    cases hb : blockAt H lim a with
    | none => simp [hb] at h
    | some c =>
      simp only [hb] at h
      obtain ⟨hlen, hget⟩ := takeA_spec _ _ _ h
      have key := block_ok hR har hb
      obtain ⟨l', rs, qs⟩ := VRs.build (ρ := ρ) (Q := fun j v' => ∀ w', Near ρ H lim w w' → w'.cell? (a'.add j) = some v') l 0 (fun j v hj => by
        obtain ⟨v', r, q⟩ := key j v (by have := hget j v hj; simpa [List.getElem?_drop] using this)
        exact ⟨v', r, by simpa using q⟩)
      have hl' : l'.length = n + 1 := by rw [rs.length, hlen]
      refine ⟨l', rs, hl', fun w' hn => ?_⟩
      have := run_loadCells_list (P := P) w' a' l' (fun j v hj => by have := qs j v hj w' hn; simpa using this)
      rw [hl'] at this
      exact this

theorem Addr.add_zero' (a : Addr) : a.add 0 = a := rfl

theorem loadA_ok {w0 w : World} {H : Hp} (hR : Rel P w0 ρ H w) {lim : Nat} {a a' : Addr} (har : AR ρ a a') {t : TypeId} {v : Value} (h : loadA P H lim t a = some v) :
    ∃ v', VR ρ v v' ∧ ∀ w', Near ρ H lim w w' → (loadVar t a').run P w' = .ok v' w' := by
  unfold loadA at h
  cases ha : agg? P t with
  | none => simp [ha] at h
  | some b =>
    cases b with
    | true =>
      simp only [ha] at h
      cases hs : size? P t with
      | none => simp [hs] at h
      | some n =>
        simp only [hs] at h
        cases hr : readN H lim a n with
        | none => simp [hr] at h
        | some l =>
          simp only [hr, Option.some.injEq] at h
          subst h
          obtain ⟨l', rs, _, run⟩ := readN_ok hR har hr
          exact ⟨.agg ⟨l'⟩, .agg rs, fun w' hn => by simp [loadVar, agg_run ha w', size_run hs w', run w' hn]⟩
    | false =>
      simp only [ha] at h
      cases hb : blockAt H lim a with
      | none => simp [hb] at h
      | some c =>
        simp only [hb] at h
        obtain ⟨v', r, q⟩ := block_ok hR har hb 0 v (by simpa using h)
        exact ⟨v', r, fun w' hn => by have := q w' hn; rw [Addr.add_zero'] at this; simp [loadVar, agg_run ha w', this]⟩

/-! ### maps -/

theorem pureRun_bind {α β : Type} (f : α → Sem β) : ∀ (x : Sem α), pureRun P (x >>= f) = (pureRun P x).bind fun a => pureRun P (f a) := by
  intro x
  show pureRun P (x.bind f) = _
  induction x with
  | pure a => simp [Sem.bind, pureRun]
  | program k ih => simp only [Sem.bind, pureRun]; exact ih P
  | mark m k ih => simp only [Sem.bind, pureRun]; exact ih
  | _ => simp [Sem.bind, pureRun]

inductive FR (ρ : Ren) : Option (Nat × Value) → Option (Nat × Value) → Prop
  | none : FR ρ none none
  | some (i) {v v'} : VR ρ v v' → FR ρ (some (i, v)) (some (i, v'))

theorem findNow_ok {kind : TypeDesc} {k : Value} : ∀ {es es' : List MapEntry} (i : Nat), Ents ρ es es' → keysPlain es = true →
    (∀ r, Instr.findNow kind k es i = some r → ∃ r', Instr.findNow kind k es' i = some r' ∧ FR ρ r r') ∧ (Instr.findNow kind k es i = none → Instr.findNow kind k es' i = none)
  | _, _, i, .nil, _ => by simp [Instr.findNow]; exact .none
  | _, _, i, .cons (k := q) (k' := q') (v := v) (v' := v') (b := b) (l := l) (l' := l') hk hv hs, hp => by
    simp only [keysPlain, List.all_cons, Bool.and_eq_true] at hp
    have : q' = q := plain_eq 3 hp.1 hk
    subst this
    have ih := findNow_ok (kind := kind) (k := k) (i + 1) hs hp.2
    simp only [Instr.findNow]
    cases Instr.sameNow kind k q' with
    | none => simp
    | some b =>
      cases b with
      | true => simp; exact .some i hv
      | false => exact ih

theorem findAsking_ok {key : TypeId} {k : Value} : ∀ {es es' : List MapEntry} (i : Nat), Ents ρ es es' → keysPlain es = true →
    ∀ r, pureRun P (Instr.findAsking key k es i) = some r → ∃ r', pureRun P (Instr.findAsking key k es' i) = some r' ∧ FR ρ r r'
  | _, _, i, .nil, _ => fun r h => by simp [Instr.findAsking] at h; exact ⟨none, by simp [Instr.findAsking]; rfl, by cases h; exact .none⟩
  | _, _, i, .cons (k := q) (k' := q') (v := v) (v' := v') (b := b) (l := l) (l' := l') hk hv hs, hp => fun r h => by
    simp only [keysPlain, List.all_cons, Bool.and_eq_true] at hp
    have : q' = q := plain_eq 3 hp.1 hk
    subst this
    have ih := findAsking_ok (key := key) (k := k) (i + 1) hs hp.2 r
    simp only [Instr.findAsking, pureRun_bind] at h ⊢
    cases he : pureRun P (Op.equal key k q') with
    | none => simp [he] at h
    | some b =>
      simp only [he, Option.bind_some] at h ⊢
      cases b with
      | true =>
        simp only [if_true] at h ⊢
        have h : some (some (i, v)) = some r := h
        cases h
        exact ⟨some (i, v'), rfl, .some i hv⟩
      | false =>
        simp only [Bool.false_eq_true, if_false] at h ⊢
        exact ih h

theorem findKey_ok {key : TypeId} {k : Value} {es es' : List MapEntry} (hs : Ents ρ es es') (hp : keysPlain es = true) {r : Option (Nat × Value)} (h : pureRun P (Instr.findKey key k es) = some r) :
    ∃ r', pureRun P (Instr.findKey key k es') = some r' ∧ FR ρ r r' := by
  unfold Instr.findKey at h ⊢
  rw [pureRun_bind] at h ⊢
  cases hu : pureRun P (underlying key) with
  | none => simp [hu] at h
  | some d =>
    simp only [hu, Option.bind_some] at h ⊢
    have hf := findNow_ok (kind := d) (k := k) 0 hs hp
    cases hn : Instr.findNow d k es 0 with
    | none =>
      rw [hf.2 hn]
      simp only [hn] at h
      exact findAsking_ok 0 hs hp r h
    | some q =>
      obtain ⟨q', e, fr⟩ := hf.1 q hn
      simp only [hn] at h
      rw [e]
      have h : some q = some r := h
      cases h
      exact ⟨q', rfl, fr⟩

theorem Ents.length {es es' : List MapEntry} (h : Ents ρ es es') : es'.length = es.length := by
  induction h with
  | nil => rfl
  | cons _ _ _ ih => simp [ih]

theorem map_ok {w0 w : World} {H : Hp} (hR : Rel P w0 ρ H w) {lim : Nat} {v u : Value} (hv : VR ρ v u) {es : List MapEntry} (h : mapAt H lim v = some es) :
    (u = .map none ∧ es = []) ∨ ∃ r es' clock, u = .map (some r) ∧ Ents ρ es es'.toList ∧ ∀ w', Near ρ H lim w w' → (getObj r).run P w' = .ok (.map es' clock) w' ∧ w'.heap[r]? = some (.map es' clock) := by
  unfold mapAt at h
  split at h
  · cases h; exact .inl ⟨hv.map0_inv, rfl⟩
  · rename_i r
    obtain ⟨p, e, hp⟩ := hv.map_inv
    split at h
    case h_2 => cases h
    rename_i hlt
    split at h
    case h_2 => cases h
    rename_i es1 clock hg
    cases h
    obtain ⟨q, es', hq, hb, hes⟩ := hR.blk r _ hg
    rw [hp] at hq; cases hq
    refine .inr ⟨p.real, es', clock, e, hes, fun w' hn => ?_⟩
    have := hn r p (by simpa using hlt) (live_of hg (by simp)) hp
    rw [hb] at this
    exact ⟨by simp [getObj, Sem.run, this], this⟩
  · cases h

theorem found_ok {z : Value} (hz : VR ρ z z) {ok : Bool} {r r' : Option (Nat × Value)} (h : FR ρ r r') : VR ρ (found z ok r) (found z ok r') := by
  cases h with
  | none => cases ok <;> first | exact hz | exact .tuple (.cons hz (.cons (.bool _) .nil))
  | some i hv => cases ok <;> first | exact hv | exact .tuple (.cons hv (.cons (.bool _) .nil))

theorem lookup_ok {w0 w : World} {H : Hp} (hR : Rel P w0 ρ H w) {lim : Nat} {o : Oper} {t : TypeId} {x k : Operand} {ok : Bool} (ho : o.op = .lookup t x k ok) (hE : Evs ρ ev ev' o) {v : Value}
    (h : rdLookup P H lim t (ev x) (ev k) ok = some v) : ∃ v', VR ρ v v' ∧ ∀ w', Near ρ H lim w w' → (execOp ev' o).run P w' = .ok (.value v') w' := by
  have hx : VR ρ (ev x) (ev' x) := hE x (by rw [ho]; simp [Op.operands])
  have hk : VR ρ (ev k) (ev' k) := hE k (by rw [ho]; simp [Op.operands])
  unfold rdLookup at h
  split at h
  case h_2 => cases h
  rename_i key elem hu
  split at h
  case h_2 => cases h
  rename_i es z hm hz
  split at h
  case h_2 => cases h
  rename_i hpp
  simp only [Bool.and_eq_true] at hpp
  split at h
  case h_2 => cases h
  rename_i r hck hfk
  cases h
  have ek : ev' k = ev k := plain_eq 3 hpp.1 hk
  have hzz : VR ρ z z := plain_refl 3 z (zero_run hz w).2
  rcases map_ok hR hx hm with ⟨e, rfl⟩ | ⟨rr, es', clock, e, hes, hrun⟩
  · obtain ⟨r', hr', fr⟩ := findKey_ok (ρ := ρ) (es' := []) .nil hpp.2 hfk
    refine ⟨found z ok r', found_ok hzz fr, fun w' _ => ?_⟩
    have h1 := pureRun_run _ hck w'
    have h2 := pureRun_run _ hr' w'
    simp only [List.isEmpty_nil] at h1
    simp only [execOp, ho, Instr.lookup, Sem.run_bind, und_run hu w', Result.andThen_ok, e, ek, Sem.run_pure, List.isEmpty_toArray, List.isEmpty_nil, h1, h2]
    cases r' with
    | none => cases ok <;> simp [found, (zero_run hz w').1]
    | some q => obtain ⟨i, q⟩ := q; cases ok <;> simp [found]
  · obtain ⟨r', hr', fr⟩ := findKey_ok (ρ := ρ) (es' := es'.toList) hes hpp.2 hfk
    refine ⟨found z ok r', found_ok hzz fr, fun w' hn => ?_⟩
    have hemp : es'.isEmpty = es.isEmpty := by
      have := hes.length
      rw [Bool.eq_iff_iff]
      simp [Array.isEmpty, List.isEmpty_iff]
      rw [← List.length_eq_zero_iff, ← this]
      simp
    have h1 := pureRun_run _ hck w'
    have h2 := pureRun_run _ hr' w'
    simp only [execOp, ho, Instr.lookup, Sem.run_bind, und_run hu w', Result.andThen_ok, e, ek, Sem.run_pure, (hrun w' hn).1, hemp, h1, h2]
    cases r' with
    | none => cases ok <;> simp [found, (zero_run hz w').1]
    | some q => obtain ⟨i, q⟩ := q; cases ok <;> simp [found]

theorem rdLen_ok {w0 w : World} {H : Hp} (hR : Rel P w0 ρ H w) {lim : Nat} {o : Oper} {c : Call} (ho : o.op = .call c) (hb : c.callee = .builtin .len) {t : TypeId} {x : Operand} (ht : c.argTypes[0]? = some t) (hx : c.args[0]? = some x)
    (hE : Evs ρ ev ev' o) {v : Value} (h : rdLen P H lim t (ev x) = some v) : ∃ v', VR ρ v v' ∧ ∀ w', Near ρ H lim w w' → (execOp ev' o).run P w' = .ok (.value v') w' := by
  have hmem : x ∈ o.op.operands.toList := by
    rw [ho]
    have : x ∈ c.args.toList := List.mem_of_getElem? (by simpa using hx)
    simp [Op.operands, Call.operands, hb]
    simpa using this
  have hc : VR ρ (ev x) (ev' x) := hE x hmem
  have run : ∀ w n, (Builtin.len_ c.argTypes o.type (c.args.map ev')).run P w = .ok (.int .i64 n) w → (execOp ev' o).run P w = .ok (.value (.int .i64 n)) w := fun w n hr => by
    simp [execOp, ho, resolve, hb, invoke, builtin, hr]
  have ha : (c.args.map ev')[0]? = some (ev' x) := by simp [hx]
  unfold rdLen at h
  split at h
  case h_2 => cases h
  rename_i k e hu
  split at h
  case h_2 => cases h
  rename_i es hm
  cases h
  refine ⟨.int .i64 es.length, .int _ _, fun w' hn => run w' _ ?_⟩
  rcases map_ok hR hc hm with ⟨e1, rfl⟩ | ⟨rr, es', clock, e1, hes, hrun⟩
  · simp [Builtin.len_, ht, ha, e1, und_run hu w', goInt]
  · have := hes.length
    simp [Builtin.len_, ht, ha, e1, und_run hu w', goInt, (hrun w' hn).1]
    rw [← this]; simp

theorem rdOp_ok {w0 w : World} {H : Hp} (hR : Rel P w0 ρ H w) {lim : Nat} {o : Oper} (hE : Evs ρ ev ev' o) {v : Value} (h : rdOp P H lim ev o = some v) :
    ∃ v', VR ρ v v' ∧ ∀ w', Near ρ H lim w w' → (execOp ev' o).run P w' = .ok (.value v') w' := by
  unfold rdOp at h
  split at h
  · rename_i t x ho
    have hx : VR ρ (ev x) (ev' x) := hE x (by rw [ho]; simp [Op.operands])
    unfold rdLoad at h
    split at h
    case h_2 => cases h
    rename_i a hv
    rw [hv] at hx
    obtain ⟨a', ea, har⟩ := hx.ptr_inv
    obtain ⟨v', r, q⟩ := loadA_ok hR har h
    exact ⟨v', r, fun w' hn => by simp [execOp, ho, Instr.loadAt, ea, Instr.sureAddr, q w' hn]⟩
  · rename_i ho
    exact lookup_ok hR ho hE h
  · rename_i c ho
    unfold rdCall at h
    split at h
    case h_2 => cases h
    rename_i b hb
    split at h
    case h_2 => cases h
    split at h
    case h_2 => cases h
    rename_i t x ht hx
    exact rdLen_ok hR ho hb ht hx hE h
  · cases h
end
end Go.Ab
namespace Go.Ab
open Go Go.RowKit
section
variable {P : Program} {ρ : Ren} {ev ev' : Operand → Value} {w0 w : World} {H : Hp}

/-- what a term does, and what is reckoned of it -/
def Did (P : Program) (w0 : World) (ρ : Ren) (H : Hp) (w : World) (s : Sem Next) (v : Value) (H' : Hp) : Prop :=
  ∃ nx v' w' ρ', s.run P w = .ok nx w' ∧ (nx = .value v' ∨ nx = .skip ∧ v' = undef) ∧ VR ρ' v v' ∧ Ext ρ ρ' ∧ Rel P w0 ρ' H' w' ∧ Keeps H H'

theorem anew_spec {id : Nat} {b : Blk} {H' : Hp} (h : anew H id b = some H') : H.get id = none ∧ id < 2 ^ 39 ∧ H.lo ≤ id ∧ H' = { H.set id b with next := max H.next (id + 1) } := by
  unfold anew at h
  split at h
  case h_2 => cases h
  rename_i hg
  split at h
  case h_2 => cases h
  rename_i hc
  simp only [Bool.and_eq_true] at hc
  have e : nextA H.next id = max H.next (id + 1) := by
    unfold nextA
    by_cases hlt : id < H.next
    · rw [Nat.blt_eq.mpr hlt]; show H.next = _; rw [Nat.max_eq_left hlt]
    · have : Nat.blt id H.next = false := by cases hb : Nat.blt id H.next with | false => rfl | true => exact absurd (Nat.blt_eq.mp hb) hlt
      rw [this]; show id + 1 = _; rw [Nat.max_eq_right (by omega)]
  rw [e] at h
  cases h
  exact ⟨hg, Nat.blt_eq.mp hc.1, Nat.ble_eq.mp hc.2, rfl⟩

theorem new_ok (hR : Rel P w0 ρ H w) {id : Nat} {l : List Value} {e : TypeId} {H' : Hp} (h : anew H id (.cells l e) = some H') (c' : Array Value) (tl : Option (Nat × Nat × Nat))
    (hc : ∀ (i : Nat) (v : Value), l[i]? = some v → ∃ v', c'[i]? = some v' ∧ VR ρ v v')
    (ht : ∀ es N M, tl = some (es, N, M) → N = l.length ∧ M = c'.size ∧ 0 < es ∧ (P.info? e).map (·.size) = some es) :
    ∃ ρ', Ext ρ ρ' ∧ ρ' id = some ⟨w.heap.size, 0, tl⟩ ∧ Rel P w0 ρ' H' (w.alloc (.cells c' e)) ∧ Keeps H H' := by
  obtain ⟨hg, hid, hlo, rfl⟩ := anew_spec h
  have he : Ext ρ (upd ρ id ⟨w.heap.size, 0, tl⟩) := upd_ext fun q hq => by rw [hR.fresh id hg] at hq; cases hq
  obtain ⟨h1, h2⟩ := hR.new id tl (.cells l e) (.cells c' e) hid hlo (n := max H.next (id + 1)) (by omega) (by omega) hg (fun c E fz hx => by cases hx; rfl)
    ⟨⟨w.heap.size, 0, tl⟩, c', (0, 0), upd_same _ _ _, by show (w.heap.push _)[w.heap.size]? = _; simp, fun i v hi => by obtain ⟨v', a, b⟩ := hc i v hi; exact ⟨v', by simpa using a, b.ext he⟩, ht⟩
  exact ⟨_, h2, upd_same _ _ _, h1, put_keeps hlo (by omega) hid (fun x h => by cases h)⟩

theorem new_ptr {id : Nat} {tl : Option (Nat × Nat × Nat)} {ρ' : Ren} (h : ρ' id = some ⟨w.heap.size, 0, tl⟩) : AR ρ' ⟨id, 0, none⟩ ⟨w.heap.size, 0, none⟩ :=
  ⟨rfl, rfl, _, h, rfl, rfl⟩

theorem newCells_ok (hR : Rel P w0 ρ H w) {id : Nat} {l l' : List Value} (hl : VRs ρ l l') {e : TypeId} {v : Value} {H' : Hp} (h : newCells H id l e = some (v, H')) (s : Sem Value)
    (hs : s.run P w = .ok (.pointer (some ⟨w.heap.size, 0, none⟩)) (w.alloc (.cells ⟨l'⟩ e))) : Did P w0 ρ H w (do pure (.value (← s))) v H' := by
  unfold newCells at h
  cases ha : anew H id (.cells l e) with
  | none => simp [ha] at h
  | some H1 =>
    simp only [ha, Option.some.injEq, Prod.mk.injEq] at h
    obtain ⟨rfl, rfl⟩ := h
    obtain ⟨ρ', he, hp, hR', hk⟩ := new_ok hR ha ⟨l'⟩ none (fun i v hi => by obtain ⟨v', a, b⟩ := hl.get i v hi; exact ⟨v', by simpa using a, b⟩) (fun _ _ _ hx => by cases hx)
    exact ⟨.value (.pointer (some ⟨w.heap.size, 0, none⟩)), _, _, ρ', by simp [hs], .inl rfl, .ptr (new_ptr hp), he, hR', hk⟩

theorem newRow_ok (hR : Rel P w0 ρ H w) {id : Nat} {l l' : List Value} (hl : VRs ρ l l') {e : TypeId} {n : Nat} {v : Value} {H' : Hp} (h : newRowA H id l e n = some (v, H')) (s : Sem Value)
    (hs : s.run P w = .ok (.slice (some ⟨w.heap.size, 0, none⟩) n n) (w.alloc (.cells ⟨l'⟩ e))) : Did P w0 ρ H w (do pure (.value (← s))) v H' := by
  unfold newRowA at h
  cases ha : anew H id (.cells l e) with
  | none => simp [ha] at h
  | some H1 =>
    simp only [ha, Option.some.injEq, Prod.mk.injEq] at h
    obtain ⟨rfl, rfl⟩ := h
    obtain ⟨ρ', he, hp, hR', hk⟩ := new_ok hR ha ⟨l'⟩ none (fun i v hi => by obtain ⟨v', a, b⟩ := hl.get i v hi; exact ⟨v', by simpa using a, b⟩) (fun _ _ _ hx => by cases hx)
    exact ⟨.value (.slice (some ⟨w.heap.size, 0, none⟩) n n), _, _, ρ', by simp [hs], .inl rfl, .sl (new_ptr hp) (.inl rfl), he, hR', hk⟩

theorem alloc_eta (l : List Value) : (⟨l⟩ : Array Value) = l.toArray := rfl

theorem alloc_ok (hR : Rel P w0 ρ H w) {id : Nat} {o : Oper} {e : TypeId} (ho : o.op = .alloc e) {v : Value} {H' : Hp} (h : wrAlloc P H id e = some (v, H')) : Did P w0 ρ H w (execOp ev' o) v H' := by
  unfold wrAlloc at h
  cases hz : zero? P e with
  | none => simp [hz] at h
  | some z =>
    simp only [hz] at h
    have hzz : VRs ρ z.cells.toList z.cells.toList := (plain_refl 3 z (zero_run hz w).2).cells
    have := newCells_ok hR hzz h (Instr.alloc e true (.tuple #[])) (by simp [Instr.alloc, (zero_run hz w).1, newVar, newRow])
    unfold execOp
    rw [ho]
    exact this

theorem box_ok (hR : Rel P w0 ρ H w) {id : Nat} {o : Oper} {e : TypeId} {x : Operand} (ho : o.op = .box e x) (hE : Evs ρ ev ev' o) {v : Value} {H' : Hp} (h : newCells H id (ev x).cells.toList e = some (v, H')) : Did P w0 ρ H w (execOp ev' o) v H' := by
  have hx : VR ρ (ev x) (ev' x) := hE x (by rw [ho]; simp [Op.operands])
  have := newCells_ok hR hx.cells h (Instr.box e (ev' x)) (by simp [Instr.box, newVar, newRow])
  unfold execOp
  rw [ho]
  exact this

theorem zeros_ok {z : Value} (hz : plain 3 z = true) (n m : Nat) : VRs ρ (zerosOf n z m).toList (zerosOf n z m).toList := by
  have hzz : VRs ρ z.cells.toList z.cells.toList := (plain_refl 3 z hz).cells
  have one : ∀ i : Nat, VR ρ ((if n = 0 then #[] else z.cells)[i]! : Value) ((if n = 0 then #[] else z.cells)[i]! : Value) := fun i => by
    rw [Array.getElem!_eq_getD, Array.getD_eq_getD_getElem?]
    cases hv : (if n = 0 then #[] else z.cells)[i]? with
    | none => exact .bool false
    | some v =>
      split at hv
      · simp at hv
      · obtain ⟨v', e, r⟩ := hzz.toArray_get i v hv
        rw [hv] at e; cases e; exact r
  refine VRs.of_get rfl fun i v v' e e' => ?_
  rw [e] at e'; cases e'
  unfold zerosOf at e
  simp at e
  obtain ⟨j, hj, rfl⟩ := e
  exact one _

theorem buildSlice_ok (hR : Rel P w0 ρ H w) {id : Nat} {o : Oper} {t : TypeId} {len : Nat} {parts : Array (Nat × Operand)} (ho : o.op = .buildSlice t len parts) (hE : Evs ρ ev ev' o) {v : Value} {H' : Hp}
    (h : wrBuildSlice P H id ev t len parts = some (v, H')) : Did P w0 ρ H w (execOp ev' o) v H' := by
  have hl : ∀ ix ∈ parts.toList, VR ρ (ev ix.2) (ev' ix.2) := fun ix hix => hE ix.2 (by rw [ho]; simp only [Op.operands]; simpa using ⟨ix.1, by simpa using hix⟩)
  unfold wrBuildSlice at h
  split at h
  case h_2 => cases h
  rename_i e hu
  split at h
  case h_2 => cases h
  rename_i n z hn hz
  split at h
  case isTrue => cases h
  rename_i hsz
  split at h
  case h_2 => cases h
  rename_i cells hf
  obtain ⟨zr, zp⟩ := zero_run hz w
  obtain ⟨cells', hf', hcs⟩ := fill_ok _ parts.toList _ _ cells hl (zeros_ok zp _ _) hf
  have := newRow_ok hR (l' := cells'.toList) hcs h (Instr.buildSlice t len (parts.map fun (i, x) => (i, ev' x))) (by
    unfold Instr.buildSlice
    simp only [Sem.run_bind, und_run hu w, Result.andThen_ok, size_run hn w, if_neg hsz, array_pairs]
    unfold zerosOf at hf'
    by_cases h0 : len * n = 0
    · simp only [h0, if_true] at hf' ⊢
      simp only [Sem.run_bind, Sem.run_pure, Result.andThen_ok]
      rw [hf']
      simp [newRow]
    · simp only [h0, if_false] at hf' ⊢
      simp only [Sem.run_bind, Sem.run_pure, Result.andThen_ok, zr]
      rw [hf']
      simp [newRow])
  unfold execOp
  rw [ho]
  exact this

/-! ### stores -/

theorem upd_self {ρ : Ren} {k : Nat} {p : Place} (h : ρ k = some p) : upd ρ k p = ρ := by
  funext j
  by_cases e : j = k
  · rw [e, upd_same, h]
  · rw [upd_other _ _ e]

theorem over_get {c vs : List Value} {off : Nat} (h : off + vs.length ≤ c.length) (i : Nat) : (over c off vs)[i]? = if i < off then c[i]? else if i < off + vs.length then vs[i - off]? else c[i]? := by
  unfold over
  rw [List.getElem?_append]
  simp only [List.length_take, Nat.min_eq_left (by omega : off ≤ c.length)]
  by_cases h1 : i < off
  · simp [h1]
  · simp only [h1, if_false]
    rw [List.getElem?_append]
    by_cases h2 : i < off + vs.length
    · rw [if_pos (by omega), if_pos h2]
    · rw [if_neg (by omega), if_neg h2, List.getElem?_drop]
      congr 1; omega

theorem one_oneCell {v v' : Value} (h : VR ρ v v') (ho : one v = true) : v'.oneCell' = true := by
  cases h <;> first | rfl | (simp [one] at ho)

theorem writeN_ok (hR : Rel P w0 ρ H w) {a a' : Addr} (har : AR ρ a a') {vs vs' : List Value} (hvs : VRs ρ vs vs') {H' : Hp} (h : writeN H a vs = some H') :
    ∃ w', (storeCells a' vs').run P w = .ok () w' ∧ Rel P w0 ρ H' w' ∧ Keeps H H' := by
  obtain ⟨s, s', p, hp, e1, e2⟩ := har
  unfold writeN at h
  split at h
  · cases h
    cases hvs
    exact ⟨w, rfl, hR, Keeps.refl H⟩
  · rename_i hne
    rw [s] at h
    simp only [] at h
    split at h
    case h_2 => cases h
    rename_i c E hg
    split at h
    case isFalse => cases h
    rename_i hc
    obtain ⟨hlo, hle, h39, hone⟩ := hc
    cases h
    obtain ⟨q, c', fz, hq, hb, hcell, htl⟩ := hR.blk a.block _ hg
    rw [hp] at hq; cases hq
    have hlive := live_of hg (by simp)
    obtain ⟨hbase, hsoft⟩ := hR.own a.block p hlive hlo hp
    have : fz = (0, 0) := hsoft c' E fz hb
    subst this
    have hlen : vs'.length = vs.length := hvs.length
    have hsize : a'.off + vs'.length ≤ c'.size := by
      rw [hlen]
      rcases Nat.eq_zero_or_pos vs.length with h0 | h0
      · have : vs = [] := List.length_eq_zero_iff.1 h0
        exact absurd this hne
      · have hlt : a.off + vs.length - 1 < c.length := by omega
        obtain ⟨v', hv', _⟩ := hcell (a.off + vs.length - 1) _ (List.getElem?_eq_getElem hlt)
        have := (Array.getElem?_eq_some_iff.1 hv').1
        omega
    have ha' : a' = ⟨p.real, a'.off, none⟩ := by
      obtain ⟨b, o, sp⟩ := a'
      simp only at s' e1
      subst s' e1; rfl
    have hrun := run_storeCells_at (P := P) p.real a'.off E vs' 0 c' w hb (by omega) (fun v hv => by
      obtain ⟨i, hi⟩ := List.getElem?_of_mem hv
      have hlt : i < vs.length := by have := (List.getElem?_eq_some_iff.1 hi).1; omega
      obtain ⟨u, hu, r⟩ := hvs.get i _ (List.getElem?_eq_getElem hlt)
      rw [hi] at hu; cases hu
      exact one_oneCell r (List.all_eq_true.1 hone _ (List.getElem_mem hlt)))
    rw [← ha', Nat.add_zero] at hrun
    have hupd : upd ρ a.block p = ρ := upd_self hp
    have hput := hR.put (w' := w.setRow p.real (c'.toList.take a'.off ++ vs' ++ c'.toList.drop (a'.off + vs'.length)).toArray) a.block p (.cells (over c a.off vs) E) h39 hlo (n := H.next)
      (by rcases Nat.lt_or_ge a.block H.next with h' | h'
          · exact h'
          · rw [hR.top _ h'] at hg; cases hg) (Nat.le_refl _)
      (fun q hq => by rw [hp] at hq; cases hq; rfl) hbase
      (fun j q hj hl hq => by
        by_cases hjl : j < H.lo
        · have := hR.old j q hl hjl hq; omega
        · exact hR.inj j a.block q p hj (by omega) hlo hl hlive hq hp)
      rfl rfl rfl (by simp) (fun r _ hr => setRow_other _ _ _ _ hr)
      (fun c2 E2 fz2 h2 => by rw [setRow_heap w p.real c' _ E (0, 0) hb] at h2; cases h2; rfl)
      ⟨p, _, (0, 0), by rw [hupd]; exact hp, setRow_heap w p.real c' _ E (0, 0) hb, fun i v hi => by
        rw [hupd]
        rw [over_get hle] at hi
        have hget : ∀ j, (c'.toList.take a'.off ++ vs' ++ c'.toList.drop (a'.off + vs'.length)).toArray[j]? = if j < a'.off then c'[j]? else if j < a'.off + vs'.length then vs'[j - a'.off]? else c'[j]? := fun j => by
          have := over_get (c := c'.toList) (vs := vs') (off := a'.off) (by simpa using hsize) j
          simpa [over, List.append_assoc] using this
        rw [hget]
        by_cases h1 : i < a.off
        · rw [if_pos h1] at hi
          rw [if_pos (by omega)]
          exact hcell i v hi
        · rw [if_neg h1] at hi
          rw [if_neg (by omega)]
          by_cases h2 : i < a.off + vs.length
          · rw [if_pos h2] at hi
            rw [if_pos (by omega), show i + p.shift - a'.off = i - a.off by omega]
            exact hvs.get _ _ hi
          · rw [if_neg h2] at hi
            rw [if_neg (by omega)]
            exact hcell i v hi, fun es N M ht => by
        obtain ⟨hN, hM, h0, hes⟩ := htl es N M ht
        have l1 : (over c a.off vs).length = c.length := by simp [over]; omega
        have l2 : (c'.toList.take a'.off ++ vs' ++ c'.toList.drop (a'.off + vs'.length)).toArray.size = c'.size := by simp; omega
        exact ⟨by rw [l1]; exact hN, by rw [l2]; exact hM, h0, hes⟩⟩
    rw [hupd] at hput
    refine ⟨_, hrun, hput, ?_⟩
    exact kill_keeps hlo h39 (fun x h => by cases h)

theorem store_ok (hR : Rel P w0 ρ H w) {o : Oper} {t : TypeId} {x y : Operand} (ho : o.op = .store t x y) (hE : Evs ρ ev ev' o) {v : Value} {H' : Hp} (h : wrStore P H t (ev x) (ev y) = some (v, H')) : Did P w0 ρ H w (execOp ev' o) v H' := by
  have hx : VR ρ (ev x) (ev' x) := hE x (by rw [ho]; simp [Op.operands])
  have hy : VR ρ (ev y) (ev' y) := hE y (by rw [ho]; simp [Op.operands])
  unfold wrStore at h
  split at h
  case h_2 => cases h
  rename_i a hv
  rw [hv] at hx
  obtain ⟨a', ea, har⟩ := hx.ptr_inv
  cases hs : storeA P H t a (ev y) with
  | none => simp [hs] at h
  | some H1 =>
    simp only [hs, Option.some.injEq, Prod.mk.injEq] at h
    obtain ⟨rfl, rfl⟩ := h
    unfold storeA at hs
    cases hz : size? P t with
    | none => simp [hz] at hs
    | some n =>
      simp only [hz] at hs
      split at hs
      case isFalse => cases hs
      rename_i hn
      obtain ⟨w', hrun, hR', hk⟩ := writeN_ok hR har hy.cells hs
      refine ⟨.skip, undef, w', ρ, ?_, .inr ⟨rfl, rfl⟩, vr_undef _, Ext.refl _, hR', hk⟩
      simp [execOp, ho, Instr.storeAt, ea, Instr.sureAddr, storeVar, size_run hz w, hy.cells_size, hn, hrun]
end
end Go.Ab
namespace Go.Ab
open Go Go.RowKit
section
variable {P : Program} {ρ : Ren} {ev ev' : Operand → Value} {w0 w : World} {H : Hp}

theorem makeMap_ok (hR : Rel P w0 ρ H w) {id : Nat} {o : Oper} {t : TypeId} (ho : o.op = .makeMap t none) {v : Value} {H' : Hp} (h : wrMakeMap H id = some (v, H')) : Did P w0 ρ H w (execOp ev' o) v H' := by
  unfold wrMakeMap at h
  cases ha : anew H id (.map [] 0) with
  | none => simp [ha] at h
  | some H1 =>
    simp only [ha, Option.some.injEq, Prod.mk.injEq] at h
    obtain ⟨rfl, rfl⟩ := h
    obtain ⟨hg, hid, hlo, rfl⟩ := anew_spec ha
    obtain ⟨h1, h2⟩ := hR.new id none (.map [] 0) (.map #[] 0) hid hlo (n := max H.next (id + 1)) (by omega) (by omega) hg (fun c E fz hx => by cases hx)
      ⟨⟨w.heap.size, 0, none⟩, #[], upd_same _ _ _, by show (w.heap.push _)[w.heap.size]? = _; simp, .nil⟩
    refine ⟨.value (.map (some w.heap.size)), .map (some w.heap.size), w.alloc (.map #[] 0), _, ?_, .inl rfl, ?_, h2, h1, put_keeps hlo (by omega) hid (fun x h => by cases h)⟩
    · simp [execOp, ho, Instr.makeMap]
    · exact .map (p := ⟨w.heap.size, 0, none⟩) (upd_same _ _ _)

structure ER (ρ : Ren) (e e' : MapEntry) : Prop where
  key : VR ρ e.key e'.key
  val : VR ρ e.val e'.val
  born : e'.born = e.born

theorem Ents.get {es es' : List MapEntry} (h : Ents ρ es es') : ∀ (i : Nat) (e : MapEntry), es[i]? = some e → ∃ e', es'[i]? = some e' ∧ ER ρ e e' := by
  induction h with
  | nil => intro i e h; simp at h
  | cons a b _ ih =>
    intro i e h
    cases i with
    | zero => simp at h; subst h; exact ⟨_, rfl, ⟨a, b, rfl⟩⟩
    | succ i => simp at h; obtain ⟨e', h1, h2⟩ := ih i e h; exact ⟨e', by simpa using h1, h2⟩

theorem Ents.of_get : ∀ {es es' : List MapEntry}, es'.length = es.length → (∀ (i : Nat) (e e' : MapEntry), es[i]? = some e → es'[i]? = some e' → ER ρ e e') → Ents ρ es es'
  | [], [], _, _ => .nil
  | [], _ :: _, h, _ => by simp at h
  | _ :: _, [], h, _ => by simp at h
  | ⟨k, v, b⟩ :: l, ⟨k', v', b'⟩ :: l', h, hr => by
    obtain ⟨h1, h2, h3⟩ := hr 0 _ _ rfl rfl
    simp only at h1 h2 h3
    subst h3
    exact .cons h1 h2 (Ents.of_get (by simpa using h) fun i e e' x y => hr (i + 1) e e' (by simpa using x) (by simpa using y))

theorem Ents.append {a a' b b' : List MapEntry} (h : Ents ρ a a') (k : Ents ρ b b') : Ents ρ (a ++ b) (a' ++ b') := by
  induction h with
  | nil => exact k
  | cons x y _ ih => exact .cons x y ih

/-- a map's block is written anew -/
theorem setMap_ok (hR : Rel P w0 ρ H w) {r : Nat} {es : List MapEntry} {clock : Nat} (hg : H.get r = some (.map es clock)) (hlo : H.lo ≤ r) (h39 : r < 2 ^ 39) {p : Place} (hp : ρ r = some p)
    {es2 : List MapEntry} {es2' : Array MapEntry} (clock2 : Nat) (he : Ents ρ es2 es2'.toList) :
    ∃ w', (setObj p.real (.map es2' clock2)).run P w = .ok () w' ∧ Rel P w0 ρ (H.set r (.map es2 clock2)) w' ∧ Keeps H (H.set r (.map es2 clock2)) := by
  obtain ⟨q, es', hq, hb, _⟩ := hR.blk r _ hg
  rw [hp] at hq; cases hq
  have hlive := live_of hg (by simp)
  have hlt : p.real < w.heap.size := (Array.getElem?_eq_some_iff.1 hb).1
  obtain ⟨hbase, _⟩ := hR.own r p hlive hlo hp
  have hset : ({ w with heap := w.heap.setIfInBounds p.real (.map es2' clock2) } : World).heap[p.real]? = some (.map es2' clock2) := by
    show (w.heap.setIfInBounds p.real _)[p.real]? = _
    simp [hlt]
  have hput := hR.put (w' := { w with heap := w.heap.setIfInBounds p.real (.map es2' clock2) }) r p (.map es2 clock2) h39 hlo (n := H.next)
    (by rcases Nat.lt_or_ge r H.next with h' | h'
        · exact h'
        · rw [hR.top _ h'] at hg; cases hg) (Nat.le_refl _)
    (fun q hq => by rw [hp] at hq; cases hq; rfl) hbase
    (fun j q hj hl hq => by
      by_cases hjl : j < H.lo
      · have := hR.old j q hl hjl hq; omega
      · exact hR.inj j r q p hj (by omega) hlo hl hlive hq hp)
    rfl rfl rfl (by simp) (fun k _ hk => by show (w.heap.setIfInBounds p.real _)[k]? = _; rw [Array.getElem?_setIfInBounds_ne (Ne.symm hk)])
    (fun c2 E2 fz2 h2 => by rw [hset] at h2; cases h2)
    ⟨p, es2', by rw [upd_self hp]; exact hp, hset, by rw [upd_self hp]; exact he⟩
  rw [upd_self hp] at hput
  refine ⟨_, ?_, hput, kill_keeps hlo h39 (fun x h => by cases h)⟩
  simp [setObj, Sem.run, hb]

theorem mapUpdate_ok (hR : Rel P w0 ρ H w) {o : Oper} {t : TypeId} {m k x : Operand} (hrun : ∀ P w, (execOp ev' o).run P w = (do Instr.mapUpdate t (ev' m) (ev' k) (ev' x); pure .skip : Sem Next).run P w)
    (hm : VR ρ (ev m) (ev' m)) (hk : VR ρ (ev k) (ev' k)) (hx : VR ρ (ev x) (ev' x)) {v : Value} {H' : Hp}
    (h : wrMapUpdate P H t (ev m) (ev k) (ev x) = some (v, H')) : Did P w0 ρ H w (execOp ev' o) v H' := by
  unfold wrMapUpdate at h
  split at h
  case h_2 => cases h
  rename_i r hv
  rw [hv] at hm
  obtain ⟨p, em, hp⟩ := hm.map_inv
  split at h
  case h_2 => cases h
  rename_i key elem es clock hu hg
  split at h
  case h_2 => cases h
  rename_i hc
  simp only [Bool.and_eq_true, decide_eq_true_eq] at hc
  obtain ⟨⟨⟨hlo, h39⟩, hpk⟩, hke⟩ := hc
  split at h
  case h_2 => cases h
  rename_i at_ hck hfk
  have ek : ev' k = ev k := plain_eq 3 hpk hk
  obtain ⟨q, es', hq, hb, hes⟩ := hR.blk r _ hg
  rw [hp] at hq; cases hq
  obtain ⟨r', hr', fr⟩ := findKey_ok (ρ := ρ) (es' := es'.toList) hes hke hfk
  have h1 := pureRun_run _ hck w
  have h2 := pureRun_run _ hr' w
  have hgo : (getObj p.real).run P w = .ok (.map es' clock) w := by simp [getObj, Sem.run, hb]
  unfold putKey at h
  cases fr with
  | none =>
    simp only [Option.some.injEq, Prod.mk.injEq] at h
    obtain ⟨rfl, rfl⟩ := h
    have he : Ents ρ (es ++ [⟨ev k, ev x, clock⟩]) (es'.push ⟨ev' k, ev' x, clock⟩).toList := by
      rw [Array.toList_push]
      exact hes.append (.cons hk hx .nil)
    obtain ⟨w', hs, hR', hkp⟩ := setMap_ok hR hg hlo h39 hp (clock + 1) he
    refine ⟨.skip, undef, w', ρ, ?_, .inr ⟨rfl, rfl⟩, vr_undef _, Ext.refl _, hR', hkp⟩
    rw [hrun]
    rw [ek] at hs
    simp only [Instr.mapUpdate, Sem.run_bind, und_run hu w, Result.andThen_ok, em, ek, hgo, h1, h2, hs, Sem.run_pure]
  | some i hvv =>
    simp only [] at h
    split at h
    case h_2 => cases h
    rename_i e hei
    split at h
    case isFalse => cases h
    rename_i hsame
    simp only [Option.some.injEq, Prod.mk.injEq] at h
    obtain ⟨rfl, rfl⟩ := h
    obtain ⟨e', hei', her⟩ := hes.get i e hei
    have hpe : plain 3 e.key = true := by
      have := List.all_eq_true.1 hke e (List.mem_of_getElem? hei)
      exact this
    have eke : e'.key = e.key := plain_eq 3 hpe her.key
    have he : Ents ρ (es.set i { e with key := ev k, val := ev x }) (es'.modify i fun e => { e with key := ev' k, val := ev' x }).toList := by
      refine Ents.of_get ?_ fun j a a' ha ha' => ?_
      · have := hes.length
        simp at this ⊢
        exact this
      · have ha' : (es'.modify i fun e => { e with key := ev' k, val := ev' x })[j]? = some a' := by rw [← Array.getElem?_toList]; exact ha'
        rw [Array.getElem?_modify] at ha'
        rw [List.getElem?_set] at ha
        by_cases hij : i = j
        · subst hij
          have hil : i < es.length := (List.getElem?_eq_some_iff.1 hei).1
          have hei2 : es'[i]? = some e' := by simpa using hei'
          simp only [if_true, hil, hei2, Option.map_some, Option.some.injEq] at ha ha'
          subst ha ha'
          exact ⟨hk, hx, her.born⟩
        · simp only [hij, if_false] at ha ha'
          obtain ⟨a2, h2, h3⟩ := hes.get j a ha
          rw [show es'[j]? = some a2 by simpa using h2] at ha'
          cases ha'; exact h3
    obtain ⟨w', hs, hR', hkp⟩ := setMap_ok hR hg hlo h39 hp clock he
    refine ⟨.skip, undef, w', ρ, ?_, .inr ⟨rfl, rfl⟩, vr_undef _, Ext.refl _, hR', hkp⟩
    rw [hrun]
    rw [ek] at hs
    have hei2 : es'[i]? = some e' := by simpa using hei'
    simp only [Instr.mapUpdate, Sem.run_bind, und_run hu w, Result.andThen_ok, em, ek, hgo, h1, h2, hei2, Option.map_some, Option.getD_some, eke, Instr.keyThatStays, hsame, if_true, Sem.run_pure, hs]

theorem makeSlice_ok (hR : Rel P w0 ρ H w) {id : Nat} {o : Oper} {t : TypeId} {l m : Operand} (ho : o.op = .makeSlice t l m) (hE : Evs ρ ev ev' o) {v : Value} {H' : Hp}
    (h : wrMakeSlice P H id t (ev l) (ev m) = some (v, H')) : Did P w0 ρ H w (execOp ev' o) v H' := by
  have hl : VR ρ (ev l) (ev' l) := hE l (by rw [ho]; simp [Op.operands])
  have hm : VR ρ (ev m) (ev' m) := hE m (by rw [ho]; simp [Op.operands])
  unfold wrMakeSlice at h
  split at h
  case h_2 => cases h
  rename_i k1 x k2 y hvl hvm
  rw [hvl] at hl; rw [hvm] at hm
  split at h
  case h_2 => cases h
  rename_i e hu
  split at h
  case h_2 => cases h
  rename_i i z hi hz
  split at h
  case isFalse => cases h
  rename_i hc
  obtain ⟨c1, c2, c3, c4⟩ := hc
  split at h
  case h_2 => cases h
  rename_i H1 ha
  simp only [Option.some.injEq, Prod.mk.injEq] at h
  obtain ⟨rfl, rfl⟩ := h
  obtain ⟨zr, zp⟩ := zero_run hz w
  obtain ⟨ρ', he, hp, hR', hk⟩ := new_ok hR ha (zerosOf (y.toNat * i.size) z (y.toNat * i.size)) none (fun j v hj => by
      obtain ⟨v', a, b⟩ := (zeros_ok (ρ := ρ) zp (y.toNat * i.size) (y.toNat * i.size)).get j v hj
      exact ⟨v', by simpa using a, b⟩) (fun _ _ _ hx => by cases hx)
  have wx : IntKind.i64.wrap x = x := by simp [IntKind.wrap, IntKind.bits, IntKind.signed]; omega
  have wy : IntKind.i64.wrap y = y := by simp [IntKind.wrap, IntKind.bits, IntKind.signed]; omega
  have hb : ¬ ((i.bytes : Int) * y > 2 ^ 48) := by
    have : ((i.bytes * y.toNat : Nat) : Int) ≤ 2 ^ 48 := by exact_mod_cast c4
    rw [Int.natCast_mul, Int.toNat_of_nonneg (by omega)] at this
    omega
  refine ⟨.value (.slice (some ⟨w.heap.size, 0, none⟩) x.toNat y.toNat), _, w.alloc (.cells (zerosOf (y.toNat * i.size) z (y.toNat * i.size)) e), ρ', ?_, .inl rfl, .sl (new_ptr hp) (.inl rfl), he, hR', hk⟩
  have hsz : size? P e = some i.size := by simp [size?, hi]
  have hif : ¬ (decide (y < 0) || decide ((i.bytes : Int) * y > 2 ^ 48) || decide (x < 0) || decide (x > y)) = true := by
    simp only [Bool.or_eq_true, decide_eq_true_eq]; omega
  unfold execOp
  rw [ho]
  simp only [Sem.run_bind, Instr.makeSlice, und_run hu w, Result.andThen_ok, hl.int_inv, hm.int_inv, asInt, asIntOf, Sem.run_pure, typeInfo, run_program, hi, wx, wy]
  rw [if_neg (by simpa using hif)]
  by_cases h0 : y.toNat * i.size = 0
  · simp [size_run hsz w, h0, newRow, zerosOf]
  · simp [size_run hsz w, h0, zr, newRow, zerosOf]
end
end Go.Ab
namespace Go.Ab
open Go Go.RowKit
section
variable {P : Program} {ρ : Ren} {ev ev' : Operand → Value} {w0 w : World} {H : Hp}

theorem growBy_le : ∀ (r c n : Nat), c ≤ n → Builtin.growBy n r c ≤ n + (n + 768) / 4
  | 0, c, n, h => by simp [Builtin.growBy]; omega
  | r + 1, c, n, h => by
    unfold Builtin.growBy
    split
    · omega
    · by_cases h2 : c + (c + 768) / 4 ≤ n
      · exact growBy_le r _ n h2
      · cases r with
        | zero => unfold Builtin.growBy; omega
        | succ r =>
          unfold Builtin.growBy
          rw [if_pos (by omega)]
          omega

theorem nextcap_le {need c : Nat} (h : c < need) : Builtin.nextslicecap need c ≤ 3 * need := by
  unfold Builtin.nextslicecap
  split
  · omega
  · split
    · omega
    · have := growBy_le 4 c need (by omega)
      omega

theorem near_refl (ρ : Ren) (H : Hp) (lim : Nat) (w : World) : Near ρ H lim w w := fun _ _ _ _ _ => rfl
theorem near_drew (ρ : Ren) (H : Hp) (lim : Nat) (w : World) : Near ρ H lim w w.drew := fun _ _ _ _ _ => rfl

/-- what is appended -/
theorem source_ok (hR : Rel P w0 ρ H w) {size : Nat} {x u : Value} (hx : VR ρ x u) {n : Nat} {new : List Value} (h : source H size x = some (n, new)) :
    ∃ new', VRs ρ new new' ∧ new.length = n * size ∧ (∀ w', (Builtin.lenOf u).run P w' = .ok n w') ∧ (∀ w', Near ρ H H.next w w' → (Builtin.firstCells size n u).run P w' = .ok ⟨new'⟩ w') := by
  unfold source at h
  split at h
  · rename_i a m c
    obtain ⟨a', c', eu, hcase⟩ := hx.sl_inv
    split at h
    case h_2 => cases h
    rename_i l hr
    cases h
    subst eu
    rcases hcase with ⟨har, _⟩ | ⟨rfl, _, _⟩
    · obtain ⟨l', rs, hl, run⟩ := readN_ok hR har hr
      exact ⟨l', rs, by rw [← rs.length, hl], fun w' => rfl, fun w' hn => by simp [Builtin.firstCells, run w' hn]⟩
    · rw [Nat.zero_mul] at hr
      simp [readN] at hr
      subst hr
      exact ⟨[], .nil, by simp, fun w' => rfl, fun w' hn => by simp [Builtin.firstCells, loadCells, loadCellsFrom]⟩
  · cases h
    have := hx.sl0_inv
    subst this
    exact ⟨[], .nil, by simp, fun w' => rfl, fun w' hn => rfl⟩
  · rename_i b
    split at h
    case isFalse => cases h
    rename_i hs
    cases h
    have := hx.str_inv
    subst this hs
    refine ⟨b.data.toList.map fun u => Value.int .u8 u.toNat, VRs.of_all (p := plain 3) (fun v => plain_refl 3 v) _ (by rw [List.all_map]; exact List.all_eq_true.2 fun _ _ => rfl), by simp, fun w' => rfl, fun w' _ => ?_⟩
    simp only [Builtin.firstCells, Sem.run_pure]
    congr 1
    apply Array.ext'
    simp
  · cases h


def kindOk (P : Program) (u : Option TypeId) : Bool := match u with | some u => (match P.underlying u with | some (.int _) => false | some _ => true | none => false) | none => true

section
variable {t e : TypeId} {u : Option TypeId} {ts : Array TypeId} {ty : TypeId} {s x : Value} {args : Array Value} {i : TypeInfo} {base : Option Addr} {len cap n : Nat}

theorem append_fits (h0 : ts[0]? = some t) (h1 : ts[1]? = u) (a0 : args[0]? = some s) (a1 : args[1]? = some x) (hu : P.underlying t = some (.slice e)) (hi : P.info? e = some i) (hz : kindOk P u = true)
    (hs : s = .slice base len cap) (hfit : len + n ≤ cap) {w' : World} {new : Array Value} (hl : (Builtin.lenOf x).run P w = .ok n w) (hn : (Builtin.firstCells i.size n x).run P w = .ok new w)
    (hst : (match base with | some a => storeCells (a.add (len * i.size)) new.toList | none => (pure () : Sem Unit)).run P w = .ok () w') :
    (Builtin.append_ ts ty args).run P w = .ok (.slice base (len + n) cap) w' := by
  subst hs
  have hgo : ∀ w1, (match base with | some a => storeCells (a.add (len * i.size)) new.toList | none => (pure () : Sem Unit)).run P w = .ok () w1 →
      (do (match base with | some a => storeCells (a.add (len * i.size)) new.toList | none => (pure () : Sem Unit)); pure (Value.slice base (len + n) cap) : Sem Value).run P w = .ok (.slice base (len + n) cap) w1 := fun w1 h => by
    rw [Sem.run_bind, h]; rfl
  unfold kindOk at hz
  unfold Builtin.append_
  cases u with
  | none =>
    cases base with
    | none =>
      simp only [h0, h1, a0, a1, Sem.run_bind, und_run hu w, Result.andThen_ok, sizeOf, typeInfo, run_program, hi, Sem.run_pure, Bool.false_eq_true, if_false, hl, if_pos hfit, Bool.not_false, if_true, hn]
      exact hgo w' hst
    | some a =>
      have hst : (storeCells (a.add (len * i.size)) new.toList).run P w = .ok () w' := hst
      simp only [h0, h1, a0, a1, Sem.run_bind, und_run hu w, Result.andThen_ok, sizeOf, typeInfo, run_program, hi, Sem.run_pure, Bool.false_eq_true, if_false, hl, if_pos hfit, Bool.not_false, if_true, hn, hst]
  | some u =>
    simp only [] at hz
    cases hu2 : P.underlying u with
    | none => simp [hu2] at hz
    | some d =>
      cases base with
      | none =>
        cases d <;> simp only [hu2, Bool.false_eq_true] at hz <;>
        simp only [h0, h1, a0, a1, Sem.run_bind, und_run hu w, und_run hu2 w, Result.andThen_ok, sizeOf, typeInfo, run_program, hi, Sem.run_pure, Bool.false_eq_true, if_false, hl, if_pos hfit, Bool.not_false, if_true, hn] <;>
        exact hgo w' hst
      | some a =>
        have hst : (storeCells (a.add (len * i.size)) new.toList).run P w = .ok () w' := hst
        cases d <;> simp only [hu2, Bool.false_eq_true] at hz <;>
        simp only [h0, h1, a0, a1, Sem.run_bind, und_run hu w, und_run hu2 w, Result.andThen_ok, sizeOf, typeInfo, run_program, hi, Sem.run_pure, Bool.false_eq_true, if_false, hl, if_pos hfit, Bool.not_false, if_true, hn, hst]

theorem append_grows (h0 : ts[0]? = some t) (h1 : ts[1]? = u) (a0 : args[0]? = some s) (a1 : args[1]? = some x) (hu : P.underlying t = some (.slice e)) (hi : P.info? e = some i) (hz : kindOk P u = true)
    (hs : s = .slice base len cap) (hfit : ¬ len + n ≤ cap) (hb : i.bytes ≠ 0) (hle : (len + n) * i.bytes ≤ 2 ^ 46) {old new : Array Value} {z : Value} (hl : (Builtin.lenOf x).run P w = .ok n w)
    (ho : (Builtin.firstCells i.size len s).run P w.drew = .ok old w.drew) (hn : (Builtin.firstCells i.size n x).run P w.drew = .ok new w.drew) (hzz : zero? P e = some z) :
    ∃ c, len + n ≤ c ∧ (Builtin.append_ ts ty args).run P w = .ok (.slice (some ⟨w.heap.size, 0, none⟩) (len + n) c) (w.drew.alloc (.cells (old ++ new ++ Builtin.zeroCells z.cells (c - (len + n))) e)) := by
  subst hs
  have hcap : ¬ (Builtin.nextslicecap (len + n) cap * i.bytes > 2 ^ 48) := by
    have h1 := nextcap_le (need := len + n) (c := cap) (by omega)
    have h2 := Nat.mul_le_mul_right i.bytes h1
    rw [Nat.mul_assoc] at h2
    omega
  have hmax : ¬ (((len + n : Nat) : Int) > IntKind.i64.max ∧ (False ∨ i.bytes = 0)) := by
    rintro ⟨_, h | h⟩
    · exact h
    · exact hb h
  refine ⟨(len + n) + w.tape w.drawn (.appendCap (len + n) cap e) % (2 ^ 63 - (len + n)), by omega, ?_⟩
  have hd : ({ w with drawn := w.drawn + 1 } : World) = w.drew := rfl
  unfold kindOk at hz
  unfold Builtin.append_
  cases u with
  | none =>
    simp only [h0, h1, a0, a1, Sem.run_bind, und_run hu w, Result.andThen_ok, sizeOf, typeInfo, run_program, hi, Sem.run_pure, Bool.false_eq_true, if_false, hl, if_neg hfit, hmax, if_neg hcap, Bool.not_false, if_true,
      run_choose, Question.forced, Question.cut, run_askRoom, hd, ho, hn, (zero_run hzz w.drew).1, newRow, run_newObj]
    rfl
  | some u =>
    simp only [] at hz
    cases hu2 : P.underlying u with
    | none => simp [hu2] at hz
    | some d =>
      cases d <;> simp only [hu2, Bool.false_eq_true] at hz <;>
      simp only [h0, h1, a0, a1, Sem.run_bind, und_run hu w, und_run hu2 w, Result.andThen_ok, sizeOf, typeInfo, run_program, hi, Sem.run_pure, Bool.false_eq_true, if_false, hl, if_neg hfit, hmax, if_neg hcap, Bool.not_false, if_true,
        run_choose, Question.forced, Question.cut, run_askRoom, hd, ho, hn, (zero_run hzz w.drew).1, newRow, run_newObj] <;>
      rfl
end
end
end Go.Ab
namespace Go.Ab
open Go Go.RowKit
section
variable {P : Program} {ρ : Ren} {ev ev' : Operand → Value} {w0 w : World} {H : Hp}

theorem zeroCells_size (z : Array Value) (n : Nat) : (Builtin.zeroCells z n).size = n * z.size := by simp [Builtin.zeroCells]

/-- a row that has grown into new memory -/
theorem grown_ok (hR : Rel P w0 ρ H w) {id : Nat} {e : TypeId} {size m c : Nat} {l l' : List Value} (hl : VRs ρ l l') (hlen : l.length = m * size) (hsz : size? P e = some size) (h0 : 0 < size) (hc : m ≤ c) {z : Array Value} (hz : z.size = size)
    {H' : Hp} {v : Value} (h : newRowA H id l e m = some (v, H')) : ∃ ρ' v', VR ρ' v v' ∧ Ext ρ ρ' ∧ v' = .slice (some ⟨w.heap.size, 0, none⟩) m c ∧ Rel P w0 ρ' H' (w.drew.alloc (.cells (⟨l'⟩ ++ Builtin.zeroCells z (c - m)) e)) ∧ Keeps H H' := by
  unfold newRowA at h
  cases ha : anew H id (.cells l e) with
  | none => simp [ha] at h
  | some H1 =>
    simp only [ha, Option.some.injEq, Prod.mk.injEq] at h
    obtain ⟨rfl, rfl⟩ := h
    have hl' : l'.length = m * size := by rw [hl.length, hlen]
    have hM : ((⟨l'⟩ : Array Value) ++ Builtin.zeroCells z (c - m)).size = c * size := by
      rw [Array.size_append, zeroCells_size, hz]
      show l'.length + _ = _
      rw [hl', ← Nat.add_mul]
      congr 1; omega
    obtain ⟨ρ', he, hp, hR', hk⟩ := new_ok hR.drew ha (⟨l'⟩ ++ Builtin.zeroCells z (c - m)) (some (size, m * size, c * size)) (fun i v hi => by
        obtain ⟨v', a, b⟩ := hl.get i v hi
        refine ⟨v', ?_, b⟩
        rw [Array.getElem?_append_left (by have := (List.getElem?_eq_some_iff.1 a).1; simpa using this)]
        simpa using a) (fun es N M hx => by cases hx; exact ⟨hlen.symm, hM.symm, h0, hsz⟩)
    refine ⟨ρ', _, .sl (a' := ⟨w.heap.size, 0, none⟩) (c' := c) (new_ptr (w := w.drew) hp) (.inr ⟨_, size, m * size, c * size, hp, rfl, ?_, ?_, hc⟩), he, rfl, hR', hk⟩
    · show 0 + m * size = m * size; omega
    · show 0 + c * size = c * size; omega

/-- a row that has grown where it lies -/
theorem room_ok (hR : Rel P w0 ρ H w) {id : Nat} {e : TypeId} {size len cap' n : Nat} {a a' : Addr} (har : AR ρ a a') {p : Place} (hp : ρ a.block = some p) {es N M : Nat} (htl : p.tl = some (es, N, M)) (hM : a'.off + cap' * es = M)
    {cs : List Value} (hg : H.get a.block = some (.cells cs e)) (hes : es = size) (hlo : H.lo ≤ a.block) (h39 : a.block < 2 ^ 39) (hne : a.block ≠ id) {old new new' : List Value} (hold : readN H H.next a (len * size) = some old)
    (hnew : VRs ρ new new') (hnl : new.length = n * size) (hone : new.all one = true) (hfit : len + n ≤ cap') (h0 : 0 < size) (hsz : size? P e = some size)
    {H' : Hp} {v : Value} (h : newRowA (H.set a.block .dead) id (old ++ new) e (len + n) = some (v, H')) :
    ∃ ρ' w', (storeCells (a'.add (len * size)) new').run P w = .ok () w' ∧ VR ρ' v (.slice (some a') (len + n) cap') ∧ Ext ρ ρ' ∧ Rel P w0 ρ' H' w' ∧ Keeps H H' := by
  subst hes
  obtain ⟨s, s', q, hq, e1, e2⟩ := har
  rw [hp] at hq; cases hq
  unfold newRowA at h
  cases ha : anew (H.set a.block .dead) id (.cells (old ++ new) e) with
  | none => simp [ha] at h
  | some H1 =>
    simp only [ha, Option.some.injEq, Prod.mk.injEq] at h
    obtain ⟨rfl, rfl⟩ := h
    obtain ⟨hgn, hid, hidlo, rfl⟩ := anew_spec ha
    have hidlo : H.lo ≤ id := hidlo
    have hkill := hR.kill a.block h39 hg
    have hgid : H.get id = none := by rw [Hp.get_other H _ (Ne.symm hne)] at hgn; exact hgn
    have hρid : ρ id = none := hR.fresh id hgid
    obtain ⟨q, c', fz, hq, hb, hcell, htl'⟩ := hR.blk a.block _ hg
    rw [hp] at hq; cases hq
    obtain ⟨hN, hM', hes0, _⟩ := htl' es N M htl
    have hlive := live_of hg (by simp)
    obtain ⟨hbase, hsoft⟩ := hR.own a.block p hlive hlo hp
    have : fz = (0, 0) := hsoft c' e fz hb
    subst this
    have hnl' : new'.length = n * es := by rw [hnew.length, hnl]
    have hoff : (a'.add (len * es)) = ⟨p.real, a'.off + len * es, none⟩ := by
      obtain ⟨b, o, sp⟩ := a'
      simp only at s' e1
      subst s' e1
      unfold Addr.add; split <;> simp_all
    have hend : a'.off + len * es + new'.length ≤ c'.size := by
      rw [hnl', ← hM', ← hM]
      have := Nat.mul_le_mul_right es hfit
      rw [Nat.add_mul] at this
      omega
    obtain ⟨old2, hvo, holen, hrun2⟩ := readN_ok hR (⟨s, s', p, hp, e1, e2⟩ : AR ρ a a') hold
    have hrun := run_storeCells_at (P := P) p.real (a'.off + len * es) e new' 0 c' w hb (by omega) (fun v hv => by
      obtain ⟨i, hi⟩ := List.getElem?_of_mem hv
      have hlt : i < new.length := by have := (List.getElem?_eq_some_iff.1 hi).1; omega
      obtain ⟨u, hu, r⟩ := hnew.get i _ (List.getElem?_eq_getElem hlt)
      rw [hi] at hu; cases hu
      exact one_oneCell r (List.all_eq_true.1 hone _ (List.getElem_mem hlt)))
    rw [← hoff, Nat.add_zero] at hrun
    have hol : old.length = len * es := by rw [← hvo.length, holen]
    -- what lies in the old cells
    have holdget : ∀ i v, old[i]? = some v → ∃ v', c'[i + a'.off]? = some v' ∧ VR ρ v v' := fun i v hi => by
      have hilt : i < len * es := by rw [← hol]; exact (List.getElem?_eq_some_iff.1 hi).1
      unfold readN at hold
      cases hle : len * es with
      | zero => omega
      | succ k =>
        rw [hle] at hold
        simp only [] at hold
        cases hbk : blockAt H H.next a with
        | none => simp [hbk] at hold
        | some cc =>
          simp only [hbk] at hold
          obtain ⟨_, hget⟩ := takeA_spec _ _ _ hold
          have := hget i v hi
          rw [List.getElem?_drop] at this
          have hcc : cc = cs := by
            unfold blockAt at hbk
            rw [s] at hbk
            simp only [] at hbk
            split at hbk
            · rw [hg] at hbk; simpa using hbk.symm
            · cases hbk
          subst hcc
          obtain ⟨v', hv', r⟩ := hcell (a.off + i) v this
          exact ⟨v', by rw [show i + a'.off = a.off + i + p.shift by omega]; exact hv', r⟩
    have hput := hkill.put (w' := w.setRow p.real (c'.toList.take (a'.off + len * es) ++ new' ++ c'.toList.drop (a'.off + len * es + new'.length)).toArray) id ⟨p.real, a'.off, some (es, (len + n) * es, c'.size)⟩ (.cells (old ++ new) e) hid hidlo (n := max H.next (id + 1))
      (by omega) (by show H.next ≤ _; omega)
      (fun q hq => by rw [hρid] at hq; cases hq) hbase
      (fun j q hj hl hq => by
        have hja : j ≠ a.block := fun e => by
          subst e
          obtain ⟨b, hb, hx⟩ := hl
          rw [Hp.get_same H _ h39] at hb
          cases hb; exact hx
        have hlj : Live H j := by
          obtain ⟨b, hb, hx⟩ := hl
          exact ⟨b, by rw [← Hp.get_other H .dead hja]; exact hb, hx⟩
        by_cases hjl : j < H.lo
        · have := hR.old j q hlj hjl hq
          show q.real ≠ p.real
          omega
        · exact hR.inj j a.block q p hja (by omega) hlo hlj hlive hq hp)
      rfl rfl rfl (by simp) (fun r _ hr => setRow_other _ _ _ _ hr)
      (fun c2 E2 fz2 h2 => by rw [setRow_heap w p.real c' _ e (0, 0) hb] at h2; cases h2; rfl)
      ⟨_, _, (0, 0), upd_same _ _ _, setRow_heap w p.real c' _ e (0, 0) hb, fun i v hi => by
        have hext : Ext ρ (upd ρ id ⟨p.real, a'.off, some (es, (len + n) * es, c'.size)⟩) := upd_ext fun q hq => by rw [hρid] at hq; cases hq
        have hget : ∀ j, (c'.toList.take (a'.off + len * es) ++ new' ++ c'.toList.drop (a'.off + len * es + new'.length)).toArray[j]? = if j < a'.off + len * es then c'[j]? else if j < a'.off + len * es + new'.length then new'[j - (a'.off + len * es)]? else c'[j]? := fun j => by
          have := over_get (c := c'.toList) (vs := new') (off := a'.off + len * es) (by simpa using hend) j
          simpa [over, List.append_assoc] using this
        show ∃ v', (c'.toList.take (a'.off + len * es) ++ new' ++ c'.toList.drop (a'.off + len * es + new'.length)).toArray[i + a'.off]? = some v' ∧ _
        rw [hget]
        rw [List.getElem?_append] at hi
        by_cases h1 : i < old.length
        · rw [if_pos h1] at hi
          rw [if_pos (by omega)]
          obtain ⟨v', hv', r⟩ := holdget i v hi
          exact ⟨v', hv', r.ext hext⟩
        · rw [if_neg h1] at hi
          rw [if_neg (by omega)]
          have hilt : i - old.length < new.length := (List.getElem?_eq_some_iff.1 hi).1
          rw [if_pos (by omega), show i + a'.off - (a'.off + len * es) = i - old.length by omega]
          obtain ⟨v', hv', r⟩ := hnew.get _ _ hi
          exact ⟨v', hv', r.ext hext⟩, fun es2 N2 M2 ht => by
        cases ht
        have l2 : (c'.toList.take (a'.off + len * es) ++ new' ++ c'.toList.drop (a'.off + len * es + new'.length)).toArray.size = c'.size := by
          simp only [List.size_toArray, List.length_append, List.length_take, List.length_drop, Array.length_toList]; omega
        exact ⟨by rw [List.length_append, hol, hnl, Nat.add_mul], by rw [l2], hes0, hsz⟩⟩
    refine ⟨_, _, hrun, ?_, (upd_ext fun q hq => by rw [hρid] at hq; cases hq), hput, ?_⟩
    · refine .sl (a' := a') ⟨rfl, s', _, upd_same _ _ _, e1, by show a'.off = 0 + a'.off; omega⟩ (.inr ⟨_, es, (len + n) * es, c'.size, upd_same _ _ _, rfl, by show 0 + _ = _; omega, by omega, hfit⟩)
    · exact ⟨rfl, by show H.next ≤ max H.next (id + 1); omega, fun j hj => by
        show ((H.set a.block .dead).set id _).get j = _
        rw [Hp.get_other _ _ (by omega), Hp.get_other _ _ (by omega)], fun j c x hc hx => by
        obtain ⟨b0, hb0, hx0⟩ := set_stat hid (fun x h => by cases h) j c x hc hx
        exact set_stat h39 (fun x h => by cases h) j b0 x hb0 hx0⟩

theorem append_ok (hR : Rel P w0 ρ H w) {id : Nat} {o : Oper} {c : Call} (ho : o.op = .call c) (hcb : c.callee = .builtin .append) {t : TypeId} {s x : Operand} (h0 : c.argTypes[0]? = some t) (ha0 : c.args[0]? = some s) (ha1 : c.args[1]? = some x)
    (hE : Evs ρ ev ev' o) {v : Value} {H' : Hp} (h : wrAppend P H id t c.argTypes[1]? (ev s) (ev x) = some (v, H')) : Did P w0 ρ H w (execOp ev' o) v H' := by
  have mem : ∀ (i : Nat) (y : Operand), c.args[i]? = some y → y ∈ o.op.operands.toList := fun i y hy => by
    rw [ho]
    have : y ∈ c.args.toList := List.mem_of_getElem? (by simpa using hy)
    simp [Op.operands, Call.operands, hcb]
    simpa using this
  have hs : VR ρ (ev s) (ev' s) := hE s (mem 0 s ha0)
  have hx : VR ρ (ev x) (ev' x) := hE x (mem 1 x ha1)
  have a0 : (c.args.map ev')[0]? = some (ev' s) := by simp [ha0]
  have a1 : (c.args.map ev')[1]? = some (ev' x) := by simp [ha1]
  have fin : ∀ {r w1}, (Builtin.append_ c.argTypes o.type (c.args.map ev')).run P w = .ok r w1 → (execOp ev' o).run P w = .ok (.value r) w1 := fun hr => by
    simp [execOp, ho, resolve, hcb, invoke, builtin, hr]
  unfold wrAppend at h
  split at h
  case h_2 => cases h
  rename_i e hu
  split at h
  case h_2 => cases h
  rename_i i z hk hi hz
  have hk : kindOk P c.argTypes[1]? = true := hk
  split at h
  case isTrue => cases h
  rename_i hcond
  have hsz0 : i.size ≠ 0 := fun e => hcond (.inl e)
  have hb0 : i.bytes ≠ 0 := fun e => hcond (.inr (.inl e))
  have hzs : z.cells.size = i.size := Decidable.byContradiction fun e => hcond (.inr (.inr e))
  have hsz : size? P e = some i.size := by simp [size?, hi]
  split at h
  case h_2 => cases h
  rename_i n new hsrc
  obtain ⟨new', hnew, hnl, hlen, hread⟩ := source_ok hR hx hsrc
  unfold appendTo at h
  split at h
  · -- nil
    rename_i hvs
    rw [hvs] at hs
    have es := hs.sl0_inv
    split at h
    · rename_i hn0
      simp only [Option.some.injEq, Prod.mk.injEq] at h
      obtain ⟨rfl, rfl⟩ := h
      subst hn0
      refine ⟨.value (.slice none 0 0), .slice none 0 0, w, ρ, fin ?_, .inl rfl, .sl0 0 0, Ext.refl _, hR, Keeps.refl _⟩
      exact append_fits (n := 0) h0 rfl a0 a1 hu hi hk es (by omega) (hlen w) (hread w (near_refl _ _ _ _)) rfl
    · split at h
      case isTrue => cases h
      rename_i hn0 hle
      obtain ⟨cc, hcc, hrun⟩ := append_grows (old := #[]) h0 rfl a0 a1 hu hi hk es (by omega) hb0 (by rw [Nat.zero_add]; omega) (hlen w) (by rw [es]; rfl) (hread _ (near_drew _ _ _ _)) hz
      rw [Nat.zero_add] at hrun hcc
      obtain ⟨ρ', v', hv, he, rfl, hR', hkp⟩ := grown_ok hR (c := cc) hnew hnl hsz (by omega) hcc hzs h
      refine ⟨.value _, _, _, ρ', fin hrun, .inl rfl, hv, he, ?_, hkp⟩
      simpa using hR'
  · rename_i a len cap hvs
    rw [hvs] at hs
    obtain ⟨a', cap', es, hcase⟩ := hs.sl_inv
    have hcap : cap ≤ cap' := by
      rcases hcase with ⟨_, hck⟩ | ⟨_, rfl, rfl⟩
      · rcases hck with rfl | ⟨p, es, N, M, _, _, _, _, hle⟩
        · exact Nat.le_refl _
        · exact hle
      · exact Nat.le_refl _
    split at h
    · rename_i hn0
      split at h
      case isFalse => cases h
      rename_i hlc
      simp only [Option.some.injEq, Prod.mk.injEq] at h
      obtain ⟨rfl, rfl⟩ := h
      subst hn0
      have hn' : new' = [] := by have := hnew.length; rw [hnl] at this; simp at this; exact this
      subst hn'
      refine ⟨.value (.slice (some a') len cap'), .slice (some a') len cap', w, ρ, fin ?_, .inl rfl, by rw [es] at hs; exact hs, Ext.refl _, hR, Keeps.refl _⟩
      exact append_fits (n := 0) (base := some a') h0 rfl a0 a1 hu hi hk es (by omega) (hlen w) (hread w (near_refl _ _ _ _)) rfl
    rename_i hn0
    split at h
    · -- it fits
      rename_i hfit
      split at h
      case isFalse => cases h
      rename_i hone
      split at h
      case h_2 => cases h
      rename_i H1 hw
      simp only [Option.some.injEq, Prod.mk.injEq] at h
      obtain ⟨rfl, rfl⟩ := h
      rcases hcase with ⟨har, hck⟩ | ⟨rfl, rfl, rfl⟩
      · obtain ⟨w', hst, hR', hkp⟩ := writeN_ok hR (har.add (len * i.size)) hnew hw
        refine ⟨.value (.slice (some a') (len + n) cap'), _, w', ρ, fin ?_, .inl rfl, .sl har hck, Ext.refl _, hR', hkp⟩
        exact append_fits (base := some a') h0 rfl a0 a1 hu hi hk es (by omega) (hlen w) (hread w (near_refl _ _ _ _)) hst
      · omega
    rename_i hfit
    split at h
    case isTrue => cases h
    rename_i hle
    split at h
    case isTrue => cases h
    rename_i hspot
    split at h
    case h_2 => cases h
    rename_i cs E old hg hold
    split at h
    case isFalse => cases h
    rename_i hEe
    subst hEe
    -- the old cells, read from anywhere near
    have hreadold : ∃ old', VRs ρ old old' ∧ old.length = len * i.size ∧ (Builtin.firstCells i.size len (ev' s)).run P w.drew = .ok ⟨old'⟩ w.drew := by
      rcases hcase with ⟨har, _⟩ | ⟨rfl, rfl, rfl⟩
      · obtain ⟨l', rs, hl, run⟩ := readN_ok hR har hold
        exact ⟨l', rs, by rw [← rs.length, hl], by rw [es]; simp [Builtin.firstCells, run _ (near_drew _ _ _ _)]⟩
      · rw [Nat.zero_mul] at hold
        simp [readN] at hold
        subst hold
        exact ⟨[], .nil, by simp, by rw [es]; simp [Builtin.firstCells, loadCells, loadCellsFrom]⟩
    obtain ⟨old', hvo, holen, hor⟩ := hreadold
    have hlists : (old ++ new).length = (len + n) * i.size := by rw [List.length_append, holen, hnl, Nat.add_mul]
    -- in new memory
    have far : ∀ {G : Hp}, Rel P w0 ρ G w → Keeps H G → ∀ {v : Value} {H' : Hp}, newRowA G id (old ++ new) E (len + n) = some (v, H') → ¬ len + n ≤ cap' → Did P w0 ρ H w (execOp ev' o) v H' := fun {G} hG hkG {v H'} hrow hbig => by
      obtain ⟨cc, hcc, hrun⟩ := append_grows (base := some a') h0 rfl a0 a1 hu hi hk es hbig hb0 (by omega) (hlen w) hor (hread _ (near_drew _ _ _ _)) hz
      obtain ⟨ρ', v', hv, he, rfl, hR', hkp⟩ := grown_ok hG (c := cc) (hvo.append hnew) hlists hsz (by omega) hcc hzs hrow
      refine ⟨.value _, _, _, ρ', fin hrun, .inl rfl, hv, he, ?_, hkG.trans hkp⟩
      simpa using hR'
    split at h
    · -- the capacity is known
      rename_i hexact
      have : cap' = cap := by
        rcases hcase with ⟨_, hck⟩ | ⟨_, rfl, rfl⟩
        · rcases hck with h1 | ⟨p, es2, N, M, hp, htl, hN, _, _⟩
          · exact h1
          · obtain ⟨q, c', fz, hq, _, _, htl'⟩ := hR.blk a.block _ hg
            rw [hp] at hq; cases hq
            obtain ⟨hN', _, _, hes⟩ := htl' es2 N M htl
            have : es2 = i.size := by unfold size? at hsz; rw [hsz] at hes; simpa using hes.symm
            subst this
            omega
        · rfl
      subst this
      exact far hR (Keeps.refl _) h hfit
    · split at h
      case isFalse => cases h
      rename_i hc
      obtain ⟨hlo, h39, hne, hone⟩ := hc
      by_cases hbig : len + n ≤ cap'
      · rcases hcase with ⟨har, hck⟩ | ⟨rfl, rfl, rfl⟩
        · rcases hck with h1 | ⟨p, es2, N, M, hp, htl, hN, hM, _⟩
          · omega
          · obtain ⟨q, c', fz, hq, _, _, htl'⟩ := hR.blk a.block _ hg
            rw [hp] at hq; cases hq
            obtain ⟨hN', _, _, hes⟩ := htl' es2 N M htl
            have : es2 = i.size := by unfold size? at hsz; rw [hsz] at hes; simpa using hes.symm
            obtain ⟨ρ', w', hst, hv, he, hR', hkp⟩ := room_ok hR har hp htl hM hg this hlo h39 hne hold hnew hnl hone hbig (by omega) hsz h
            refine ⟨.value (.slice (some a') (len + n) cap'), _, w', ρ', fin ?_, .inl rfl, hv, he, hR', hkp⟩
            exact append_fits (base := some a') h0 rfl a0 a1 hu hi hk es hbig (hlen w) (hread w (near_refl _ _ _ _)) hst
        · omega
      · exact far (hR.kill a.block h39 hg) (kill_keeps hlo h39 (fun x h => by cases h)) h hbig
  · cases h

theorem wrOp_ok (hR : Rel P w0 ρ H w) {id : Nat} {o : Oper} (hE : Evs ρ ev ev' o) {v : Value} {H' : Hp} (h : wrOp P H id ev o = some (v, H')) : Did P w0 ρ H w (execOp ev' o) v H' := by
  unfold wrOp at h
  split at h
  · rename_i ho; exact alloc_ok hR ho h
  · rename_i ho; exact box_ok hR ho hE h
  · rename_i ho; exact buildSlice_ok hR ho hE h
  · rename_i ho; exact store_ok hR ho hE h
  · rename_i ho; exact makeMap_ok hR ho h
  · rename_i t m k x ho
    exact mapUpdate_ok hR (fun P w => by simp [execOp, ho]) (hE m (by rw [ho]; simp [Op.operands])) (hE k (by rw [ho]; simp [Op.operands])) (hE x (by rw [ho]; simp [Op.operands])) h
  · rename_i ho; exact makeSlice_ok hR ho hE h
  · rename_i c ho
    unfold wrCall at h
    split at h
    case h_2 => cases h
    rename_i b hb
    split at h
    case h_2 => cases h
    split at h
    case h_2 => cases h
    rename_i t s x h0 h1 h2
    exact append_ok hR ho hb h0 h1 h2 hE h
  · cases h
end
end Go.Ab
