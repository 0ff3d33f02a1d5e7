/- An operation that makes or writes memory (2): maps, make. -/
import Derived.Test.YtkajcbjacjfhnaaXj
namespace Go.Ab
open Go Go.RowKit
section
variable {P : Program} {ρ : Ren} {ev ev' : Operand → Value} {w0 w : World} {H : Hp}

theorem makeMap_ok (hR : Rel P w0 ρ H w) {id : Nat} {o : Oper} {t : TypeId} (ho : o.op = .makeMap t none) {v : Value} {H' : Hp} (h : wrMakeMap H id = some (v, H')) : Did P w0 ρ H w (execOp ev' o) v H' := by
  unfold wrMakeMap at h
  cases ha : anew H id (.map [] 0) with
  | none => simp [ha] at h
  | some H1 =>
    simp only [ha, Option.some.injEq, Prod.mk.injEq] at h
    obtain ⟨rfl, rfl⟩ := h
    obtain ⟨hg, hid, hlo, rfl⟩ := anew_spec ha
    obtain ⟨h1, h2⟩ := hR.new id none (.map [] 0) (.map #[] 0) hid hlo (n := max H.next (id + 1)) (by omega) (by omega) hg (fun c E fz hx => by cases hx)
      ⟨⟨w.heap.size, 0, none⟩, #[], upd_same _ _ _, by show (w.heap.push _)[w.heap.size]? = _; simp, .nil⟩
    refine ⟨.value (.map (some w.heap.size)), .map (some w.heap.size), w.alloc (.map #[] 0), _, ?_, .inl rfl, ?_, h2, h1, put_keeps hlo (by omega)⟩
    · simp [execOp, ho, Instr.makeMap]
    · exact .map (p := ⟨w.heap.size, 0, none⟩) (upd_same _ _ _)

structure ER (ρ : Ren) (e e' : MapEntry) : Prop where
  key : VR ρ e.key e'.key
  val : VR ρ e.val e'.val
  born : e'.born = e.born

theorem Ents.get {es es' : List MapEntry} (h : Ents ρ es es') : ∀ (i : Nat) (e : MapEntry), es[i]? = some e → ∃ e', es'[i]? = some e' ∧ ER ρ e e' := by
  induction h with
  | nil => intro i e h; simp at h
  | cons a b _ ih =>
    intro i e h
    cases i with
    | zero => simp at h; subst h; exact ⟨_, rfl, ⟨a, b, rfl⟩⟩
    | succ i => simp at h; obtain ⟨e', h1, h2⟩ := ih i e h; exact ⟨e', by simpa using h1, h2⟩

theorem Ents.of_get : ∀ {es es' : List MapEntry}, es'.length = es.length → (∀ (i : Nat) (e e' : MapEntry), es[i]? = some e → es'[i]? = some e' → ER ρ e e') → Ents ρ es es'
  | [], [], _, _ => .nil
  | [], _ :: _, h, _ => by simp at h
  | _ :: _, [], h, _ => by simp at h
  | ⟨k, v, b⟩ :: l, ⟨k', v', b'⟩ :: l', h, hr => by
    obtain ⟨h1, h2, h3⟩ := hr 0 _ _ rfl rfl
    simp only at h1 h2 h3
    subst h3
    exact .cons h1 h2 (Ents.of_get (by simpa using h) fun i e e' x y => hr (i + 1) e e' (by simpa using x) (by simpa using y))

theorem Ents.append {a a' b b' : List MapEntry} (h : Ents ρ a a') (k : Ents ρ b b') : Ents ρ (a ++ b) (a' ++ b') := by
  induction h with
  | nil => exact k
  | cons x y _ ih => exact .cons x y ih

/-- a map's block is written anew -/
theorem setMap_ok (hR : Rel P w0 ρ H w) {r : Nat} {es : List MapEntry} {clock : Nat} (hg : H.get r = some (.map es clock)) (hlo : H.lo ≤ r) (h39 : r < 2 ^ 39) {p : Place} (hp : ρ r = some p)
    {es2 : List MapEntry} {es2' : Array MapEntry} (clock2 : Nat) (he : Ents ρ es2 es2'.toList) :
    ∃ w', (setObj p.real (.map es2' clock2)).run P w = .ok () w' ∧ Rel P w0 ρ (H.set r (.map es2 clock2)) w' ∧ Keeps H (H.set r (.map es2 clock2)) := by
  obtain ⟨q, es', hq, hb, _⟩ := hR.blk r _ hg
  rw [hp] at hq; cases hq
  have hlive := live_of hg (by simp)
  have hlt : p.real < w.heap.size := (Array.getElem?_eq_some_iff.1 hb).1
  obtain ⟨hbase, _⟩ := hR.own r p hlive hlo hp
  have hset : ({ w with heap := w.heap.setIfInBounds p.real (.map es2' clock2) } : World).heap[p.real]? = some (.map es2' clock2) := by
    show (w.heap.setIfInBounds p.real _)[p.real]? = _
    simp [hlt]
  have hput := hR.put (w' := { w with heap := w.heap.setIfInBounds p.real (.map es2' clock2) }) r p (.map es2 clock2) h39 hlo (n := H.next)
    (by rcases Nat.lt_or_ge r H.next with h' | h'
        · exact h'
        · rw [hR.top _ h'] at hg; cases hg) (Nat.le_refl _)
    (fun q hq => by rw [hp] at hq; cases hq; rfl) hbase
    (fun j q hj hl hq => by
      by_cases hjl : j < H.lo
      · have := hR.old j q hl hjl hq; omega
      · exact hR.inj j r q p hj (by omega) hlo hl hlive hq hp)
    rfl rfl rfl (by simp) (fun k _ hk => by show (w.heap.setIfInBounds p.real _)[k]? = _; rw [Array.getElem?_setIfInBounds_ne (Ne.symm hk)])
    (fun c2 E2 fz2 h2 => by rw [hset] at h2; cases h2)
    ⟨p, es2', by rw [upd_self hp]; exact hp, hset, by rw [upd_self hp]; exact he⟩
  rw [upd_self hp] at hput
  refine ⟨_, ?_, hput, kill_keeps hlo⟩
  simp [setObj, Sem.run, hb]

theorem mapUpdate_ok (hR : Rel P w0 ρ H w) {o : Oper} {t : TypeId} {m k x : Operand} (hrun : ∀ P w, (execOp ev' o).run P w = (do Instr.mapUpdate t (ev' m) (ev' k) (ev' x); pure .skip : Sem Next).run P w)
    (hm : VR ρ (ev m) (ev' m)) (hk : VR ρ (ev k) (ev' k)) (hx : VR ρ (ev x) (ev' x)) {v : Value} {H' : Hp}
    (h : wrMapUpdate P H t (ev m) (ev k) (ev x) = some (v, H')) : Did P w0 ρ H w (execOp ev' o) v H' := by
  unfold wrMapUpdate at h
  split at h
  case h_2 => cases h
  rename_i r hv
  rw [hv] at hm
  obtain ⟨p, em, hp⟩ := hm.map_inv
  split at h
  case h_2 => cases h
  rename_i key elem es clock hu hg
  split at h
  case h_2 => cases h
  rename_i hc
  simp only [Bool.and_eq_true, decide_eq_true_eq] at hc
  obtain ⟨⟨⟨hlo, h39⟩, hpk⟩, hke⟩ := hc
  split at h
  case h_2 => cases h
  rename_i at_ hck hfk
  have ek : ev' k = ev k := plain_eq 3 hpk hk
  obtain ⟨q, es', hq, hb, hes⟩ := hR.blk r _ hg
  rw [hp] at hq; cases hq
  obtain ⟨r', hr', fr⟩ := findKey_ok (ρ := ρ) (es' := es'.toList) hes hke hfk
  have h1 := pureRun_run _ hck w
  have h2 := pureRun_run _ hr' w
  have hgo : (getObj p.real).run P w = .ok (.map es' clock) w := by simp [getObj, Sem.run, hb]
  unfold putKey at h
  cases fr with
  | none =>
    simp only [Option.some.injEq, Prod.mk.injEq] at h
    obtain ⟨rfl, rfl⟩ := h
    have he : Ents ρ (es ++ [⟨ev k, ev x, clock⟩]) (es'.push ⟨ev' k, ev' x, clock⟩).toList := by
      rw [Array.toList_push]
      exact hes.append (.cons hk hx .nil)
    obtain ⟨w', hs, hR', hkp⟩ := setMap_ok hR hg hlo h39 hp (clock + 1) he
    refine ⟨.skip, undef, w', ρ, ?_, .inr ⟨rfl, rfl⟩, vr_undef _, Ext.refl _, hR', hkp⟩
    rw [hrun]
    rw [ek] at hs
    simp only [Instr.mapUpdate, Sem.run_bind, und_run hu w, Result.andThen_ok, em, ek, hgo, h1, h2, hs, Sem.run_pure]
  | some i hvv =>
    simp only [] at h
    split at h
    case h_2 => cases h
    rename_i e hei
    split at h
    case isFalse => cases h
    rename_i hsame
    simp only [Option.some.injEq, Prod.mk.injEq] at h
    obtain ⟨rfl, rfl⟩ := h
    obtain ⟨e', hei', her⟩ := hes.get i e hei
    have hpe : plain 3 e.key = true := by
      have := List.all_eq_true.1 hke e (List.mem_of_getElem? hei)
      exact this
    have eke : e'.key = e.key := plain_eq 3 hpe her.key
    have he : Ents ρ (es.set i { e with key := ev k, val := ev x }) (es'.modify i fun e => { e with key := ev' k, val := ev' x }).toList := by
      refine Ents.of_get ?_ fun j a a' ha ha' => ?_
      · have := hes.length
        simp at this ⊢
        exact this
      · have ha' : (es'.modify i fun e => { e with key := ev' k, val := ev' x })[j]? = some a' := by rw [← Array.getElem?_toList]; exact ha'
        rw [Array.getElem?_modify] at ha'
        rw [List.getElem?_set] at ha
        by_cases hij : i = j
        · subst hij
          have hil : i < es.length := (List.getElem?_eq_some_iff.1 hei).1
          have hei2 : es'[i]? = some e' := by simpa using hei'
          simp only [if_true, hil, hei2, Option.map_some, Option.some.injEq] at ha ha'
          subst ha ha'
          exact ⟨hk, hx, her.born⟩
        · simp only [hij, if_false] at ha ha'
          obtain ⟨a2, h2, h3⟩ := hes.get j a ha
          rw [show es'[j]? = some a2 by simpa using h2] at ha'
          cases ha'; exact h3
    obtain ⟨w', hs, hR', hkp⟩ := setMap_ok hR hg hlo h39 hp clock he
    refine ⟨.skip, undef, w', ρ, ?_, .inr ⟨rfl, rfl⟩, vr_undef _, Ext.refl _, hR', hkp⟩
    rw [hrun]
    rw [ek] at hs
    have hei2 : es'[i]? = some e' := by simpa using hei'
    simp only [Instr.mapUpdate, Sem.run_bind, und_run hu w, Result.andThen_ok, em, ek, hgo, h1, h2, hei2, Option.map_some, Option.getD_some, eke, Instr.keyThatStays, hsame, if_true, Sem.run_pure, hs]

theorem makeSlice_ok (hR : Rel P w0 ρ H w) {id : Nat} {o : Oper} {t : TypeId} {l m : Operand} (ho : o.op = .makeSlice t l m) (hE : Evs ρ ev ev' o) {v : Value} {H' : Hp}
    (h : wrMakeSlice P H id t (ev l) (ev m) = some (v, H')) : Did P w0 ρ H w (execOp ev' o) v H' := by
  have hl : VR ρ (ev l) (ev' l) := hE l (by rw [ho]; simp [Op.operands])
  have hm : VR ρ (ev m) (ev' m) := hE m (by rw [ho]; simp [Op.operands])
  unfold wrMakeSlice at h
  split at h
  case h_2 => cases h
  rename_i k1 x k2 y hvl hvm
  rw [hvl] at hl; rw [hvm] at hm
  split at h
  case h_2 => cases h
  rename_i e hu
  split at h
  case h_2 => cases h
  rename_i i z hi hz
  split at h
  case isFalse => cases h
  rename_i hc
  obtain ⟨c1, c2, c3, c4⟩ := hc
  split at h
  case h_2 => cases h
  rename_i H1 ha
  simp only [Option.some.injEq, Prod.mk.injEq] at h
  obtain ⟨rfl, rfl⟩ := h
  obtain ⟨zr, zp⟩ := zero_run hz w
  obtain ⟨ρ', he, hp, hR', hk⟩ := new_ok hR ha (zerosOf (y.toNat * i.size) z (y.toNat * i.size)) none (fun j v hj => by
      obtain ⟨v', a, b⟩ := (zeros_ok (ρ := ρ) zp (y.toNat * i.size) (y.toNat * i.size)).get j v hj
      exact ⟨v', by simpa using a, b⟩) (fun _ _ _ hx => by cases hx)
  have wx : IntKind.i64.wrap x = x := by simp [IntKind.wrap, IntKind.bits, IntKind.signed]; omega
  have wy : IntKind.i64.wrap y = y := by simp [IntKind.wrap, IntKind.bits, IntKind.signed]; omega
  have hb : ¬ ((i.bytes : Int) * y > 2 ^ 48) := by
    have : ((i.bytes * y.toNat : Nat) : Int) ≤ 2 ^ 48 := by exact_mod_cast c4
    rw [Int.natCast_mul, Int.toNat_of_nonneg (by omega)] at this
    omega
  refine ⟨.value (.slice (some ⟨w.heap.size, 0, none⟩) x.toNat y.toNat), _, w.alloc (.cells (zerosOf (y.toNat * i.size) z (y.toNat * i.size)) e), ρ', ?_, .inl rfl, .sl (new_ptr hp) (.inl rfl), he, hR', hk⟩
  have hsz : size? P e = some i.size := by simp [size?, hi]
  have hif : ¬ (decide (y < 0) || decide ((i.bytes : Int) * y > 2 ^ 48) || decide (x < 0) || decide (x > y)) = true := by
    simp only [Bool.or_eq_true, decide_eq_true_eq]; omega
  unfold execOp
  rw [ho]
  simp only [Sem.run_bind, Instr.makeSlice, und_run hu w, Result.andThen_ok, hl.int_inv, hm.int_inv, asInt, asIntOf, Sem.run_pure, typeInfo, run_program, hi, wx, wy]
  rw [if_neg (by simpa using hif)]
  by_cases h0 : y.toNat * i.size = 0
  · simp [size_run hsz w, h0, newRow, zerosOf]
  · simp [size_run hsz w, h0, zr, newRow, zerosOf]
end
end Go.Ab
