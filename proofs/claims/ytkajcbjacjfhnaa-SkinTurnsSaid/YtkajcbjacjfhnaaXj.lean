/- An operation that makes or writes memory (1). -/
import Derived.Test.YtkajcbjacjfhnaaXi
import Derived.Laws.CopyRow
namespace Go.Ab
open Go Go.RowKit
section
variable {P : Program} {ρ : Ren} {ev ev' : Operand → Value} {w0 w : World} {H : Hp}

/-- what a term does, and what is reckoned of it -/
def Did (P : Program) (w0 : World) (ρ : Ren) (H : Hp) (w : World) (s : Sem Next) (v : Value) (H' : Hp) : Prop :=
  ∃ nx v' w' ρ', s.run P w = .ok nx w' ∧ (nx = .value v' ∨ nx = .skip ∧ v' = undef) ∧ VR ρ' v v' ∧ Ext ρ ρ' ∧ Rel P w0 ρ' H' w' ∧ Keeps H H'

theorem anew_spec {id : Nat} {b : Blk} {H' : Hp} (h : anew H id b = some H') : H.get id = none ∧ id < 2 ^ 39 ∧ H.lo ≤ id ∧ H' = { H.set id b with next := max H.next (id + 1) } := by
  unfold anew at h
  split at h
  case h_2 => cases h
  rename_i hg
  split at h
  case h_2 => cases h
  rename_i hc
  simp only [Bool.and_eq_true] at hc
  have e : nextA H.next id = max H.next (id + 1) := by
    unfold nextA
    by_cases hlt : id < H.next
    · rw [Nat.blt_eq.mpr hlt]; show H.next = _; rw [Nat.max_eq_left hlt]
    · have : Nat.blt id H.next = false := by cases hb : Nat.blt id H.next with | false => rfl | true => exact absurd (Nat.blt_eq.mp hb) hlt
      rw [this]; show id + 1 = _; rw [Nat.max_eq_right (by omega)]
  rw [e] at h
  cases h
  exact ⟨hg, Nat.blt_eq.mp hc.1, Nat.ble_eq.mp hc.2, rfl⟩

theorem new_ok (hR : Rel P w0 ρ H w) {id : Nat} {l : List Value} {e : TypeId} {H' : Hp} (h : anew H id (.cells l e) = some H') (c' : Array Value) (tl : Option (Nat × Nat × Nat))
    (hc : ∀ (i : Nat) (v : Value), l[i]? = some v → ∃ v', c'[i]? = some v' ∧ VR ρ v v')
    (ht : ∀ es N M, tl = some (es, N, M) → N = l.length ∧ M = c'.size ∧ 0 < es ∧ (P.info? e).map (·.size) = some es) :
    ∃ ρ', Ext ρ ρ' ∧ ρ' id = some ⟨w.heap.size, 0, tl⟩ ∧ Rel P w0 ρ' H' (w.alloc (.cells c' e)) ∧ Keeps H H' := by
  obtain ⟨hg, hid, hlo, rfl⟩ := anew_spec h
  have he : Ext ρ (upd ρ id ⟨w.heap.size, 0, tl⟩) := upd_ext fun q hq => by rw [hR.fresh id hg] at hq; cases hq
  obtain ⟨h1, h2⟩ := hR.new id tl (.cells l e) (.cells c' e) hid hlo (n := max H.next (id + 1)) (by omega) (by omega) hg (fun c E fz hx => by cases hx; rfl)
    ⟨⟨w.heap.size, 0, tl⟩, c', (0, 0), upd_same _ _ _, by show (w.heap.push _)[w.heap.size]? = _; simp, fun i v hi => by obtain ⟨v', a, b⟩ := hc i v hi; exact ⟨v', by simpa using a, b.ext he⟩, ht⟩
  exact ⟨_, h2, upd_same _ _ _, h1, put_keeps hlo (by omega)⟩

theorem new_ptr {id : Nat} {tl : Option (Nat × Nat × Nat)} {ρ' : Ren} (h : ρ' id = some ⟨w.heap.size, 0, tl⟩) : AR ρ' ⟨id, 0, none⟩ ⟨w.heap.size, 0, none⟩ :=
  ⟨rfl, rfl, _, h, rfl, rfl⟩

theorem newCells_ok (hR : Rel P w0 ρ H w) {id : Nat} {l l' : List Value} (hl : VRs ρ l l') {e : TypeId} {v : Value} {H' : Hp} (h : newCells H id l e = some (v, H')) (s : Sem Value)
    (hs : s.run P w = .ok (.pointer (some ⟨w.heap.size, 0, none⟩)) (w.alloc (.cells ⟨l'⟩ e))) : Did P w0 ρ H w (do pure (.value (← s))) v H' := by
  unfold newCells at h
  cases ha : anew H id (.cells l e) with
  | none => simp [ha] at h
  | some H1 =>
    simp only [ha, Option.some.injEq, Prod.mk.injEq] at h
    obtain ⟨rfl, rfl⟩ := h
    obtain ⟨ρ', he, hp, hR', hk⟩ := new_ok hR ha ⟨l'⟩ none (fun i v hi => by obtain ⟨v', a, b⟩ := hl.get i v hi; exact ⟨v', by simpa using a, b⟩) (fun _ _ _ hx => by cases hx)
    exact ⟨.value (.pointer (some ⟨w.heap.size, 0, none⟩)), _, _, ρ', by simp [hs], .inl rfl, .ptr (new_ptr hp), he, hR', hk⟩

theorem newRow_ok (hR : Rel P w0 ρ H w) {id : Nat} {l l' : List Value} (hl : VRs ρ l l') {e : TypeId} {n : Nat} {v : Value} {H' : Hp} (h : newRowA H id l e n = some (v, H')) (s : Sem Value)
    (hs : s.run P w = .ok (.slice (some ⟨w.heap.size, 0, none⟩) n n) (w.alloc (.cells ⟨l'⟩ e))) : Did P w0 ρ H w (do pure (.value (← s))) v H' := by
  unfold newRowA at h
  cases ha : anew H id (.cells l e) with
  | none => simp [ha] at h
  | some H1 =>
    simp only [ha, Option.some.injEq, Prod.mk.injEq] at h
    obtain ⟨rfl, rfl⟩ := h
    obtain ⟨ρ', he, hp, hR', hk⟩ := new_ok hR ha ⟨l'⟩ none (fun i v hi => by obtain ⟨v', a, b⟩ := hl.get i v hi; exact ⟨v', by simpa using a, b⟩) (fun _ _ _ hx => by cases hx)
    exact ⟨.value (.slice (some ⟨w.heap.size, 0, none⟩) n n), _, _, ρ', by simp [hs], .inl rfl, .sl (new_ptr hp) (.inl rfl), he, hR', hk⟩

theorem alloc_eta (l : List Value) : (⟨l⟩ : Array Value) = l.toArray := rfl

theorem alloc_ok (hR : Rel P w0 ρ H w) {id : Nat} {o : Oper} {e : TypeId} (ho : o.op = .alloc e) {v : Value} {H' : Hp} (h : wrAlloc P H id e = some (v, H')) : Did P w0 ρ H w (execOp ev' o) v H' := by
  unfold wrAlloc at h
  cases hz : zero? P e with
  | none => simp [hz] at h
  | some z =>
    simp only [hz] at h
    have hzz : VRs ρ z.cells.toList z.cells.toList := (plain_refl 3 z (zero_run hz w).2).cells
    have := newCells_ok hR hzz h (Instr.alloc e true (.tuple #[])) (by simp [Instr.alloc, (zero_run hz w).1, newVar, newRow])
    unfold execOp
    rw [ho]
    exact this

theorem box_ok (hR : Rel P w0 ρ H w) {id : Nat} {o : Oper} {e : TypeId} {x : Operand} (ho : o.op = .box e x) (hE : Evs ρ ev ev' o) {v : Value} {H' : Hp} (h : newCells H id (ev x).cells.toList e = some (v, H')) : Did P w0 ρ H w (execOp ev' o) v H' := by
  have hx : VR ρ (ev x) (ev' x) := hE x (by rw [ho]; simp [Op.operands])
  have := newCells_ok hR hx.cells h (Instr.box e (ev' x)) (by simp [Instr.box, newVar, newRow])
  unfold execOp
  rw [ho]
  exact this

theorem zeros_ok {z : Value} (hz : plain 3 z = true) (n m : Nat) : VRs ρ (zerosOf n z m).toList (zerosOf n z m).toList := by
  have hzz : VRs ρ z.cells.toList z.cells.toList := (plain_refl 3 z hz).cells
  have one : ∀ i : Nat, VR ρ ((if n = 0 then #[] else z.cells)[i]! : Value) ((if n = 0 then #[] else z.cells)[i]! : Value) := fun i => by
    rw [Array.getElem!_eq_getD, Array.getD_eq_getD_getElem?]
    cases hv : (if n = 0 then #[] else z.cells)[i]? with
    | none => exact .bool false
    | some v =>
      split at hv
      · simp at hv
      · obtain ⟨v', e, r⟩ := hzz.toArray_get i v hv
        rw [hv] at e; cases e; exact r
  refine VRs.of_get rfl fun i v v' e e' => ?_
  rw [e] at e'; cases e'
  unfold zerosOf at e
  simp at e
  obtain ⟨j, hj, rfl⟩ := e
  exact one _

theorem buildSlice_ok (hR : Rel P w0 ρ H w) {id : Nat} {o : Oper} {t : TypeId} {len : Nat} {parts : Array (Nat × Operand)} (ho : o.op = .buildSlice t len parts) (hE : Evs ρ ev ev' o) {v : Value} {H' : Hp}
    (h : wrBuildSlice P H id ev t len parts = some (v, H')) : Did P w0 ρ H w (execOp ev' o) v H' := by
  have hl : ∀ ix ∈ parts.toList, VR ρ (ev ix.2) (ev' ix.2) := fun ix hix => hE ix.2 (by rw [ho]; simp only [Op.operands]; simpa using ⟨ix.1, by simpa using hix⟩)
  unfold wrBuildSlice at h
  split at h
  case h_2 => cases h
  rename_i e hu
  split at h
  case h_2 => cases h
  rename_i n z hn hz
  split at h
  case isTrue => cases h
  rename_i hsz
  split at h
  case h_2 => cases h
  rename_i cells hf
  obtain ⟨zr, zp⟩ := zero_run hz w
  obtain ⟨cells', hf', hcs⟩ := fill_ok _ parts.toList _ _ cells hl (zeros_ok zp _ _) hf
  have := newRow_ok hR (l' := cells'.toList) hcs h (Instr.buildSlice t len (parts.map fun (i, x) => (i, ev' x))) (by
    unfold Instr.buildSlice
    simp only [Sem.run_bind, und_run hu w, Result.andThen_ok, size_run hn w, if_neg hsz, array_pairs]
    unfold zerosOf at hf'
    by_cases h0 : len * n = 0
    · simp only [h0, if_true] at hf' ⊢
      simp only [Sem.run_bind, Sem.run_pure, Result.andThen_ok]
      rw [hf']
      simp [newRow]
    · simp only [h0, if_false] at hf' ⊢
      simp only [Sem.run_bind, Sem.run_pure, Result.andThen_ok, zr]
      rw [hf']
      simp [newRow])
  unfold execOp
  rw [ho]
  exact this

/-! ### stores -/

theorem upd_self {ρ : Ren} {k : Nat} {p : Place} (h : ρ k = some p) : upd ρ k p = ρ := by
  funext j
  by_cases e : j = k
  · rw [e, upd_same, h]
  · rw [upd_other _ _ e]

theorem over_get {c vs : List Value} {off : Nat} (h : off + vs.length ≤ c.length) (i : Nat) : (over c off vs)[i]? = if i < off then c[i]? else if i < off + vs.length then vs[i - off]? else c[i]? := by
  unfold over
  rw [List.getElem?_append]
  simp only [List.length_take, Nat.min_eq_left (by omega : off ≤ c.length)]
  by_cases h1 : i < off
  · simp [h1]
  · simp only [h1, if_false]
    rw [List.getElem?_append]
    by_cases h2 : i < off + vs.length
    · rw [if_pos (by omega), if_pos h2]
    · rw [if_neg (by omega), if_neg h2, List.getElem?_drop]
      congr 1; omega

theorem one_oneCell {v v' : Value} (h : VR ρ v v') (ho : one v = true) : v'.oneCell' = true := by
  cases h <;> first | rfl | (simp [one] at ho)

theorem writeN_ok (hR : Rel P w0 ρ H w) {a a' : Addr} (har : AR ρ a a') {vs vs' : List Value} (hvs : VRs ρ vs vs') {H' : Hp} (h : writeN H a vs = some H') :
    ∃ w', (storeCells a' vs').run P w = .ok () w' ∧ Rel P w0 ρ H' w' ∧ Keeps H H' := by
  obtain ⟨s, s', p, hp, e1, e2⟩ := har
  unfold writeN at h
  split at h
  · cases h
    cases hvs
    exact ⟨w, rfl, hR, Keeps.refl H⟩
  · rename_i hne
    rw [s] at h
    simp only [] at h
    split at h
    case h_2 => cases h
    rename_i c E hg
    split at h
    case isFalse => cases h
    rename_i hc
    obtain ⟨hlo, hle, h39, hone⟩ := hc
    cases h
    obtain ⟨q, c', fz, hq, hb, hcell, htl⟩ := hR.blk a.block _ hg
    rw [hp] at hq; cases hq
    have hlive := live_of hg (by simp)
    obtain ⟨hbase, hsoft⟩ := hR.own a.block p hlive hlo hp
    have : fz = (0, 0) := hsoft c' E fz hb
    subst this
    have hlen : vs'.length = vs.length := hvs.length
    have hsize : a'.off + vs'.length ≤ c'.size := by
      rw [hlen]
      rcases Nat.eq_zero_or_pos vs.length with h0 | h0
      · have : vs = [] := List.length_eq_zero_iff.1 h0
        exact absurd this hne
      · have hlt : a.off + vs.length - 1 < c.length := by omega
        obtain ⟨v', hv', _⟩ := hcell (a.off + vs.length - 1) _ (List.getElem?_eq_getElem hlt)
        have := (Array.getElem?_eq_some_iff.1 hv').1
        omega
    have ha' : a' = ⟨p.real, a'.off, none⟩ := by
      obtain ⟨b, o, sp⟩ := a'
      simp only at s' e1
      subst s' e1; rfl
    have hrun := run_storeCells_at (P := P) p.real a'.off E vs' 0 c' w hb (by omega) (fun v hv => by
      obtain ⟨i, hi⟩ := List.getElem?_of_mem hv
      have hlt : i < vs.length := by have := (List.getElem?_eq_some_iff.1 hi).1; omega
      obtain ⟨u, hu, r⟩ := hvs.get i _ (List.getElem?_eq_getElem hlt)
      rw [hi] at hu; cases hu
      exact one_oneCell r (List.all_eq_true.1 hone _ (List.getElem_mem hlt)))
    rw [← ha', Nat.add_zero] at hrun
    have hupd : upd ρ a.block p = ρ := upd_self hp
    have hput := hR.put (w' := w.setRow p.real (c'.toList.take a'.off ++ vs' ++ c'.toList.drop (a'.off + vs'.length)).toArray) a.block p (.cells (over c a.off vs) E) h39 hlo (n := H.next)
      (by rcases Nat.lt_or_ge a.block H.next with h' | h'
          · exact h'
          · rw [hR.top _ h'] at hg; cases hg) (Nat.le_refl _)
      (fun q hq => by rw [hp] at hq; cases hq; rfl) hbase
      (fun j q hj hl hq => by
        by_cases hjl : j < H.lo
        · have := hR.old j q hl hjl hq; omega
        · exact hR.inj j a.block q p hj (by omega) hlo hl hlive hq hp)
      rfl rfl rfl (by simp) (fun r _ hr => setRow_other _ _ _ _ hr)
      (fun c2 E2 fz2 h2 => by rw [setRow_heap w p.real c' _ E (0, 0) hb] at h2; cases h2; rfl)
      ⟨p, _, (0, 0), by rw [hupd]; exact hp, setRow_heap w p.real c' _ E (0, 0) hb, fun i v hi => by
        rw [hupd]
        rw [over_get hle] at hi
        have hget : ∀ j, (c'.toList.take a'.off ++ vs' ++ c'.toList.drop (a'.off + vs'.length)).toArray[j]? = if j < a'.off then c'[j]? else if j < a'.off + vs'.length then vs'[j - a'.off]? else c'[j]? := fun j => by
          have := over_get (c := c'.toList) (vs := vs') (off := a'.off) (by simpa using hsize) j
          simpa [over, List.append_assoc] using this
        rw [hget]
        by_cases h1 : i < a.off
        · rw [if_pos h1] at hi
          rw [if_pos (by omega)]
          exact hcell i v hi
        · rw [if_neg h1] at hi
          rw [if_neg (by omega)]
          by_cases h2 : i < a.off + vs.length
          · rw [if_pos h2] at hi
            rw [if_pos (by omega), show i + p.shift - a'.off = i - a.off by omega]
            exact hvs.get _ _ hi
          · rw [if_neg h2] at hi
            rw [if_neg (by omega)]
            exact hcell i v hi, fun es N M ht => by
        obtain ⟨hN, hM, h0, hes⟩ := htl es N M ht
        have l1 : (over c a.off vs).length = c.length := by simp [over]; omega
        have l2 : (c'.toList.take a'.off ++ vs' ++ c'.toList.drop (a'.off + vs'.length)).toArray.size = c'.size := by simp; omega
        exact ⟨by rw [l1]; exact hN, by rw [l2]; exact hM, h0, hes⟩⟩
    rw [hupd] at hput
    refine ⟨_, hrun, hput, ?_⟩
    exact kill_keeps hlo

theorem store_ok (hR : Rel P w0 ρ H w) {o : Oper} {t : TypeId} {x y : Operand} (ho : o.op = .store t x y) (hE : Evs ρ ev ev' o) {v : Value} {H' : Hp} (h : wrStore P H t (ev x) (ev y) = some (v, H')) : Did P w0 ρ H w (execOp ev' o) v H' := by
  have hx : VR ρ (ev x) (ev' x) := hE x (by rw [ho]; simp [Op.operands])
  have hy : VR ρ (ev y) (ev' y) := hE y (by rw [ho]; simp [Op.operands])
  unfold wrStore at h
  split at h
  case h_2 => cases h
  rename_i a hv
  rw [hv] at hx
  obtain ⟨a', ea, har⟩ := hx.ptr_inv
  cases hs : storeA P H t a (ev y) with
  | none => simp [hs] at h
  | some H1 =>
    simp only [hs, Option.some.injEq, Prod.mk.injEq] at h
    obtain ⟨rfl, rfl⟩ := h
    unfold storeA at hs
    cases hz : size? P t with
    | none => simp [hz] at hs
    | some n =>
      simp only [hz] at hs
      split at hs
      case isFalse => cases hs
      rename_i hn
      obtain ⟨w', hrun, hR', hk⟩ := writeN_ok hR har hy.cells hs
      refine ⟨.skip, undef, w', ρ, ?_, .inr ⟨rfl, rfl⟩, vr_undef _, Ext.refl _, hR', hk⟩
      simp [execOp, ho, Instr.storeAt, ea, Instr.sureAddr, storeVar, size_run hz w, hy.cells_size, hn, hrun]
end
end Go.Ab
