/- Regions. -/
import Derived.Test.YtkajcbjacjfhnaaXm
namespace Go.Ab
open Go Go.RowKit
section
variable {P : Program} {ρ : Ren} {w0 w : World} {nt : Nat}

/-- what a frame and a world are, read abstractly -/
structure St (P : Program) (w0 : World) (nt : Nat) (ρ : Ren) (s : AS) (a : Act) (w : World) : Prop where
  rel : Rel P w0 ρ s.h w
  tm : TmR ρ nt s.t a.tmps
  defers : a.defers = []

theorem TmR.put {t : Tm} {a : Act} (h : TmR ρ nt t a.tmps) {dst : Option Tmp} {v v' : Value} (hv : VR ρ v v') (hd : ∀ d, dst = some d → d < nt ∧ d < 2 ^ 15) : TmR ρ nt (aput t dst v) (a.put dst v').tmps := by
  cases dst with
  | none => exact h
  | some d =>
    obtain ⟨h1, h2⟩ := hd d rfl
    refine ⟨by simp [Act.put]; exact h.1, fun i hi => ?_⟩
    show VR ρ (getT (Tre.set 16 t d v) i) ((a.tmps.setIfInBounds d v').getD i undef)
    have hsz : d < a.tmps.size := by rw [← h.1]; exact h1
    by_cases e : i = d
    · subst e
      have : getT (Tre.set 16 t i v) i = v := by
        unfold getT
        simp only [Tre.get_set_same 15 t i v h2]
      rw [this]
      simpa [hsz] using hv
    · have : getT (Tre.set 16 t d v) i = getT t i := by
        unfold getT
        simp only [Tre.get_set_other 16 t d i v e]
      rw [this]
      have := h.2 i hi
      simpa [Array.getElem?_setIfInBounds_ne (Ne.symm e)] using this

theorem put_defers (a : Act) (dst : Option Tmp) (v : Value) : (a.put dst v).defers = a.defers := by cases dst <;> rfl

theorem yielded_ok {ops : Array Oper} {t : Tm} {a : Act} (h : TmR ρ nt t a.tmps) {o : Oper} (hg : ∀ j b, o.guard = some (j, b) → ∀ d, (ops[j]?).bind (·.dst) = some d → d < nt) :
    Region.wanted o (yielded ops a.tmps) = Region.wanted o (ayielded ops t) := by
  unfold Region.wanted
  cases hgd : o.guard with
  | none => rfl
  | some jb =>
    obtain ⟨j, b⟩ := jb
    simp only []
    congr 1
    unfold yielded ayielded
    cases hd : (ops[j]?).bind (·.dst) with
    | none => simp
    | some d =>
      have hlt := hg j b hgd d hd
      have hsz : d < a.tmps.size := by rw [← h.1]; exact hlt
      have hv := h.2 d hlt
      simp only [Option.bind_some]
      have e : a.tmps[d]? = some (a.tmps.getD d undef) := by simp [hsz]
      rw [e]
      revert hv
      generalize getT t d = x
      generalize a.tmps.getD d undef = y
      intro hv
      cases hv <;> rfl

theorem okOps_spec {n : Nat} {ops : Array Oper} (h : okOps n ops = true) {i : Nat} {o : Oper} (ho : ops[i]? = some o) :
    o.op.operands.toList.all (okOpd n) = true ∧ (∀ d, o.dst = some d → d < n ∧ d < 2 ^ 15) ∧ (∀ j b, o.guard = some (j, b) → ∀ d, (ops[j]?).bind (·.dst) = some d → d < n) := by
  have hm : o ∈ ops.toList := List.mem_of_getElem? (by simpa using ho)
  have := List.all_eq_true.1 h o hm
  simp only [Bool.and_eq_true] at this
  obtain ⟨⟨h1, h2⟩, h3⟩ := this
  refine ⟨h1, fun d hd => ?_, fun j b hg d hd => ?_⟩
  · rw [hd] at h2; simpa using h2
  · rw [hg] at h3
    simp only [] at h3
    rw [hd] at h3
    simpa using h3

/-- a call, by its function and arguments -/
def CFok (P : Program) (cf : CF) : Prop := ∀ f args h v h', cf f args h = some (v, h') → ∀ w0 ρ w args', Rel P w0 ρ h w → VRs ρ args args' →
  Keeps h h' ∧ Calls P f ⟨args'⟩ w fun e w' => ∃ v' ρ', e = .returned v' ∧ VR ρ' v v' ∧ Ext ρ ρ' ∧ Rel P w0 ρ' h' w'

theorem wp_did {o : Oper} {a : Act} {v : Value} {H H' : Hp} {K : Act → World → Prop} {Q : Exit → Act → World → Prop} (h : Did P w0 ρ H w (execOp a.eval o) v H')
    (hK : ∀ v' w' ρ', VR ρ' v v' → Ext ρ ρ' → Rel P w0 ρ' H' w' → K (a.put o.dst v') w') : o.wp P a w K Q := by
  obtain ⟨nx, v', w', ρ', hr, hn, hv, he, hR, _⟩ := h
  unfold Oper.wp
  rw [hr]
  rcases hn with rfl | ⟨rfl, rfl⟩
  · exact hK v' w' ρ' hv he hR
  · exact hK undef w' ρ' hv he hR

theorem callee_ok {ev ev' : Operand → Value} {o : Oper} (hE : Evs ρ ev ev' o) {f : FuncId} {args : List Value} (h : callee? ev o = some (f, args)) (he : enters P f = true) :
    ∃ args', VRs ρ args args' ∧ ∀ w, (execOp ev' o).run P w = .ok (.enter f ⟨args'⟩) w := by
  unfold callee? at h
  split at h
  case h_2 => cases h
  rename_i c ho
  split at h
  case h_2 => cases h
  rename_i fv hc
  split at h
  case h_2 => cases h
  rename_i g first captured hv
  simp only [Option.some.injEq, Prod.mk.injEq] at h
  obtain ⟨rfl, rfl⟩ := h
  have hf : VR ρ (ev fv) (ev' fv) := hE fv (by rw [ho]; simp [Op.operands, Call.operands, hc])
  rw [hv] at hf
  obtain ⟨f', c', ef, h1, h2⟩ := hf.func_inv
  have hargs : ∀ x ∈ c.args.toList, VR ρ (ev x) (ev' x) := fun x hx => hE x (by rw [ho]; simp [Op.operands, Call.operands, hc]; exact .inr (by simpa using hx))
  refine ⟨f'.toList ++ c.args.toList.map ev' ++ c'.toList, (h1.append (VRs.map hargs)).append h2, fun w => ?_⟩
  unfold enters at he
  cases hfn : P.funcs[g]? with
  | none => simp [hfn] at he
  | some fn =>
    simp only [hfn, Bool.and_eq_true, bne_iff_ne, ne_eq] at he
    obtain ⟨hname, hbody⟩ := he
    have hnone : fn.body.isNone = false := by cases hb : fn.body <;> simp [hb] at hbody ⊢
    have hargs' : f' ++ c.args.map ev' ++ c' = ⟨f'.toList ++ c.args.toList.map ev' ++ c'.toList⟩ := by apply Array.ext'; simp
    simp only [execOp, ho, resolve, hc, ef, Deferred.ofValue, Sem.run_bind, Sem.run_pure, Result.andThen_ok, invoke, callFunc, run_program, hfn, beq_iff_eq, hname, if_false, hnone, Bool.false_eq_true, hargs']

theorem opA_ok {cf : CF} (hcf : CFok P cf) {lim id : Nat} {o : Oper} {s s' : AS} {a : Act} (hS : St P w0 nt ρ s a w) (hok : o.op.operands.toList.all (okOpd nt) = true) (hdst : ∀ d, o.dst = some d → d < nt ∧ d < 2 ^ 15)
    (h : opA P cf lim id o s = some s') {K : Act → World → Prop} {Q : Exit → Act → World → Prop} (hK : ∀ a' w' ρ', Ext ρ ρ' → St P w0 nt ρ' s' a' w' → K a' w') : o.wp P a w K Q := by
  have hE := evs_of hS.tm hok
  unfold opA at h
  split at h
  · rename_i v hv
    cases h
    obtain ⟨v', r, hrun⟩ := regOp_ok hS.rel hE hv
    unfold Oper.wp
    rw [hrun w]
    exact hK _ _ ρ (Ext.refl _) ⟨hS.rel, hS.tm.put r hdst, by rw [put_defers]; exact hS.defers⟩
  split at h
  · rename_i v hv
    cases h
    obtain ⟨v', r, hrun⟩ := rdOp_ok hS.rel hE hv
    unfold Oper.wp
    rw [hrun w (near_refl _ _ _ _)]
    exact hK _ _ ρ (Ext.refl _) ⟨hS.rel, hS.tm.put r hdst, by rw [put_defers]; exact hS.defers⟩
  split at h
  · rename_i v h1 hv
    cases h
    exact wp_did (wrOp_ok hS.rel hE hv) fun v' w' ρ' hv he hR => hK _ _ ρ' he ⟨hR, (hS.tm.ext he).put hv hdst, by rw [put_defers]; exact hS.defers⟩
  split at h
  case h_2 => cases h
  rename_i f args hc
  split at h
  case h_2 => cases h
  rename_i hen
  split at h
  case h_2 => cases h
  rename_i v h1 hv
  cases h
  obtain ⟨args', hargs, hrun⟩ := callee_ok hE hc hen
  unfold Oper.wp
  rw [hrun w]
  refine (hcf f args s.h v h1 hv w0 ρ w args' hS.rel hargs).2.mono ?_
  rintro e w' ⟨v', ρ', rfl, hv, he, hR⟩
  exact hK _ _ ρ' he ⟨hR, (hS.tm.ext he).put hv hdst, by rw [put_defers]; exact hS.defers⟩

/-- what can be reckoned can be run -/
theorem opA_some {cf : CF} (hcf : CFok P cf) {lim id : Nat} {o : Oper} {s s' : AS} {a : Act} (hS : St P w0 nt ρ s a w) (hok : o.op.operands.toList.all (okOpd nt) = true) (hdst : ∀ d, o.dst = some d → d < nt ∧ d < 2 ^ 15)
    (h : opA P cf lim id o s = some s') : Keeps s.h s'.h ∧ ∃ ρ' a' w', Ext ρ ρ' ∧ St P w0 nt ρ' s' a' w' := by
  have hE := evs_of hS.tm hok
  unfold opA at h
  split at h
  · rename_i v hv
    cases h
    obtain ⟨v', r, _⟩ := regOp_ok hS.rel hE hv
    exact ⟨Keeps.refl _, ρ, a.put o.dst v', w, Ext.refl _, hS.rel, hS.tm.put r hdst, by rw [put_defers]; exact hS.defers⟩
  split at h
  · rename_i v hv
    cases h
    obtain ⟨v', r, _⟩ := rdOp_ok hS.rel hE hv
    exact ⟨Keeps.refl _, ρ, a.put o.dst v', w, Ext.refl _, hS.rel, hS.tm.put r hdst, by rw [put_defers]; exact hS.defers⟩
  split at h
  · rename_i v h1 hv
    cases h
    obtain ⟨_, v', w', ρ', _, _, hvv, he, hR, hk⟩ := wrOp_ok hS.rel hE hv
    exact ⟨hk, ρ', a.put o.dst v', w', he, hR, (hS.tm.ext he).put hvv hdst, by rw [put_defers]; exact hS.defers⟩
  split at h
  case h_2 => cases h
  rename_i f args hc
  split at h
  case h_2 => cases h
  rename_i hen
  split at h
  case h_2 => cases h
  rename_i v h1 hv
  cases h
  obtain ⟨args', hargs, _⟩ := callee_ok hE hc hen
  obtain ⟨hk, hcall⟩ := hcf f args s.h v h1 hv w0 ρ w args' hS.rel hargs
  obtain ⟨e, w', fr, ⟨v', ρ', _, hvv, he, hR⟩, _⟩ := hcall []
  exact ⟨hk, ρ', a.put o.dst v', w', he, hR, (hS.tm.ext he).put hvv hdst, by rw [put_defers]; exact hS.defers⟩

theorem stepA_ok {cf : CF} (hcf : CFok P cf) {ops : Array Oper} {lim id i : Nat} {s s' : AS} {a : Act} (hS : St P w0 nt ρ s a w) (hok : okOps nt ops = true) (h : stepA P cf ops lim id i s = some s')
    {K : Act → World → Prop} {Q : Exit → Act → World → Prop} (hK : ∀ a' w' ρ', Ext ρ ρ' → St P w0 nt ρ' s' a' w' → K a' w') : wpOp P ops Q i K a w := by
  unfold stepA at h
  unfold wpOp
  cases ho : ops[i]? with
  | none => simp only [ho] at h ⊢; cases h; exact hK a w ρ (Ext.refl _) hS
  | some o =>
    simp only [ho] at h ⊢
    obtain ⟨h1, h2, h3⟩ := okOps_spec hok ho
    rw [yielded_ok hS.tm h3]
    split at h
    · rename_i hw
      rw [if_pos hw]
      exact .inl (opA_ok hcf hS h1 h2 h hK)
    · rename_i hw
      rw [if_neg hw]
      cases h
      exact hK _ _ ρ (Ext.refl _) ⟨hS.rel, hS.tm.put (vr_undef _) h2, by rw [put_defers]; exact hS.defers⟩

theorem stepA_some {cf : CF} (hcf : CFok P cf) {ops : Array Oper} {lim id i : Nat} {s s' : AS} {a : Act} (hS : St P w0 nt ρ s a w) (hok : okOps nt ops = true) (h : stepA P cf ops lim id i s = some s') :
    Keeps s.h s'.h ∧ ∃ ρ' a' w', Ext ρ ρ' ∧ St P w0 nt ρ' s' a' w' := by
  unfold stepA at h
  cases ho : ops[i]? with
  | none => simp only [ho] at h; cases h; exact ⟨Keeps.refl _, ρ, a, w, Ext.refl _, hS⟩
  | some o =>
    simp only [ho] at h
    obtain ⟨h1, h2, h3⟩ := okOps_spec hok ho
    split at h
    · exact opA_some hcf hS h1 h2 h
    · cases h
      exact ⟨Keeps.refl _, ρ, a.put o.dst undef, w, Ext.refl _, hS.rel, hS.tm.put (vr_undef _) h2, by rw [put_defers]; exact hS.defers⟩

theorem seqA_ok {cf : CF} (hcf : CFok P cf) {ops : Array Oper} {Q : Exit → Act → World → Prop} : ∀ (l : List Nat) (ρ : Ren) (s s' : AS) (a : Act) (w : World), St P w0 nt ρ s a w → okOps nt ops = true → seqA P cf ops l s = some s' →
    (∀ a' w' ρ', Ext ρ ρ' → St P w0 nt ρ' s' a' w' → Q .normal a' w') → wpOps P ops Q l a w
  | [], ρ, s, s', a, w, hS, _, h, hQ => by simp [seqA] at h; subst h; exact hQ a w ρ (Ext.refl _) hS
  | i :: l, ρ, s, s', a, w, hS, hok, h, hQ => by
    rw [wpOps_cons]
    simp only [seqA] at h
    cases hs : stepA P cf ops s.h.next s.h.next i s with
    | none => simp [hs] at h
    | some s1 =>
      simp only [hs] at h
      refine stepA_ok hcf hS hok hs fun a' w' ρ' he hS' => ?_
      exact seqA_ok hcf l ρ' s1 s' a' w' hS' hok h fun a2 w2 ρ2 he2 hS2 => hQ a2 w2 ρ2 (he.trans he2) hS2

theorem seqA_some {cf : CF} (hcf : CFok P cf) {ops : Array Oper} : ∀ (l : List Nat) (ρ : Ren) (s s' : AS) (a : Act) (w : World), St P w0 nt ρ s a w → okOps nt ops = true → seqA P cf ops l s = some s' →
    Keeps s.h s'.h ∧ ∃ ρ' a' w', Ext ρ ρ' ∧ St P w0 nt ρ' s' a' w'
  | [], ρ, s, s', a, w, hS, _, h => by simp [seqA] at h; subst h; exact ⟨Keeps.refl _, ρ, a, w, Ext.refl _, hS⟩
  | i :: l, ρ, s, s', a, w, hS, hok, h => by
    simp only [seqA] at h
    cases hs : stepA P cf ops s.h.next s.h.next i s with
    | none => simp [hs] at h
    | some s1 =>
      simp only [hs] at h
      obtain ⟨hk, ρ1, a1, w1, he1, hS1⟩ := stepA_some hcf hS hok hs
      obtain ⟨hk2, ρ2, a2, w2, he2, hS2⟩ := seqA_some hcf l ρ1 s1 s' a1 w1 hS1 hok h
      exact ⟨hk.trans hk2, ρ2, a2, w2, he1.trans he2, hS2⟩

/-! ### a region that draws -/

theorem quickA_ok {ops : Array Oper} {i : Nat} {s s' : AS} {a : Act} (hS : St P w0 nt ρ s a w) (hok : okOps nt ops = true) (h : quickA P ops i s = some s') :
    ∃ o v', ops[i]? = some o ∧ YieldsIf P ops (Below w0.heap.size w0) o v' a ∧ St P w0 nt ρ s' (a.put o.dst v') w ∧ s'.h = s.h := by
  unfold quickA at h
  cases ho : ops[i]? with
  | none => simp [ho] at h
  | some o =>
    simp only [ho] at h
    obtain ⟨h1, h2, h3⟩ := okOps_spec hok ho
    have hE := evs_of hS.tm h1
    have hy := yielded_ok hS.tm h3
    split at h
    · rename_i hw
      rw [← hy] at hw
      split at h
      · rename_i v hv
        cases h
        obtain ⟨v', r, hrun⟩ := regOp_ok hS.rel hE hv
        exact ⟨o, v', rfl, .inl ⟨hw, fun w' _ => hrun w'⟩, ⟨hS.rel, hS.tm.put r h2, by rw [put_defers]; exact hS.defers⟩, rfl⟩
      split at h
      · rename_i v hv
        cases h
        obtain ⟨v', r, hrun⟩ := rdOp_ok hS.rel hE hv
        refine ⟨o, v', rfl, .inl ⟨hw, fun w' hb => hrun w' ?_⟩, ⟨hS.rel, hS.tm.put r h2, by rw [put_defers]; exact hS.defers⟩, rfl⟩
        intro k p hk hl hp
        have := hS.rel.old k p hl hk hp
        rw [hb.block _ this, hS.rel.below.block _ this]
      · cases h
    · rename_i hw
      rw [← hy] at hw
      cases h
      exact ⟨o, undef, rfl, .inr ⟨by simpa using hw, rfl⟩, ⟨hS.rel, hS.tm.put (vr_undef _) h2, by rw [put_defers]; exact hS.defers⟩, rfl⟩

/-- what the region is to come to -/
def Ends (P : Program) (w0 : World) (nt : Nat) (ρ : Ren) (s : AS) : Exit → Act → World → Prop := fun e a w => e = .normal ∧ ∃ ρ', Ext ρ ρ' ∧ St P w0 nt ρ' s a w

theorem lexA_ok {ops : Array Oper} (hsel : Region.noSelect ops = true) : ∀ (f k : Nat) (listed : Array Bool) (ρ : Ren) (s s' : AS) (a : Act) (w : World), St P w0 nt ρ s a w → okOps nt ops = true → Region.lexFrom .any ops f k listed = true →
    lexA P ops f k s = some s' → wpAnyH P .any ops (Ends P w0 nt ρ s') (Below w0.heap.size w0) f listed a w ∧ s'.h = s.h ∧ ∃ a', St P w0 nt ρ s' a' w
  | 0, k, listed, ρ, s, s', a, w, hS, _, hl, h => by
    simp [lexA] at h
    subst h
    simp only [Region.lexFrom] at hl
    exact ⟨⟨by simpa using hl, rfl, ρ, Ext.refl _, hS⟩, rfl, a, hS⟩
  | f + 1, k, listed, ρ, s, s', a, w, hS, hok, hl, h => by
    simp only [lexA] at h
    simp only [Region.lexFrom, Bool.and_eq_true] at hl
    obtain ⟨⟨hr, hf⟩, hl'⟩ := hl
    cases hq : quickA P ops k s with
    | none => simp [hq] at h
    | some s1 =>
      simp only [hq] at h
      obtain ⟨o, v', ho, hy, hS1, hh⟩ := quickA_ok hS hok hq
      obtain ⟨h1, h2, h4⟩ := lexA_ok hsel f (k + 1) (listed.setIfInBounds k true) ρ s1 s' _ w hS1 hok hl' h
      refine ⟨?_, h2.trans hh, h4⟩
      exact wpAnyH_take ho hsel hf hr (fun c a w h => by cases h.1) hy hS.rel.below h1
end
end Go.Ab
