/- Regions. A region that draws, some of its operations not quick; code; calls. Code; calls. -/
import Derived.Test.YtcakcdolijgjeaaYi
import Derived.OrdersIn
import Derived.RangeFuncRecord
namespace Go.Ab
open Go Go.RowKit
section
variable {P : Program} {ρ : Ren} {w0 w : World} {D : List Deferred} {nt : Nat}

/-- what a frame and a world are, read abstractly -/
structure St (P : Program) (w0 : World) (D : List Deferred) (nt : Nat) (ρ : Ren) (s : AS) (a : Act) (w : World) : Prop where
  rel : Rel P w0 ρ s.h w
  tm : TmR ρ nt s.t a.tmps
  defers : a.defers = D

theorem TmR.put {t : Tm} {a : Act} (h : TmR ρ nt t a.tmps) {dst : Option Tmp} {v v' : Value} (hv : VR ρ v v') (hd : ∀ d, dst = some d → d < nt ∧ d < 2 ^ 15) : TmR ρ nt (aput t dst v) (a.put dst v').tmps := by
  cases dst with
  | none => exact h
  | some d =>
    obtain ⟨h1, h2⟩ := hd d rfl
    refine ⟨by simp [Act.put]; exact h.1, fun i hi => ?_⟩
    show VR ρ (getT (Tre.set 16 t d v) i) ((a.tmps.setIfInBounds d v').getD i undef)
    have hsz : d < a.tmps.size := by rw [← h.1]; exact h1
    by_cases e : i = d
    · subst e
      have : getT (Tre.set 16 t i v) i = v := by
        unfold getT
        simp only [Tre.get_set_same 15 t i v h2]
      rw [this]
      simpa [hsz] using hv
    · have : getT (Tre.set 16 t d v) i = getT t i := by
        unfold getT
        simp only [Tre.get_set_other 16 t d i v e]
      rw [this]
      have := h.2 i hi
      simpa [Array.getElem?_setIfInBounds_ne (Ne.symm e)] using this

theorem put_defers (a : Act) (dst : Option Tmp) (v : Value) : (a.put dst v).defers = a.defers := by cases dst <;> rfl

theorem yielded_ok {ops : Array Oper} {t : Tm} {a : Act} (h : TmR ρ nt t a.tmps) {o : Oper} (hg : ∀ j b, o.guard = some (j, b) → ∀ d, (ops[j]?).bind (·.dst) = some d → d < nt) :
    Region.wanted o (yielded ops a.tmps) = Region.wanted o (ayielded ops t) := by
  unfold Region.wanted
  cases hgd : o.guard with
  | none => rfl
  | some jb =>
    obtain ⟨j, b⟩ := jb
    simp only []
    congr 1
    unfold yielded ayielded
    cases hd : (ops[j]?).bind (·.dst) with
    | none => simp
    | some d =>
      have hlt := hg j b hgd d hd
      have hsz : d < a.tmps.size := by rw [← h.1]; exact hlt
      have hv := h.2 d hlt
      simp only [Option.bind_some]
      have e : a.tmps[d]? = some (a.tmps.getD d undef) := by simp [hsz]
      rw [e]
      revert hv
      generalize getT t d = x
      generalize a.tmps.getD d undef = y
      intro hv
      cases hv <;> rfl

theorem okOps_spec {n : Nat} {ops : Array Oper} (h : okOps n ops = true) {i : Nat} {o : Oper} (ho : ops[i]? = some o) :
    o.op.operands.toList.all (okOpd n) = true ∧ (∀ d, o.dst = some d → d < n ∧ d < 2 ^ 15) ∧ (∀ j b, o.guard = some (j, b) → ∀ d, (ops[j]?).bind (·.dst) = some d → d < n) := by
  have hm : o ∈ ops.toList := List.mem_of_getElem? (by simpa using ho)
  have := List.all_eq_true.1 h o hm
  simp only [Bool.and_eq_true] at this
  obtain ⟨⟨h1, h2⟩, h3⟩ := this
  refine ⟨h1, fun d hd => ?_, fun j b hg d hd => ?_⟩
  · rw [hd] at h2; simpa using h2
  · rw [hg] at h3
    simp only [] at h3
    rw [hd] at h3
    simpa using h3

/-- a call, by its function and arguments -/
def CFok (P : Program) (cf : CF) : Prop := ∀ f args h v h', cf f args h = some (v, h') → ∀ w0 ρ w args', Rel P w0 ρ h w → VRs ρ args args' →
  Keeps h h' ∧ Calls P f ⟨args'⟩ w fun e w' => ∃ v' ρ', e = .returned v' ∧ VR ρ' v v' ∧ Ext ρ ρ' ∧ Rel P w0 ρ' h' w'

theorem wp_did {o : Oper} {a : Act} {v : Value} {H H' : Hp} {K : Act → World → Prop} {Q : Exit → Act → World → Prop} (h : Did P w0 ρ H w (execOp a.eval o) v H')
    (hK : ∀ v' w' ρ', VR ρ' v v' → Ext ρ ρ' → Rel P w0 ρ' H' w' → K (a.put o.dst v') w') : o.wp P a w K Q := by
  obtain ⟨nx, v', w', ρ', hr, hn, hv, he, hR, _⟩ := h
  unfold Oper.wp
  rw [hr]
  rcases hn with rfl | ⟨rfl, rfl⟩
  · exact hK v' w' ρ' hv he hR
  · exact hK undef w' ρ' hv he hR

theorem callee_ok {ev ev' : Operand → Value} {o : Oper} (hE : Evs ρ ev ev' o) {f : FuncId} {args : List Value} (h : callee? ev o = some (f, args)) (he : enters P f = true) :
    ∃ args', VRs ρ args args' ∧ ∀ w, (execOp ev' o).run P w = .ok (.enter f ⟨args'⟩) w := by
  unfold callee? at h
  split at h
  case h_2 => cases h
  rename_i c ho
  split at h
  case h_2 => cases h
  rename_i fv hc
  split at h
  case h_2 => cases h
  rename_i g first captured hv
  simp only [Option.some.injEq, Prod.mk.injEq] at h
  obtain ⟨rfl, rfl⟩ := h
  have hf : VR ρ (ev fv) (ev' fv) := hE fv (by rw [ho]; simp [Op.operands, Call.operands, hc])
  rw [hv] at hf
  obtain ⟨f', c', ef, h1, h2⟩ := hf.func_inv rfl
  have hargs : ∀ x ∈ c.args.toList, VR ρ (ev x) (ev' x) := fun x hx => hE x (by rw [ho]; simp [Op.operands, Call.operands, hc]; exact .inr (by simpa using hx))
  refine ⟨f'.toList ++ c.args.toList.map ev' ++ c'.toList, (h1.append (VRs.map hargs)).append h2, fun w => ?_⟩
  unfold enters at he
  cases hfn : P.funcs[g]? with
  | none => simp [hfn] at he
  | some fn =>
    simp only [hfn, Bool.and_eq_true, bne_iff_ne, ne_eq] at he
    obtain ⟨hname, hbody⟩ := he
    have hnone : fn.body.isNone = false := by cases hb : fn.body <;> simp [hb] at hbody ⊢
    have hargs' : f' ++ c.args.map ev' ++ c' = ⟨f'.toList ++ c.args.toList.map ev' ++ c'.toList⟩ := by apply Array.ext'; simp
    simp only [execOp, ho, resolve, hc, ef, Deferred.ofValue, Sem.run_bind, Sem.run_pure, Result.andThen_ok, invoke, callFunc, run_program, hfn, beq_iff_eq, hname, if_false, hnone, Bool.false_eq_true, hargs']

theorem opA_ok {cf : CF} (hcf : CFok P cf) {lim id : Nat} {o : Oper} {s s' : AS} {a : Act} (hS : St P w0 D nt ρ s a w) (hok : o.op.operands.toList.all (okOpd nt) = true) (hdst : ∀ d, o.dst = some d → d < nt ∧ d < 2 ^ 15)
    (h : opA P cf lim id o s = some s') {K : Act → World → Prop} {Q : Exit → Act → World → Prop} (hK : ∀ a' w' ρ', Ext ρ ρ' → St P w0 D nt ρ' s' a' w' → K a' w') : o.wp P a w K Q := by
  have hE := evs_of hS.tm hok
  unfold opA at h
  split at h
  · rename_i v hv
    cases h
    obtain ⟨v', r, hrun⟩ := regOp_ok hS.rel hE hv
    unfold Oper.wp
    rw [hrun w]
    exact hK _ _ ρ (Ext.refl _) ⟨hS.rel, hS.tm.put r hdst, by rw [put_defers]; exact hS.defers⟩
  split at h
  · rename_i v hv
    cases h
    obtain ⟨v', r, hrun⟩ := rdOp_ok hS.rel hE hv
    unfold Oper.wp
    rw [hrun w (near_refl _ _ _ _)]
    exact hK _ _ ρ (Ext.refl _) ⟨hS.rel, hS.tm.put r hdst, by rw [put_defers]; exact hS.defers⟩
  split at h
  · rename_i v h1 hv
    cases h
    exact wp_did (wrOp_ok hS.rel hE hv) fun v' w' ρ' hv he hR => hK _ _ ρ' he ⟨hR, (hS.tm.ext he).put hv hdst, by rw [put_defers]; exact hS.defers⟩
  split at h
  case h_2 => cases h
  rename_i f args hc
  split at h
  case h_2 => cases h
  rename_i hen
  split at h
  case h_2 => cases h
  rename_i v h1 hv
  cases h
  obtain ⟨args', hargs, hrun⟩ := callee_ok hE hc hen
  unfold Oper.wp
  rw [hrun w]
  refine (hcf f args s.h v h1 hv w0 ρ w args' hS.rel hargs).2.mono ?_
  rintro e w' ⟨v', ρ', rfl, hv, he, hR⟩
  exact hK _ _ ρ' he ⟨hR, (hS.tm.ext he).put hv hdst, by rw [put_defers]; exact hS.defers⟩

/-- what can be reckoned can be run -/
theorem opA_some {cf : CF} (hcf : CFok P cf) {lim id : Nat} {o : Oper} {s s' : AS} {a : Act} (hS : St P w0 D nt ρ s a w) (hok : o.op.operands.toList.all (okOpd nt) = true) (hdst : ∀ d, o.dst = some d → d < nt ∧ d < 2 ^ 15)
    (h : opA P cf lim id o s = some s') : Keeps s.h s'.h ∧ ∃ ρ' a' w', Ext ρ ρ' ∧ St P w0 D nt ρ' s' a' w' := by
  have hE := evs_of hS.tm hok
  unfold opA at h
  split at h
  · rename_i v hv
    cases h
    obtain ⟨v', r, _⟩ := regOp_ok hS.rel hE hv
    exact ⟨Keeps.refl _, ρ, a.put o.dst v', w, Ext.refl _, hS.rel, hS.tm.put r hdst, by rw [put_defers]; exact hS.defers⟩
  split at h
  · rename_i v hv
    cases h
    obtain ⟨v', r, _⟩ := rdOp_ok hS.rel hE hv
    exact ⟨Keeps.refl _, ρ, a.put o.dst v', w, Ext.refl _, hS.rel, hS.tm.put r hdst, by rw [put_defers]; exact hS.defers⟩
  split at h
  · rename_i v h1 hv
    cases h
    obtain ⟨_, v', w', ρ', _, _, hvv, he, hR, hk⟩ := wrOp_ok hS.rel hE hv
    exact ⟨hk, ρ', a.put o.dst v', w', he, hR, (hS.tm.ext he).put hvv hdst, by rw [put_defers]; exact hS.defers⟩
  split at h
  case h_2 => cases h
  rename_i f args hc
  split at h
  case h_2 => cases h
  rename_i hen
  split at h
  case h_2 => cases h
  rename_i v h1 hv
  cases h
  obtain ⟨args', hargs, _⟩ := callee_ok hE hc hen
  obtain ⟨hk, hcall⟩ := hcf f args s.h v h1 hv w0 ρ w args' hS.rel hargs
  obtain ⟨e, w', fr, ⟨v', ρ', _, hvv, he, hR⟩, _⟩ := hcall []
  exact ⟨hk, ρ', a.put o.dst v', w', he, hR, (hS.tm.ext he).put hvv hdst, by rw [put_defers]; exact hS.defers⟩

theorem stepA_ok {cf : CF} (hcf : CFok P cf) {ops : Array Oper} {lim id i : Nat} {s s' : AS} {a : Act} (hS : St P w0 D nt ρ s a w) (hok : okOps nt ops = true) (h : stepA P cf ops lim id i s = some s')
    {K : Act → World → Prop} {Q : Exit → Act → World → Prop} (hK : ∀ a' w' ρ', Ext ρ ρ' → St P w0 D nt ρ' s' a' w' → K a' w') : wpOp P ops Q i K a w := by
  unfold stepA at h
  unfold wpOp
  cases ho : ops[i]? with
  | none => simp only [ho] at h ⊢; cases h; exact hK a w ρ (Ext.refl _) hS
  | some o =>
    simp only [ho] at h ⊢
    obtain ⟨h1, h2, h3⟩ := okOps_spec hok ho
    rw [yielded_ok hS.tm h3]
    split at h
    · rename_i hw
      rw [if_pos hw]
      exact .inl (opA_ok hcf hS h1 h2 h hK)
    · rename_i hw
      rw [if_neg hw]
      cases h
      exact hK _ _ ρ (Ext.refl _) ⟨hS.rel, hS.tm.put (vr_undef _) h2, by rw [put_defers]; exact hS.defers⟩

theorem stepA_some {cf : CF} (hcf : CFok P cf) {ops : Array Oper} {lim id i : Nat} {s s' : AS} {a : Act} (hS : St P w0 D nt ρ s a w) (hok : okOps nt ops = true) (h : stepA P cf ops lim id i s = some s') :
    Keeps s.h s'.h ∧ ∃ ρ' a' w', Ext ρ ρ' ∧ St P w0 D nt ρ' s' a' w' := by
  unfold stepA at h
  cases ho : ops[i]? with
  | none => simp only [ho] at h; cases h; exact ⟨Keeps.refl _, ρ, a, w, Ext.refl _, hS⟩
  | some o =>
    simp only [ho] at h
    obtain ⟨h1, h2, h3⟩ := okOps_spec hok ho
    split at h
    · exact opA_some hcf hS h1 h2 h
    · cases h
      exact ⟨Keeps.refl _, ρ, a.put o.dst undef, w, Ext.refl _, hS.rel, hS.tm.put (vr_undef _) h2, by rw [put_defers]; exact hS.defers⟩

theorem seqA_ok {cf : CF} (hcf : CFok P cf) {ops : Array Oper} {Q : Exit → Act → World → Prop} : ∀ (l : List Nat) (ρ : Ren) (s s' : AS) (a : Act) (w : World), St P w0 D nt ρ s a w → okOps nt ops = true → seqA P cf ops l s = some s' →
    (∀ a' w' ρ', Ext ρ ρ' → St P w0 D nt ρ' s' a' w' → Q .normal a' w') → wpOps P ops Q l a w
  | [], ρ, s, s', a, w, hS, _, h, hQ => by simp [seqA] at h; subst h; exact hQ a w ρ (Ext.refl _) hS
  | i :: l, ρ, s, s', a, w, hS, hok, h, hQ => by
    rw [wpOps_cons]
    simp only [seqA] at h
    cases hs : stepA P cf ops s.h.next s.h.next i s with
    | none => simp [hs] at h
    | some s1 =>
      simp only [hs] at h
      refine stepA_ok hcf hS hok hs fun a' w' ρ' he hS' => ?_
      exact seqA_ok hcf l ρ' s1 s' a' w' hS' hok h fun a2 w2 ρ2 he2 hS2 => hQ a2 w2 ρ2 (he.trans he2) hS2

theorem seqA_some {cf : CF} (hcf : CFok P cf) {ops : Array Oper} : ∀ (l : List Nat) (ρ : Ren) (s s' : AS) (a : Act) (w : World), St P w0 D nt ρ s a w → okOps nt ops = true → seqA P cf ops l s = some s' →
    Keeps s.h s'.h ∧ ∃ ρ' a' w', Ext ρ ρ' ∧ St P w0 D nt ρ' s' a' w'
  | [], ρ, s, s', a, w, hS, _, h => by simp [seqA] at h; subst h; exact ⟨Keeps.refl _, ρ, a, w, Ext.refl _, hS⟩
  | i :: l, ρ, s, s', a, w, hS, hok, h => by
    simp only [seqA] at h
    cases hs : stepA P cf ops s.h.next s.h.next i s with
    | none => simp [hs] at h
    | some s1 =>
      simp only [hs] at h
      obtain ⟨hk, ρ1, a1, w1, he1, hS1⟩ := stepA_some hcf hS hok hs
      obtain ⟨hk2, ρ2, a2, w2, he2, hS2⟩ := seqA_some hcf l ρ1 s1 s' a1 w1 hS1 hok h
      exact ⟨hk.trans hk2, ρ2, a2, w2, he1.trans he2, hS2⟩

/-! ### a region that draws -/

theorem quickA_ok {ops : Array Oper} {i : Nat} {s s' : AS} {a : Act} (hS : St P w0 D nt ρ s a w) (hok : okOps nt ops = true) (h : quickA P ops i s = some s') :
    ∃ o v', ops[i]? = some o ∧ YieldsIf P ops (Below w0.heap.size w0) o v' a ∧ St P w0 D nt ρ s' (a.put o.dst v') w ∧ s'.h = s.h := by
  unfold quickA at h
  cases ho : ops[i]? with
  | none => simp [ho] at h
  | some o =>
    simp only [ho] at h
    obtain ⟨h1, h2, h3⟩ := okOps_spec hok ho
    have hE := evs_of hS.tm h1
    have hy := yielded_ok hS.tm h3
    split at h
    · rename_i hw
      rw [← hy] at hw
      split at h
      · rename_i v hv
        cases h
        obtain ⟨v', r, hrun⟩ := regOp_ok hS.rel hE hv
        exact ⟨o, v', rfl, .inl ⟨hw, fun w' _ => hrun w'⟩, ⟨hS.rel, hS.tm.put r h2, by rw [put_defers]; exact hS.defers⟩, rfl⟩
      split at h
      · rename_i v hv
        cases h
        obtain ⟨v', r, hrun⟩ := rdOp_ok hS.rel hE hv
        refine ⟨o, v', rfl, .inl ⟨hw, fun w' hb => hrun w' ?_⟩, ⟨hS.rel, hS.tm.put r h2, by rw [put_defers]; exact hS.defers⟩, rfl⟩
        intro k p hk hl hp
        have := hS.rel.old k p hl hk hp
        rw [hb.block _ this, hS.rel.below.block _ this]
      · cases h
    · rename_i hw
      rw [← hy] at hw
      cases h
      exact ⟨o, undef, rfl, .inr ⟨by simpa using hw, rfl⟩, ⟨hS.rel, hS.tm.put (vr_undef _) h2, by rw [put_defers]; exact hS.defers⟩, rfl⟩

theorem quickR_ok {ops : Array Oper} {i : Nat} {s s' : AS} {a : Act} (hS : St P w0 D nt ρ s a w) (hok : okOps nt ops = true) (h : quickR P ops i s = some s') :
    ∃ o v', ops[i]? = some o ∧ YieldsIf P ops (fun _ => True) o v' a ∧ St P w0 D nt ρ s' (a.put o.dst v') w ∧ s'.h = s.h := by
  unfold quickR at h
  cases ho : ops[i]? with
  | none => simp [ho] at h
  | some o =>
    simp only [ho] at h
    obtain ⟨h1, h2, h3⟩ := okOps_spec hok ho
    have hE := evs_of hS.tm h1
    have hy := yielded_ok hS.tm h3
    split at h
    · rename_i hw
      rw [← hy] at hw
      split at h
      · rename_i v hv
        cases h
        obtain ⟨v', r, hrun⟩ := regOp_ok hS.rel hE hv
        exact ⟨o, v', rfl, .inl ⟨hw, fun w' _ => hrun w'⟩, ⟨hS.rel, hS.tm.put r h2, by rw [put_defers]; exact hS.defers⟩, rfl⟩
      · cases h
    · rename_i hw
      rw [← hy] at hw
      cases h
      exact ⟨o, undef, rfl, .inr ⟨by simpa using hw, rfl⟩, ⟨hS.rel, hS.tm.put (vr_undef _) h2, by rw [put_defers]; exact hS.defers⟩, rfl⟩

/-- what the region is to come to -/
def Ends (P : Program) (w0 : World) (D : List Deferred) (nt : Nat) (ρ : Ren) (s : AS) : Exit → Act → World → Prop := fun e a w => e = .normal ∧ ∃ ρ', Ext ρ ρ' ∧ St P w0 D nt ρ' s a w

theorem lexA_ok {ops : Array Oper} (hsel : Region.noSelect ops = true) : ∀ (f k : Nat) (listed : Array Bool) (ρ : Ren) (s s' : AS) (a : Act) (w : World), St P w0 D nt ρ s a w → okOps nt ops = true → Region.lexFrom .any ops f k listed = true →
    lexA P ops f k s = some s' → wpAnyH P .any ops (Ends P w0 D nt ρ s') (Below w0.heap.size w0) f listed a w ∧ s'.h = s.h ∧ ∃ a', St P w0 D nt ρ s' a' w
  | 0, k, listed, ρ, s, s', a, w, hS, _, hl, h => by
    simp [lexA] at h
    subst h
    simp only [Region.lexFrom] at hl
    exact ⟨⟨by simpa using hl, rfl, ρ, Ext.refl _, hS⟩, rfl, a, hS⟩
  | f + 1, k, listed, ρ, s, s', a, w, hS, hok, hl, h => by
    simp only [lexA] at h
    simp only [Region.lexFrom, Bool.and_eq_true] at hl
    obtain ⟨⟨hr, hf⟩, hl'⟩ := hl
    cases hq : quickA P ops k s with
    | none => simp [hq] at h
    | some s1 =>
      simp only [hq] at h
      obtain ⟨o, v', ho, hy, hS1, hh⟩ := quickA_ok hS hok hq
      obtain ⟨h1, h2, h4⟩ := lexA_ok hsel f (k + 1) (listed.setIfInBounds k true) ρ s1 s' _ w hS1 hok hl' h
      refine ⟨?_, h2.trans hh, h4⟩
      exact wpAnyH_take ho hsel hf hr (fun c a w h => by cases h.1) hy hS.rel.below h1
end
end Go.Ab
namespace Go.Ab
open Go Go.RowKit

/-! ### equality that is reckoned -/

theorem veqs_ok (n : Nat) (h : ∀ v u, veq n v u = true → v = u) : ∀ (l m : List Value), veq.veqs n l m = true → l = m
  | [], [], _ => rfl
  | [], _ :: _, e => by simp [veq.veqs] at e
  | _ :: _, [], e => by simp [veq.veqs] at e
  | x :: l, y :: m, e => by
    simp only [veq.veqs, Bool.and_eq_true] at e
    rw [h x y e.1, veqs_ok n h l m e.2]

theorem bytes_ext {a b : ByteArray} (h : a.data.toList = b.data.toList) : a = b := by
  cases a; cases b; congr; exact Array.ext' h

theorem veq_ok : ∀ (n : Nat) (v u : Value), veq n v u = true → v = u := by
  intro n
  induction n with
  | zero =>
    intro v u h
    cases v <;> cases u <;> simp [veq] at h <;> first | (subst h; rfl) | (obtain ⟨rfl, rfl⟩ := h; rfl) | (obtain ⟨⟨rfl, rfl⟩, rfl⟩ := h; rfl) | (obtain ⟨rfl, rfl, rfl⟩ := h; rfl) | rfl | skip
    all_goals (rw [bytes_ext (Array.toList_inj.2 h)])
  | succ n ih =>
    intro v u h
    have ihs := veqs_ok n ih
    cases v <;> cases u <;> simp [veq] at h <;> first | (subst h; rfl) | (obtain ⟨rfl, rfl⟩ := h; rfl) | (obtain ⟨⟨rfl, rfl⟩, rfl⟩ := h; rfl) | (obtain ⟨rfl, rfl, rfl⟩ := h; rfl) | rfl | skip
    case string.string => rw [bytes_ext (Array.toList_inj.2 h)]
    case agg.agg => rw [Array.ext' (ihs _ _ h)]
    case tuple.tuple => rw [Array.ext' (ihs _ _ h)]
    case iface.iface => rw [h.1, ih _ _ h.2]
    case func.func => rw [h.1.1, Array.ext' (ihs _ _ h.1.2), Array.ext' (ihs _ _ h.2)]

theorem eeq_ok : ∀ (l m : List MapEntry), eeq l m = true → l = m
  | [], [], _ => rfl
  | [], _ :: _, e => by simp [eeq] at e
  | _ :: _, [], e => by simp [eeq] at e
  | ⟨k, v, b⟩ :: l, ⟨k', v', b'⟩ :: m, e => by
    simp only [eeq, Bool.and_eq_true, beq_iff_eq] at e
    obtain ⟨⟨⟨h1, h2⟩, h3⟩, h4⟩ := e
    rw [veq_ok 4 _ _ h1, veq_ok 4 _ _ h2, h3, eeq_ok l m h4]

theorem teq_ok : ∀ (t u : Tm), teq t u = true → t = u := by
  intro t
  induction t with
  | e => intro u h; cases u with | e => rfl | n v l r => simp [teq] at h
  | n v l r ihl ihr =>
    intro u h
    cases u with
    | e => cases v <;> simp [teq] at h
    | n v' l' r' =>
      cases v <;> cases v' <;> simp only [teq, Bool.and_eq_true, Bool.false_eq_true] at h
      · rw [ihl _ h.1, ihr _ h.2]
      · rw [veq_ok 4 _ _ h.1.1, ihl _ h.1.2, ihr _ h.2]

theorem beqB_ok {a b : Option Blk} (h : beqB a b = true) (hs : ∀ c d x y, a = some c → b = some d → statB c = some x → statB d = some y → x = y) : a = b := by
  unfold beqB at h
  split at h
  · rfl
  · rfl
  · simp only [Bool.and_eq_true, beq_iff_eq] at h; rw [h.1, veqs_ok 4 (veq_ok 4) _ _ h.2]
  · simp only [Bool.and_eq_true, beq_iff_eq] at h; rw [h.2, eeq_ok _ _ h.1]
  · simp only [Bool.and_eq_true, beq_iff_eq] at h; rw [h.2, bytes_ext h.1]
  · rfl
  · have e := hs _ _ _ _ rfl rfl rfl rfl
    simp only [Prod.mk.injEq] at e
    obtain ⟨rfl, rfl, rfl, rfl, rfl⟩ := e
    rename_i s _ _ _ _ _ t
    have : s = t := by simpa using h
    rw [this]
  · cases h

section
variable {P : Program} {ρ : Ren} {w0 w : World} {D : List Deferred} {nt : Nat}

theorem asEq_ok {s s' : AS} (h : asEq s s' = true) {H : Hp} (k : Keeps H s.h) (k' : Keeps H s'.h) (ht : ∀ k, s.h.next ≤ k → s.h.get k = none) {a : Act} (hS : St P w0 D nt ρ s' a w) : St P w0 D nt ρ s a w := by
  unfold asEq heapEq at h
  simp only [Bool.and_eq_true, beq_iff_eq] at h
  obtain ⟨h2, ⟨h3, h4⟩, h5⟩ := h
  have h2 := teq_ok _ _ h2
  refine ⟨hS.rel.congr h3 h4 fun j => ?_, by rw [h2]; exact hS.tm, hS.defers⟩
  · by_cases hj : j < H.lo
    · rw [k.get j hj, k'.get j hj]
    · by_cases hn : s.h.next ≤ j
      · rw [ht j hn, hS.rel.top j (by rw [← h4]; exact hn)]
      · have := List.all_eq_true.1 h5 (j - s.h.lo) (by rw [List.mem_range]; have := k.lo; omega)
        have e : s.h.lo + (j - s.h.lo) = j := by have := k.lo; omega
        rw [e] at this
        refine beqB_ok this fun c d x y hc hd hx hy => ?_
        obtain ⟨b0, h0, hx0⟩ := k.stat j c x hc hx
        obtain ⟨b1, h1, hy1⟩ := k'.stat j d y hd hy
        rw [h0] at h1
        cases h1
        rw [hx0] at hy1
        exact Option.some.inj hy1

theorem drawA_some {cf : CF} (hcf : CFok P cf) {ops : Array Oper} {base : Nat} : ∀ (f : Nat) (p : Plan) (ρ : Ren) (s s' : AS) (a : Act) (w : World), St P w0 D nt ρ s a w → okOps nt ops = true → drawA P cf ops base f p s = some s' →
    Keeps s.h s'.h ∧ ∃ ρ' a' w', Ext ρ ρ' ∧ St P w0 D nt ρ' s' a' w'
  | 0, p, ρ, s, s', a, w, hS, _, h => by
    simp only [drawA] at h
    split at h
    · cases h; exact ⟨Keeps.refl _, ρ, a, w, Ext.refl _, hS⟩
    · cases h
  | f + 1, p, ρ, s, s', a, w, hS, hok, h => by
    simp only [drawA] at h
    split at h
    · cases h; exact ⟨Keeps.refl _, ρ, a, w, Ext.refl _, hS⟩
    · cases h
    · rename_i i rest
      split at h
      case h_2 => cases h
      rename_i s2 hq
      obtain ⟨o, v', ho, hy, hS1, hh⟩ := quickA_ok hS hok hq
      obtain ⟨h1, h3⟩ := drawA_some hcf f rest ρ s2 s' _ w hS1 hok h
      exact ⟨by rw [← hh]; exact h1, h3⟩
    · rename_i i rest
      split at h
      case h_2 => cases h
      rename_i s2 hq
      obtain ⟨o, v', ho, hy, hS1, hh⟩ := quickR_ok hS hok hq
      obtain ⟨h1, h3⟩ := drawA_some hcf f rest ρ s2 s' _ w hS1 hok h
      exact ⟨by rw [← hh]; exact h1, h3⟩
    · rename_i l
      split at h
      case h_2 => cases h
      rename_i e more hends
      split at h
      case h_2 => cases h
      cases h
      cases l with
      | nil => simp at hends
      | cons ip l =>
        simp only [List.map_cons, List.cons.injEq] at hends
        obtain ⟨he, _⟩ := hends
        split at he
        case h_2 => cases he
        rename_i s1 hs1
        obtain ⟨hk, ρ1, a1, w1, he1, hS1⟩ := stepA_some hcf hS hok hs1
        obtain ⟨hk2, ρ2, a2, w2, he2, hS2⟩ := drawA_some hcf f ip.2 ρ1 s1 s' a1 w1 hS1 hok he
        exact ⟨hk.trans hk2, ρ2, a2, w2, he1.trans he2, hS2⟩

theorem pick1_some {p : Nat → Bool} {l : List Nat} {j : Nat} (h : pick1 p l = some j) : l.find? p = some j := by
  unfold pick1 at h
  split at h
  · cases h
  · exact h

theorem drawA_ok {cf : CF} (hcf : CFok P cf) {ops : Array Oper} (hsel : Region.noSelect ops = true) {base : Nat} {ρ0 : Ren} {tgt : AS} : ∀ (f : Nat) (listed : Array Bool) (ρ : Ren) (s s' : AS) (a : Act) (w : World), St P w0 D nt ρ s a w → okOps nt ops = true → Ext ρ0 ρ →
    drawA P cf ops base f (planA ops f listed) s = some s' → (∀ ρ a w, St P w0 D nt ρ s' a w → St P w0 D nt ρ tgt a w) → wpAnyH P .any ops (Ends P w0 D nt ρ0 tgt) (Below w0.heap.size w0) f listed a w
  | 0, listed, ρ, s, s', a, w, hS, _, hE, h, ht => by
    simp only [planA, drawA] at h
    split at h
    · rename_i hp
      split at hp
      · rename_i hr
        cases h
        exact ⟨hr, rfl, ρ, hE, ht _ _ _ hS⟩
      · cases hp
    · cases h
  | f + 1, listed, ρ, s, s', a, w, hS, hok, hE, h, ht => by
    simp only [planA, drawA] at h
    cases hr : Region.ready .any ops listed with
    | nil =>
      simp only [hr] at h
      cases h
      exact wpAnyH_done hr ⟨rfl, ρ, hE, ht _ _ _ hS⟩ _
    | cons i0 rs =>
      simp only [hr] at h
      cases hfind : pick1 (firstA ops listed) (i0 :: rs) with
      | some j =>
        simp only [hfind] at h
        replace hfind := pick1_some hfind
        have hjm : j ∈ Region.ready .any ops listed := by rw [hr]; exact List.mem_of_find?_eq_some hfind
        have hfree : Region.free .any ops listed j = true := by
          have := List.find?_some hfind
          simp only [firstA, Bool.and_eq_true] at this
          exact this.1
        cases hq : quickA P ops j s with
        | none => simp [hq] at h
        | some s2 =>
          simp only [hq] at h
          obtain ⟨o, v', ho, hy, hS1, hh⟩ := quickA_ok hS hok hq
          have := drawA_ok hcf hsel f _ ρ s2 s' _ w hS1 hok hE h ht
          exact wpAnyH_take ho hsel hfree (by simpa using hjm) (fun c a w h => by cases h.1) hy hS.rel.below this
      | none =>
        simp only [hfind] at h
        split at h
        case h_2 => cases h
        rename_i e more hends
        split at h
        case h_2 => cases h
        rename_i hall
        cases h
        rw [List.map_map] at hends
        refine wpAnyH_all hr (by simp) fun i hi => ?_
        -- what the first order came to
        have hfirst : Keeps s.h s'.h ∧ ∀ k, s'.h.next ≤ k → s'.h.get k = none := by
          simp only [List.map_cons, List.cons.injEq, Function.comp_apply] at hends
          obtain ⟨he, _⟩ := hends
          split at he
          case h_2 => cases he
          rename_i s1 hs1
          obtain ⟨hk, ρ1, a1, w1, _, hS1⟩ := stepA_some hcf hS hok hs1
          obtain ⟨hk2, ρ2, a2, w2, _, hS2⟩ := drawA_some hcf f _ ρ1 s1 s' a1 w1 hS1 hok he
          exact ⟨hk.trans hk2, hS2.rel.top⟩
        have hmem : (match stepA P cf ops s.h.next (base + i) i s with | some s' => drawA P cf ops base f (planA ops f (listed.setIfInBounds i true)) s' | none => none) ∈ (some s' :: more) := by
          rw [← hends]
          exact List.mem_map_of_mem (f := (fun ip : Nat × Plan => match stepA P cf ops s.h.next (base + ip.1) ip.1 s with | some s' => drawA P cf ops base f ip.2 s' | none => none) ∘ fun j => (j, planA ops f (listed.setIfInBounds j true))) hi
        cases hs1 : stepA P cf ops s.h.next (base + i) i s with
        | none =>
          rw [hs1] at hmem
          simp only [List.mem_cons, reduceCtorEq, false_or] at hmem
          have := List.all_eq_true.1 hall _ hmem
          cases this
        | some s1 =>
          rw [hs1] at hmem
          simp only [] at hmem
          obtain ⟨hk, _⟩ := stepA_some hcf hS hok hs1
          refine stepA_ok hcf hS hok hs1 fun a' w' ρ' he hS' => ⟨hS'.rel.below, ?_⟩
          cases hd : drawA P cf ops base f (planA ops f (listed.setIfInBounds i true)) s1 with
          | none =>
            rw [hd] at hmem
            simp only [List.mem_cons, reduceCtorEq, false_or] at hmem
            have := List.all_eq_true.1 hall _ hmem
            cases this
          | some e1 =>
            rw [hd] at hmem
            obtain ⟨hk2, _⟩ := drawA_some hcf f _ ρ' s1 e1 a' w' hS' hok hd
            refine drawA_ok hcf hsel f _ ρ' s1 e1 a' w' hS' hok (hE.trans he) hd fun ρ2 a2 w2 hS2 => ?_
            rcases List.mem_cons.1 hmem with hm | hm
            · cases hm; exact ht _ _ _ hS2
            · have := List.all_eq_true.1 hall _ hm
              simp only [] at this
              exact ht _ _ _ (asEq_ok this hfirst.1 (hk.trans hk2) hfirst.2 hS2)

/-! ### orders that come to one state -/

def Inv (P : Program) (w0 : World) (D : List Deferred) (nt : Nat) (ρ0 : Ren) (H : Hp) (x : Array Bool × AS) : Prop := Keeps H x.2.h ∧ ∃ ρ a w, Ext ρ0 ρ ∧ St P w0 D nt ρ x.2 a w
def Cov (l : List (Array Bool × AS)) (x : Array Bool × AS) : Prop := ∃ y ∈ l, y.1 = x.1 ∧ (y.2 = x.2 ∨ asEq y.2 x.2 = true)

theorem putC_spec {x : Array Bool × AS} : ∀ {l l' : List (Array Bool × AS)}, putC x l = some l' → (∀ z ∈ l, z ∈ l') ∧ Cov l' x ∧ ∀ z ∈ l', z ∈ l ∨ z = x
  | [], l', h => by
    simp [putC] at h
    subst h
    exact ⟨fun z hz => by simp at hz, ⟨x, by simp, rfl, .inl rfl⟩, fun z hz => .inr (by simpa using hz)⟩
  | y :: l, l', h => by
    unfold putC at h
    split at h
    · rename_i he
      split at h
      · rename_i ha
        cases h
        refine ⟨fun z hz => hz, ⟨y, by simp, ?_, .inr ha⟩, fun z hz => .inl hz⟩
        have := eq_of_beq he
        exact Array.toList_inj.1 this
      · cases h
    · split at h
      · rename_i l1 h1
        cases h
        obtain ⟨a, ⟨u, hu, b⟩, c⟩ := putC_spec h1
        refine ⟨fun z hz => ?_, ⟨u, by simp [hu], b⟩, fun z hz => ?_⟩
        · rcases List.mem_cons.1 hz with rfl | hz
          · simp
          · simp [a z hz]
        · rcases List.mem_cons.1 hz with rfl | hz
          · exact .inl (by simp)
          · rcases c z hz with h | h
            · exact .inl (by simp [h])
            · exact .inr h
      · cases h

theorem Cov.mono {l l' : List (Array Bool × AS)} (h : ∀ z ∈ l, z ∈ l') {x : Array Bool × AS} (c : Cov l x) : Cov l' x := by
  obtain ⟨y, hy, r⟩ := c
  exact ⟨y, h y hy, r⟩

theorem putsC_spec : ∀ {xs l l' : List (Array Bool × AS)}, putsC xs l = some l' → (∀ z ∈ l, z ∈ l') ∧ (∀ x ∈ xs, Cov l' x) ∧ ∀ z ∈ l', z ∈ l ∨ z ∈ xs
  | [], l, l', h => by
    simp [putsC] at h
    subst h
    exact ⟨fun z hz => hz, fun x hx => by simp at hx, fun z hz => .inl hz⟩
  | x :: xs, l, l', h => by
    unfold putsC at h
    split at h
    · rename_i l1 h1
      obtain ⟨a, b, c⟩ := putC_spec h1
      obtain ⟨a2, b2, c2⟩ := putsC_spec h
      refine ⟨fun z hz => a2 z (a z hz), fun y hy => ?_, fun z hz => ?_⟩
      · rcases List.mem_cons.1 hy with rfl | hy
        · exact b.mono a2
        · exact b2 y hy
      · rcases c2 z hz with h | h
        · rcases c z h with h | h
          · exact .inl h
          · exact .inr (by simp [h])
        · exact .inr (by simp [h])
    · cases h

theorem levelC_spec {cf : CF} {ops : Array Oper} {base : Nat} : ∀ {l acc l' : List (Array Bool × AS)}, levelC P cf ops base l acc = some l' →
    (∀ z ∈ acc, z ∈ l') ∧ (∀ x ∈ l, ∃ ys, succC P cf ops base x = some ys ∧ ∀ y ∈ ys, Cov l' y) ∧ ∀ z ∈ l', z ∈ acc ∨ ∃ x ∈ l, ∃ ys, succC P cf ops base x = some ys ∧ z ∈ ys
  | [], acc, l', h => by
    simp [levelC] at h
    subst h
    exact ⟨fun z hz => hz, fun x hx => by simp at hx, fun z hz => .inl hz⟩
  | x :: l, acc, l', h => by
    unfold levelC at h
    split at h
    · rename_i ys hy
      split at h
      · rename_i acc1 h1
        obtain ⟨a, b, c⟩ := putsC_spec h1
        obtain ⟨a2, b2, c2⟩ := levelC_spec h
        refine ⟨fun z hz => a2 z (a z hz), fun y hyl => ?_, fun z hz => ?_⟩
        · rcases List.mem_cons.1 hyl with rfl | hyl
          · exact ⟨ys, hy, fun u hu => (b u hu).mono a2⟩
          · exact b2 y hyl
        · rcases c2 z hz with h | ⟨u, hu, r⟩
          · rcases c z h with h | h
            · exact .inl h
            · exact .inr ⟨x, by simp, ys, hy, h⟩
          · exact .inr ⟨u, by simp [hu], r⟩
      · cases h
    · cases h

theorem mapM_mem {α β : Type} {f : α → Option β} : ∀ {l : List α} {ys : List β}, l.mapM f = some ys → (∀ x ∈ l, ∃ y ∈ ys, f x = some y) ∧ ∀ y ∈ ys, ∃ x ∈ l, f x = some y
  | [], ys, h => by
    simp at h
    subst h
    exact ⟨fun x hx => by simp at hx, fun y hy => by simp at hy⟩
  | x :: l, ys, h => by
    rw [List.mapM_cons] at h
    cases hx : f x with
    | none => rw [hx] at h; cases h
    | some y =>
      cases hl : l.mapM f with
      | none => rw [hx, hl] at h; cases h
      | some ys1 =>
        rw [hx, hl] at h
        cases h
        obtain ⟨a, b⟩ := mapM_mem hl
        refine ⟨fun z hz => ?_, fun z hz => ?_⟩
        · rcases List.mem_cons.1 hz with rfl | hz
          · exact ⟨y, by simp, hx⟩
          · obtain ⟨u, hu, e⟩ := a z hz
            exact ⟨u, by simp [hu], e⟩
        · rcases List.mem_cons.1 hz with rfl | hz
          · exact ⟨x, by simp, hx⟩
          · obtain ⟨u, hu, e⟩ := b z hz
            exact ⟨u, by simp [hu], e⟩

theorem succC_inv {cf : CF} (hcf : CFok P cf) {ops : Array Oper} {base : Nat} {ρ0 : Ren} {H : Hp} (hok : okOps nt ops = true) {x : Array Bool × AS} (hx : Inv P w0 D nt ρ0 H x) {ys : List (Array Bool × AS)} (h : succC P cf ops base x = some ys) :
    ∀ y ∈ ys, Inv P w0 D nt ρ0 H y := by
  obtain ⟨hk, ρ, a, w, hE, hS⟩ := hx
  unfold succC at h
  split at h
  · cases h
  · split at h
    · split at h
      · rename_i s hq
        cases h
        intro y hy
        simp at hy
        subst hy
        obtain ⟨o, v', ho, _, hS1, hh⟩ := quickA_ok hS hok hq
        exact ⟨by show Keeps H s.h; rw [hh]; exact hk, ρ, _, w, hE, hS1⟩
      · cases h
    · intro y hy
      obtain ⟨j, _, hj⟩ := (mapM_mem h).2 y hy
      split at hj
      · rename_i s hs
        cases hj
        obtain ⟨hk1, ρ1, a1, w1, he, hS1⟩ := stepA_some hcf hS hok hs
        exact ⟨hk.trans hk1, ρ1, a1, w1, hE.trans he, hS1⟩
      · cases hj

theorem levelC_inv {cf : CF} (hcf : CFok P cf) {ops : Array Oper} {base : Nat} {ρ0 : Ren} {H : Hp} (hok : okOps nt ops = true) {l l' : List (Array Bool × AS)} (hl : ∀ x ∈ l, Inv P w0 D nt ρ0 H x) (h : levelC P cf ops base l [] = some l') : ∀ x ∈ l', Inv P w0 D nt ρ0 H x := by
  intro x hx
  rcases (levelC_spec h).2.2 x hx with hx | ⟨u, hu, ys, hy, hm⟩
  · simp at hx
  · exact succC_inv hcf hok (hl u hu) hy x hm

theorem drawC_some {cf : CF} (hcf : CFok P cf) {ops : Array Oper} {base : Nat} {ρ0 : Ren} {H : Hp} (hok : okOps nt ops = true) : ∀ (f : Nat) (l : List (Array Bool × AS)) (s' : AS), (∀ x ∈ l, Inv P w0 D nt ρ0 H x) → drawC P cf ops base f l = some s' →
    Keeps H s'.h ∧ ∃ ρ' a' w', Ext ρ0 ρ' ∧ St P w0 D nt ρ' s' a' w'
  | 0, l, s', hl, h => by
    unfold drawC at h
    split at h
    · split at h
      · cases h
        exact hl _ (by simp)
      · cases h
    · cases h
  | f + 1, l, s', hl, h => by
    unfold drawC at h
    split at h
    · rename_i l' hl'
      exact drawC_some hcf hok f l' s' (levelC_inv hcf hok hl hl') h
    · cases h

theorem cov_back {ρ0 : Ren} {H : Hp} {l : List (Array Bool × AS)} (hl : ∀ x ∈ l, Inv P w0 D nt ρ0 H x) {L : Array Bool} {s : AS} (hc : Cov l (L, s)) (hk : Keeps H s.h) {ρ : Ren} {a : Act} {w : World} (hS : St P w0 D nt ρ s a w) :
    ∃ t, (L, t) ∈ l ∧ St P w0 D nt ρ t a w := by
  obtain ⟨⟨L', t⟩, hm, e, h⟩ := hc
  simp only at e h
  subst e
  refine ⟨t, hm, ?_⟩
  rcases h with rfl | h
  · exact hS
  · obtain ⟨hk', ρ1, a1, w1, _, hS1⟩ := hl _ hm
    exact asEq_ok h hk' hk hS1.rel.top hS

theorem drawC_ok {cf : CF} (hcf : CFok P cf) {ops : Array Oper} (hsel : Region.noSelect ops = true) {base : Nat} {ρ0 : Ren} {H : Hp} (hok : okOps nt ops = true) : ∀ (f : Nat) (l : List (Array Bool × AS)) (s' : AS), (∀ x ∈ l, Inv P w0 D nt ρ0 H x) →
    drawC P cf ops base f l = some s' → ∀ (L : Array Bool) (s : AS), (L, s) ∈ l → ∀ (ρ : Ren) (a : Act) (w : World), St P w0 D nt ρ s a w → Ext ρ0 ρ → wpAnyH P .any ops (Ends P w0 D nt ρ0 s') (Below w0.heap.size w0) f L a w
  | 0, l, s', hl, h, L, s, hm, ρ, a, w, hS, hE => by
    unfold drawC at h
    split at h
    · split at h
      · rename_i hr
        cases h
        simp at hm
        subst hm
        exact ⟨hr, rfl, ρ, hE, hS⟩
      · cases h
    · cases h
  | f + 1, l, s', hl, h, L, s, hm, ρ, a, w, hS, hE => by
    unfold drawC at h
    split at h
    case h_2 => cases h
    rename_i l' hl'
    have hinv := levelC_inv hcf hok hl hl'
    obtain ⟨ys, hy, hcov⟩ := (levelC_spec hl').2.1 _ hm
    have hk0 : Keeps H s.h := (hl _ hm).1
    unfold succC at hy
    simp only at hy
    split at hy
    · cases hy
    rename_i i0 rs hr
    split at hy
    · rename_i j hfind
      have hfind := pick1_some hfind
      have hjm : j ∈ Region.ready .any ops L := by rw [hr]; exact List.mem_of_find?_eq_some hfind
      have hfree : Region.free .any ops L j = true := by
        have := List.find?_some hfind
        simp only [firstA, Bool.and_eq_true] at this
        exact this.1
      split at hy
      · rename_i s2 hq
        cases hy
        obtain ⟨o, v', ho, hyi, hS1, hh⟩ := quickA_ok hS hok hq
        obtain ⟨t, htm, hSt⟩ := cov_back hinv (hcov (L.setIfInBounds j true, s2) (by simp)) (by rw [hh]; exact hk0) hS1
        exact wpAnyH_take ho hsel hfree (by simpa using hjm) (fun c a w h => by cases h.1) hyi hS.rel.below (drawC_ok hcf hsel hok f l' s' hinv h _ t htm ρ _ w hSt hE)
      · cases hy
    · refine wpAnyH_all hr (by simp) fun i hi => ?_
      obtain ⟨y, hym, hye⟩ := (mapM_mem hy).1 i hi
      split at hye
      · rename_i s1 hs1
        cases hye
        obtain ⟨hk, _⟩ := stepA_some hcf hS hok hs1
        refine stepA_ok hcf hS hok hs1 fun a' w' ρ' he hS' => ⟨hS'.rel.below, ?_⟩
        obtain ⟨t, htm, hSt⟩ := cov_back hinv (hcov _ hym) (hk0.trans hk) hS'
        exact drawC_ok hcf hsel hok f l' s' hinv h _ t htm ρ' a' w' hSt (hE.trans he)
      · cases hye

/-! ### the last operation of a region may write old blocks -/

/-- what stands before a listed one is listed -/
def Dn (ops : Array Oper) (listed : Array Bool) : Prop := ∀ j o, ops[j]? = some o → listed.getD j false = true → ∀ e ∈ o.after, Region.binds .any e = true → listed.getD e.on false = true

theorem dn_set {ops : Array Oper} {listed : Array Bool} (h : Dn ops listed) {j : Nat} (hj : j ∈ Region.ready .any ops listed) : Dn ops (listed.setIfInBounds j true) := by
  intro k o ho hk e he hb
  obtain ⟨_, o', ho', hall⟩ := mem_ready.1 hj
  by_cases hjk : j = k
  · subst hjk
    rw [ho] at ho'
    cases ho'
    exact getD_set_true (hall e he hb)
  · rw [getD_set_ne false hjk] at hk
    exact getD_set_true (h k o ho hk e he hb)

theorem dn_start (ops : Array Oper) (n : Nat) : Dn ops (Array.replicate n false) := by
  intro j o _ h
  rw [Array.getD_eq_getD_getElem?, Array.getElem?_replicate] at h
  split at h <;> cases h

theorem pass_ok {ops : Array Oper} {A : Nat → Prop} (hA : ∀ j, A j → ∀ k ∈ depsOf ops j, A k) : ∀ (n : Nat) (l : List Nat), (∀ k ∈ l, A k) → ∀ k ∈ passA ops n l, A k
  | 0, l, h => h
  | n + 1, l, h => by
    unfold passA
    split
    · rename_i hc
      refine pass_ok hA n _ fun k hk => ?_
      rcases List.mem_append.1 hk with hk | hk
      · exact hA n (h n (by simpa using hc)) k hk
      · exact h k hk
    · exact pass_ok hA n l h

theorem under_ok {ops : Array Oper} {last : Nat} {listed : Array Bool} (hd : Dn ops listed) (hl : last ∈ Region.ready .any ops listed) {k : Nat} (hk : k ∈ under ops last) : k = last ∨ listed.getD k false = true := by
  refine pass_ok (A := fun k => k = last ∨ listed.getD k false = true) (fun j hj k hk => .inr ?_) _ [last] (fun k hk => .inl (by simpa using hk)) k hk
  unfold depsOf at hk
  split at hk
  case h_2 => simp at hk
  rename_i o ho
  obtain ⟨e, he, rfl⟩ := List.mem_map.1 hk
  simp only [List.mem_filter] at he
  rcases hj with rfl | hj
  · obtain ⟨_, o', ho', hall⟩ := mem_ready.1 hl
    rw [ho] at ho'
    cases ho'
    exact hall e (by simpa using he.1) he.2
  · exact hd j o ho hj e (by simpa using he.1) he.2

/-- whatever order is picked; 'S' holds behind every operation but the last -/
def wpAnyT (P : Program) (ops : Array Oper) (Q : Exit → Act → World → Prop) (S : World → Prop) (last : Nat) : Nat → Array Bool → Act → World → Prop
  | 0, listed, a, w => Region.ready .any ops listed = [] ∧ Q .normal a w
  | f + 1, listed, a, w =>
    (Region.ready .any ops listed = [] → Q .normal a w) ∧
    ∀ i ∈ Region.ready .any ops listed, wpOp P ops Q i (fun a' w' => (i ≠ last → listed.getD last false = false → S w') ∧ wpAnyT P ops Q S last f (listed.setIfInBounds i true) a' w') a w

theorem wpAny_of_T {ops : Array Oper} {Q : Exit → Act → World → Prop} {S : World → Prop} {last : Nat} : ∀ (f : Nat) (listed : Array Bool) (a : Act) (w : World), wpAnyT P ops Q S last f listed a w → wpAny P .any ops Q f listed a w
  | 0, _, _, _, h => h
  | f + 1, _, _, _, h => ⟨h.1, fun i hi => wpOp_mono (fun a' w' h' => wpAny_of_T f _ a' w' h'.2) (h.2 i hi)⟩

theorem wpAnyT_done {ops : Array Oper} {Q : Exit → Act → World → Prop} {S : World → Prop} {last : Nat} {listed : Array Bool} {a : Act} (hr : Region.ready .any ops listed = []) (h : Q .normal a w) : ∀ f, wpAnyT P ops Q S last f listed a w
  | 0 => ⟨hr, h⟩
  | _ + 1 => ⟨fun _ => h, by rw [hr]; simp⟩

theorem unlisted_of {ops : Array Oper} {listed : Array Bool} {i : Nat} (h : i ∈ Region.ready .any ops listed) : listed.getD i false = false := by
  have h0 := (mem_ready.1 h).1
  rcases Nat.lt_or_ge i listed.size with h' | h'
  · simp [h'] at h0 ⊢; exact h0
  · simp [Array.getElem?_eq_none h']

theorem listed_of {ops : Array Oper} {listed : Array Bool} {i : Nat} (h : i ∈ Region.ready .any ops listed) : (listed.setIfInBounds i true).getD i false = true := by
  have h0 := (mem_ready.1 h).1
  rcases Nat.lt_or_ge i listed.size with h' | h'
  · simp [h']
  · simp [Array.getElem?_eq_none h'] at h0

theorem wpAnyT_first {ops : Array Oper} {Q : Exit → Act → World → Prop} {S : World → Prop} {last : Nat} {i : Nat} {oi : Oper} {v : Value} (hi : ops[i]? = some oi) (hil : i ≠ last) (hu : i ∈ under ops last)
    (hsel : ∀ (j : Nat) (o : Oper) cs b, ops[j]? = some o → o.op ≠ .select cs b) (hQ : ∀ c a w, Q (.panic c) (a.put oi.dst v) w → Q (.panic c) a w) :
    ∀ (f : Nat) (listed : Array Bool) (a : Act) (w : World), Dn ops listed → listed.getD last false = false →
      (∀ j oj, ops[j]? = some oj → j ≠ i → listed.getD j true = false → (∀ e ∈ oj.after, Region.binds .any e = true → e.on ≠ i) → oi.apart ops oj = true) →
      i ∈ Region.ready .any ops listed → YieldsIf P ops S oi v a → S w →
      wpAnyT P ops Q S last f (listed.setIfInBounds i true) (a.put oi.dst v) w → wpAnyT P ops Q S last (f + 1) listed a w := by
  intro f
  induction f with
  | zero =>
    intro listed a w hdn hnl _ hr hy hS H
    refine ⟨fun h => (by rw [h] at hr; cases hr), fun j hj => ?_⟩
    by_cases hji : j = i
    · subst hji; exact hy.wpOp hi hS ⟨fun _ _ => hS, H⟩
    · have := ready_mono hj hji
      rw [H.1] at this
      cases this
  | succ f ih =>
    intro listed a w hdn hnl hfree hr hy hS H
    refine ⟨fun h => (by rw [h] at hr; cases hr), fun j hj => ?_⟩
    by_cases hji : j = i
    · subst hji; exact hy.wpOp hi hS ⟨fun _ _ => hS, H⟩
    · have hjl : j ≠ last := fun e => by
        subst e
        rcases under_ok hdn hj hu with h | h
        · exact hil h
        · rw [unlisted_of hr] at h; cases h
      have h1 := H.2 j (ready_mono hj hji)
      obtain ⟨hjun, oj, hoj, hall⟩ := mem_ready.1 hj
      have hnot : ∀ e ∈ oj.after, Region.binds .any e = true → e.on ≠ i := fun e he hb heq => by
        have h1 := hall e he hb
        rw [heq, unlisted_of hr] at h1
        cases h1
      have h2 := wpOp_putIf hoj (hfree j oj hoj hji hjun hnot) (fun cs b => hsel i oi cs b hi) (fun cs b => hsel j oj cs b hoj) hQ hy h1
      have hnl' : (listed.setIfInBounds i true).getD last false = false := by rw [getD_set_ne false hil]; exact hnl
      refine wpOp_mono (fun a' w' h3 => ⟨fun _ _ => h3.2.1 hjl hnl', ih (listed.setIfInBounds j true) a' w' (dn_set hdn hj) (by rw [getD_set_ne false hjl]; exact hnl) (fun k ok hk hki hun hno => ?_) (ready_mono hr (Ne.symm hji)) h3.1 (h3.2.1 hjl hnl') ?_⟩) h2
      · refine hfree k ok hk hki ?_ hno
        by_cases hjk : j = k
        · subst hjk; exact hjun
        · rw [getD_set_ne true hjk] at hun; exact hun
      · rw [Array.setIfInBounds_comm _ _ hji]
        exact h3.2.2

theorem wpAnyT_free {ops : Array Oper} {Q : Exit → Act → World → Prop} {S : World → Prop} {last : Nat} {i : Nat} {oi : Oper} {v : Value} (hi : ops[i]? = some oi) (hil : i ≠ last)
    (hsel : ∀ (j : Nat) (o : Oper) cs b, ops[j]? = some o → o.op ≠ .select cs b) (hQ : ∀ c a w, Q (.panic c) (a.put oi.dst v) w → Q (.panic c) a w) :
    ∀ (f : Nat) (listed : Array Bool) (a : Act) (w : World),
      (∀ j oj, ops[j]? = some oj → j ≠ i → listed.getD j true = false → (∀ e ∈ oj.after, Region.binds .any e = true → e.on ≠ i) → oi.apart ops oj = true) →
      i ∈ Region.ready .any ops listed → YieldsIf P ops (fun _ => True) oi v a → (listed.getD last false = false → S w) →
      wpAnyT P ops Q S last f (listed.setIfInBounds i true) (a.put oi.dst v) w → wpAnyT P ops Q S last (f + 1) listed a w := by
  intro f
  induction f with
  | zero =>
    intro listed a w _ hr hy hS H
    refine ⟨fun h => (by rw [h] at hr; cases hr), fun j hj => ?_⟩
    by_cases hji : j = i
    · subst hji; exact hy.wpOp hi trivial ⟨fun _ => hS, H⟩
    · have := ready_mono hj hji
      rw [H.1] at this
      cases this
  | succ f ih =>
    intro listed a w hfree hr hy hS H
    refine ⟨fun h => (by rw [h] at hr; cases hr), fun j hj => ?_⟩
    by_cases hji : j = i
    · subst hji; exact hy.wpOp hi trivial ⟨fun _ => hS, H⟩
    · have h1 := H.2 j (ready_mono hj hji)
      obtain ⟨hjun, oj, hoj, hall⟩ := mem_ready.1 hj
      have hnot : ∀ e ∈ oj.after, Region.binds .any e = true → e.on ≠ i := fun e he hb heq => by
        have h1 := hall e he hb
        rw [heq, unlisted_of hr] at h1
        cases h1
      have h2 := wpOp_putIf hoj (hfree j oj hoj hji hjun hnot) (fun cs b => hsel i oi cs b hi) (fun cs b => hsel j oj cs b hoj) hQ hy h1
      have hnl' : listed.getD last false = false → (listed.setIfInBounds i true).getD last false = false := fun h => by rw [getD_set_ne false hil]; exact h
      refine wpOp_mono (fun a' w' h3 => ⟨fun hjl hl => h3.2.1 hjl (hnl' hl), ih (listed.setIfInBounds j true) a' w' (fun k ok hk hki hun hno => ?_) (ready_mono hr (Ne.symm hji)) h3.1 (fun hl => ?_) ?_⟩) h2
      · refine hfree k ok hk hki ?_ hno
        by_cases hjk : j = k
        · subst hjk; exact hjun
        · rw [getD_set_ne true hjk] at hun; exact hun
      · by_cases hjl : j = last
        · subst hjl; rw [listed_of hj] at hl; cases hl
        · rw [getD_set_ne false hjl] at hl
          exact h3.2.1 hjl (hnl' hl)
      · rw [Array.setIfInBounds_comm _ _ hji]
        exact h3.2.2

theorem drawT_ok {cf : CF} (hcf : CFok P cf) {ops : Array Oper} (hsel : Region.noSelect ops = true) {last : Nat} (hlq : ∀ o, ops[last]? = some o → mayQuick o = false) {base : Nat} {ρ0 : Ren} {tgt : AS} {Q : Exit → Act → World → Prop} (hQ : ∀ e a w, Q e a w → e = .normal)
    (hfin : ∀ ρ a w, Ext ρ0 ρ → St P w0 D nt ρ tgt a w → ∀ K : Act → World → Prop, (∀ a' w', Q .normal a' w' → K a' w') → wpOp P ops Q last K a w) :
    ∀ (f : Nat) (listed : Array Bool) (ρ : Ren) (s s' : AS) (a : Act) (w : World), St P w0 D nt ρ s a w → okOps nt ops = true → Ext ρ0 ρ → Dn ops listed → listed.getD last false = false →
    drawA P cf ops base f (planT ops last (under ops last) f listed) s = some s' → (∀ ρ a w, St P w0 D nt ρ s' a w → St P w0 D nt ρ tgt a w) → wpAnyT P ops Q (Below w0.heap.size w0) last f listed a w
  | 0, listed, ρ, s, s', a, w, hS, _, hE, hdn, hnl, h, ht => by
    simp only [planT, drawA] at h
    cases h
  | f + 1, listed, ρ, s, s', a, w, hS, hok, hE, hdn, hnl, h, ht => by
    simp only [planT, drawA] at h
    cases hr : Region.ready .any ops listed with
    | nil =>
      simp only [hr] at h
      cases h
    | cons i0 rs =>
      simp only [hr] at h
      cases hdone : (i0 == last && rs.isEmpty) && (Region.ready .any ops (listed.setIfInBounds last true)).isEmpty with
      | true =>
        simp only [hdone] at h
        cases h
        simp only [Bool.and_eq_true, beq_iff_eq, List.isEmpty_iff] at hdone
        obtain ⟨⟨rfl, rfl⟩, hnil⟩ := hdone
        refine ⟨fun h => (by rw [hr] at h; cases h), fun i hi => ?_⟩
        rw [hr] at hi
        obtain rfl := List.mem_singleton.1 hi
        exact hfin ρ a w hE (ht _ _ _ hS) _ fun a' w' hq => ⟨fun h => absurd rfl h, wpAnyT_done hnil hq f⟩
      | false =>
      simp only [hdone] at h
      cases hfind : pick1 (firstT ops (under ops last) listed) (i0 :: rs) with
      | some j =>
        simp only [hfind] at h
        replace hfind := pick1_some hfind
        have hjm : j ∈ Region.ready .any ops listed := by rw [hr]; exact List.mem_of_find?_eq_some hfind
        have hfst := List.find?_some hfind
        have hfA : firstA ops listed j = true := by unfold firstT at hfst; exact (Bool.and_eq_true _ _ ▸ hfst).1
        clear hfst
        simp only [firstA, Bool.and_eq_true] at hfA
        have notlast : ∀ o, ops[j]? = some o → j ≠ last := fun o ho e => by
          subst e
          have := hfA.2
          rw [ho] at this
          simp only [hlq o ho] at this
          cases this
        cases hbel : (under ops last).contains j with
        | true =>
          simp only [hbel] at h
          cases hq : quickA P ops j s with
          | none => simp [hq] at h
          | some s2 =>
            simp only [hq] at h
            obtain ⟨o, v', ho, hy, hS1, hh⟩ := quickA_ok hS hok hq
            have hjl := notlast o ho
            have := drawT_ok hcf hsel hlq hQ hfin f _ ρ s2 s' _ w hS1 hok hE (dn_set hdn hjm) (by rw [getD_set_ne false hjl]; exact hnl) h ht
            exact wpAnyT_first ho hjl (by simpa using hbel) (Region.noSelect_spec hsel) (fun c a w h => by cases hQ _ _ _ h) f listed a w hdn hnl (Region.free_spec ho hfA.1) hjm hy hS.rel.below this
        | false =>
          simp only [hbel] at h
          cases hq : quickR P ops j s with
          | none => simp [hq] at h
          | some s2 =>
            simp only [hq] at h
            obtain ⟨o, v', ho, hy, hS1, hh⟩ := quickR_ok hS hok hq
            have hjl := notlast o ho
            have := drawT_ok hcf hsel hlq hQ hfin f _ ρ s2 s' _ w hS1 hok hE (dn_set hdn hjm) (by rw [getD_set_ne false hjl]; exact hnl) h ht
            exact wpAnyT_free ho hjl (Region.noSelect_spec hsel) (fun c a w h => by cases hQ _ _ _ h) f listed a w (Region.free_spec ho hfA.1) hjm hy (fun _ => hS.rel.below) this
      | none =>
        simp only [hfind] at h
        by_cases hcl : (i0 :: rs).contains last = true
        · simp only [hcl, if_true] at h
          cases h
        simp only [hcl, if_false, Bool.false_eq_true] at h
        split at h
        case h_2 => cases h
        rename_i e more hends
        split at h
        case h_2 => cases h
        rename_i hall
        cases h
        rw [List.map_map] at hends
        refine ⟨fun h => (by rw [hr] at h; cases h), fun i hi' => ?_⟩
        have hi := hi'
        rw [hr] at hi
        -- what the first order came to
        have hfirst : Keeps s.h s'.h ∧ ∀ k, s'.h.next ≤ k → s'.h.get k = none := by
          simp only [List.map_cons, List.cons.injEq, Function.comp_apply] at hends
          obtain ⟨he, _⟩ := hends
          split at he
          case h_2 => cases he
          rename_i s1 hs1
          obtain ⟨hk, ρ1, a1, w1, _, hS1⟩ := stepA_some hcf hS hok hs1
          obtain ⟨hk2, ρ2, a2, w2, _, hS2⟩ := drawA_some hcf f _ ρ1 s1 s' a1 w1 hS1 hok he
          exact ⟨hk.trans hk2, hS2.rel.top⟩
        have hmem : (match stepA P cf ops s.h.next (base + i) i s with | some s' => drawA P cf ops base f (planT ops last (under ops last) f (listed.setIfInBounds i true)) s' | none => none) ∈ (some s' :: more) := by
          rw [← hends]
          exact List.mem_map_of_mem (f := (fun ip : Nat × Plan => match stepA P cf ops s.h.next (base + ip.1) ip.1 s with | some s' => drawA P cf ops base f ip.2 s' | none => none) ∘ fun j => (j, planT ops last (under ops last) f (listed.setIfInBounds j true))) hi
        cases hs1 : stepA P cf ops s.h.next (base + i) i s with
        | none =>
          rw [hs1] at hmem
          simp only [List.mem_cons, reduceCtorEq, false_or] at hmem
          have := List.all_eq_true.1 hall _ hmem
          cases this
        | some s1 =>
          rw [hs1] at hmem
          simp only [] at hmem
          obtain ⟨hk, _⟩ := stepA_some hcf hS hok hs1
          refine stepA_ok hcf hS hok hs1 fun a' w' ρ' he hS' => ⟨fun _ _ => hS'.rel.below, ?_⟩
          cases hd : drawA P cf ops base f (planT ops last (under ops last) f (listed.setIfInBounds i true)) s1 with
          | none =>
            rw [hd] at hmem
            simp only [List.mem_cons, reduceCtorEq, false_or] at hmem
            have := List.all_eq_true.1 hall _ hmem
            cases this
          | some e1 =>
            rw [hd] at hmem
            obtain ⟨hk2, _⟩ := drawA_some hcf f _ ρ' s1 e1 a' w' hS' hok hd
            refine drawT_ok hcf hsel hlq hQ hfin f _ ρ' s1 e1 a' w' hS' hok (hE.trans he) (dn_set hdn hi') (by rw [getD_set_ne false (fun e => hcl (by rw [← e]; simpa using hi))]; exact hnl) hd fun ρ2 a2 w2 hS2 => ?_
            rcases List.mem_cons.1 hmem with hm | hm
            · cases hm; exact ht _ _ _ hS2
            · have := List.all_eq_true.1 hall _ hm
              simp only [] at this
              exact ht _ _ _ (asEq_ok this hfirst.1 (hk.trans hk2) hfirst.2 hS2)

theorem drawF_ok {cf : CF} (hcf : CFok P cf) {ops : Array Oper} (hsel : Region.noSelect ops = true) {base : Nat} {ρ0 : Ren} {tgt : AS} :
    ∀ (f : Nat) (listed : Array Bool) (ρ : Ren) (s s' : AS) (a : Act) (w : World), St P w0 D nt ρ s a w → okOps nt ops = true → Ext ρ0 ρ →
    drawA P cf ops base f (planF ops f listed) s = some s' → (∀ ρ a w, St P w0 D nt ρ s' a w → St P w0 D nt ρ tgt a w) → wpAnyT P ops (Ends P w0 D nt ρ0 tgt) (fun _ => True) ops.size f listed a w
  | 0, listed, ρ, s, s', a, w, hS, _, hE, h, ht => by
    simp only [planF, drawA] at h
    split at h
    · rename_i hp
      split at hp
      · rename_i hr
        cases h
        exact ⟨hr, rfl, ρ, hE, ht _ _ _ hS⟩
      · cases hp
    · cases h
  | f + 1, listed, ρ, s, s', a, w, hS, hok, hE, h, ht => by
    simp only [planF, drawA] at h
    cases hr : Region.ready .any ops listed with
    | nil =>
      simp only [hr] at h
      cases h
      exact wpAnyT_done hr ⟨rfl, ρ, hE, ht _ _ _ hS⟩ _
    | cons i0 rs =>
      simp only [hr] at h
      cases hfind : pick1 (firstT ops [] listed) (i0 :: rs) with
      | some j =>
        simp only [hfind] at h
        replace hfind := pick1_some hfind
        have hjm : j ∈ Region.ready .any ops listed := by rw [hr]; exact List.mem_of_find?_eq_some hfind
        have hfst := List.find?_some hfind
        have hfA : firstA ops listed j = true := by unfold firstT at hfst; exact (Bool.and_eq_true _ _ ▸ hfst).1
        clear hfst
        simp only [firstA, Bool.and_eq_true] at hfA
        cases hq : quickR P ops j s with
        | none => simp [hq] at h
        | some s2 =>
          simp only [hq] at h
          obtain ⟨o, v', ho, hy, hS1, hh⟩ := quickR_ok hS hok hq
          have hjl : j ≠ ops.size := Nat.ne_of_lt (Array.getElem?_eq_some_iff.1 ho).1
          have := drawF_ok hcf hsel f _ ρ s2 s' _ w hS1 hok hE h ht
          exact wpAnyT_free ho hjl (Region.noSelect_spec hsel) (fun c a w h => by cases h.1) f listed a w (Region.free_spec ho hfA.1) hjm hy (fun _ => trivial) this
      | none =>
        simp only [hfind] at h
        split at h
        case h_2 => cases h
        rename_i e more hends
        split at h
        case h_2 => cases h
        rename_i hall
        cases h
        rw [List.map_map] at hends
        refine ⟨fun h => (by rw [hr] at h; cases h), fun i hi' => ?_⟩
        have hi := hi'
        rw [hr] at hi
        -- what the first order came to
        have hfirst : Keeps s.h s'.h ∧ ∀ k, s'.h.next ≤ k → s'.h.get k = none := by
          simp only [List.map_cons, List.cons.injEq, Function.comp_apply] at hends
          obtain ⟨he, _⟩ := hends
          split at he
          case h_2 => cases he
          rename_i s1 hs1
          obtain ⟨hk, ρ1, a1, w1, _, hS1⟩ := stepA_some hcf hS hok hs1
          obtain ⟨hk2, ρ2, a2, w2, _, hS2⟩ := drawA_some hcf f _ ρ1 s1 s' a1 w1 hS1 hok he
          exact ⟨hk.trans hk2, hS2.rel.top⟩
        have hmem : (match stepA P cf ops s.h.next (base + i) i s with | some s' => drawA P cf ops base f (planF ops f (listed.setIfInBounds i true)) s' | none => none) ∈ (some s' :: more) := by
          rw [← hends]
          exact List.mem_map_of_mem (f := (fun ip : Nat × Plan => match stepA P cf ops s.h.next (base + ip.1) ip.1 s with | some s' => drawA P cf ops base f ip.2 s' | none => none) ∘ fun j => (j, planF ops f (listed.setIfInBounds j true))) hi
        cases hs1 : stepA P cf ops s.h.next (base + i) i s with
        | none =>
          rw [hs1] at hmem
          simp only [List.mem_cons, reduceCtorEq, false_or] at hmem
          have := List.all_eq_true.1 hall _ hmem
          cases this
        | some s1 =>
          rw [hs1] at hmem
          simp only [] at hmem
          obtain ⟨hk, _⟩ := stepA_some hcf hS hok hs1
          refine stepA_ok hcf hS hok hs1 fun a' w' ρ' he hS' => ⟨fun _ _ => trivial, ?_⟩
          cases hd : drawA P cf ops base f (planF ops f (listed.setIfInBounds i true)) s1 with
          | none =>
            rw [hd] at hmem
            simp only [List.mem_cons, reduceCtorEq, false_or] at hmem
            have := List.all_eq_true.1 hall _ hmem
            cases this
          | some e1 =>
            rw [hd] at hmem
            obtain ⟨hk2, _⟩ := drawA_some hcf f _ ρ' s1 e1 a' w' hS' hok hd
            refine drawF_ok hcf hsel f _ ρ' s1 e1 a' w' hS' hok (hE.trans he) hd fun ρ2 a2 w2 hS2 => ?_
            rcases List.mem_cons.1 hmem with hm | hm
            · cases hm; exact ht _ _ _ hS2
            · have := List.all_eq_true.1 hall _ hm
              simp only [] at this
              exact ht _ _ _ (asEq_ok this hfirst.1 (hk.trans hk2) hfirst.2 hS2)

theorem Rel.more {H : Hp} (h : Rel P w0 ρ H w) (n : Nat) : Rel P w0 ρ { H with next := H.next + n } w :=
  ⟨h.below, h.fresh, fun k hk => h.top k (Nat.le_trans (Nat.le_add_right _ _) hk), Nat.le_trans h.lo (Nat.le_add_right _ _), h.blk, h.old, h.own, h.inj⟩

theorem region_back {s s' : AS} {m : Nat} {a a' : Act} {w w' : World} {ρ' : Ren} (hS : St P w0 D nt ρ s a w) (hS' : St P w D nt ρ' s' a' w') (he : Ext ρ ρ') (hk : Keeps { s.h with lo := s.h.next, next := s.h.next + m } s'.h) :
    St P w0 D nt ρ' ⟨s'.t, { s'.h with lo := s.h.lo }⟩ a' w' ∧ Keeps s.h { s'.h with lo := s.h.lo } := by
  obtain ⟨h1, h2⟩ := hS.rel.back hS'.rel he hk.lo (fun k hk' => hk.get k hk') hk.stat
  exact ⟨⟨h1, hS'.tm, hS'.defers⟩, h2⟩


/-! ### in a round, or not -/

/-- the fence that lets all in, in a round or not -/
def Wd (r : Option Nat) : Fence := { Fence.wide with round := r }

theorem calls_in {r : Option Nat} {f : FuncId} {args : Array Value} {R : Ending → World → Prop} (h : Calls P f args w R) : CallsIn (Wd r) 0 P f args w R := callsIn_wide.2 h
theorem in_calls {f : FuncId} {args : Array Value} {R : Ending → World → Prop} (h : CallsIn (Wd none) 0 P f args w R) : Calls P f args w R := callsIn_wide.1 h

theorem rows_in {r : Option Nat} {row : String} {args : Array Value} {R : Value → World → Prop} (h : Rows P row args w R) : RowsIn (Wd r) 0 P row args w R := fun c cs _ => by
  obtain ⟨v, w', hr, hs⟩ := h c cs
  exact ⟨v, w', hr, stepsIn_wide.2 hs⟩

theorem op_in {r : Option Nat} {o : Oper} {a : Act} {K : Act → World → Prop} {Q : Exit → Act → World → Prop} (hd : ∀ c, o.op ≠ .defer c) (h : o.wp P a w K Q) : o.wpIn (Wd r) 0 P a w K Q := by
  refine ⟨fun _ _ => trivial, ?_⟩
  rw [Oper.semAt_eq _ _ _ hd]
  unfold Oper.wp at h
  generalize (execOp a.eval o).run P w = res at h
  cases res with
  | ok x w' =>
    cases x with
    | value v => exact h
    | skip => exact h
    | defer d => exact h
    | enter f args => exact ⟨fun he => by simp [Wd, Fence.wide] at he, calls_in h⟩
    | row row args => exact ⟨fun he => by simp [Wd, Fence.wide] at he, rows_in h⟩
    | _ => exact h.elim
  | halt x w' =>
    cases x with
    | panic v => exact h
    | _ => exact h.elim

theorem noDefer_spec {ops : Array Oper} (h : noDefer ops = true) {i : Nat} {o : Oper} (ho : ops[i]? = some o) : ∀ c, o.op ≠ .defer c := fun c e => by
  have := List.all_eq_true.1 h o (List.mem_of_getElem? (by simpa using ho))
  rw [e] at this
  cases this

theorem wpOp_in {r : Option Nat} {ops : Array Oper} {Q : Exit → Act → World → Prop} (hd : noDefer ops = true) (hQ : ¬ LetsOut Q) {i : Nat} {K : Act → World → Prop} {a : Act} (h : wpOp P ops Q i K a w) : wpOpIn (Wd r) 0 P ops Q i K a w := by
  unfold wpOp at h
  unfold wpOpIn
  split at h
  · rename_i ho; simp only [ho]; exact h
  · rename_i o ho
    simp only [ho]
    split at h
    · rename_i hw
      rw [if_pos hw]
      rcases h with h | ⟨_, h⟩
      · exact op_in (noDefer_spec hd ho) h
      · exact absurd h hQ
    · rename_i hw
      rw [if_neg hw]
      exact ⟨fun _ _ => trivial, h⟩

theorem wpAny_in {r : Option Nat} {md : Region.Mode} {ops : Array Oper} {Q : Exit → Act → World → Prop} (hd : noDefer ops = true) (hQ : ¬ LetsOut Q) : ∀ (f : Nat) (listed : Array Bool) (a : Act) (w : World),
    wpAny P md ops Q f listed a w → wpAnyIn (Wd r) 0 P md ops Q f listed a w
  | 0, _, _, _, h => h
  | f + 1, _, _, _, h => ⟨h.1, fun i hi => wpOp_in hd hQ (wpOp_mono (fun a' w' h' => wpAny_in hd hQ f _ a' w' h') (h.2 i hi))⟩

/-- a round, by its loop and arguments -/
def YFok (P : Program) (yf : YF) : Prop := ∀ l args h v h', yf l args h = some (v, h') → ∀ w0 ρ w args' p, Rel P w0 ρ h w → VRs ρ args args' → ρ l = some p →
  Keeps h h' ∧ ∃ f tmps assign body, (Instr.yield p.real ⟨args'⟩).run P w = .ok (.round p.real f tmps assign body) w ∧
    RoundIn Fence.wide 0 P p.real f tmps assign body w fun e w' => ∃ v' ρ', e = .returned v' ∧ VR ρ' v v' ∧ Ext ρ ρ' ∧ Rel P w0 ρ' h' w'

theorem yield_ok {ev ev' : Operand → Value} {o : Oper} (hE : Evs ρ ev ev' o) {l : Nat} {args : List Value} (h : yield? ev o = some (l, args)) :
    ∃ p args', ρ l = some p ∧ VRs ρ args args' ∧ ∀ w nx, (Instr.yield p.real ⟨args'⟩).run P w = .ok nx w → (execOp ev' o).run P w = .ok nx w := by
  unfold yield? at h
  split at h
  case h_2 => cases h
  rename_i c ho
  split at h
  case h_2 => cases h
  rename_i fv hc
  split at h
  case h_2 => cases h
  rename_i g first captured hv
  simp only [Option.some.injEq, Prod.mk.injEq] at h
  obtain ⟨rfl, rfl⟩ := h
  have hf : VR ρ (ev fv) (ev' fv) := hE fv (by rw [ho]; simp [Op.operands, Call.operands, hc])
  rw [hv] at hf
  obtain ⟨p, ef, hp⟩ := hf.yield_inv
  have hargs : ∀ x ∈ c.args.toList, VR ρ (ev x) (ev' x) := fun x hx => hE x (by rw [ho]; simp [Op.operands, Call.operands, hc]; exact .inr (by simpa using hx))
  refine ⟨p, c.args.toList.map ev', hp, VRs.map hargs, fun w nx hr => ?_⟩
  have e : c.args.map ev' = ⟨c.args.toList.map ev'⟩ := by apply Array.ext'; simp
  simp only [execOp, ho, resolve, hc, ef, Deferred.ofValue, Sem.run_bind, Sem.run_pure, Result.andThen_ok, invoke, Array.empty_append, e, hr]

theorem seqY_ok {cf : CF} {yf : YF} (hcf : CFok P cf) (hyf : YFok P yf) {r : Option Nat} {ops : Array Oper} (hd : noDefer ops = true) {Q : Exit → Act → World → Prop} : ∀ (l : List Nat) (ρ : Ren) (s s' : AS) (a : Act) (w : World), St P w0 D nt ρ s a w → okOps nt ops = true → seqY P cf yf ops l s = some s' →
    (∀ a' w' ρ', Ext ρ ρ' → St P w0 D nt ρ' s' a' w' → Q .normal a' w') → wpOpsIn (Wd r) 0 P ops Q l a w
  | [], ρ, s, s', a, w, hS, _, h, hQ => by simp [seqY] at h; subst h; exact hQ a w ρ (Ext.refl _) hS
  | i :: l, ρ, s, s', a, w, hS, hok, h, hQ => by
    simp only [seqY] at h
    cases ho : ops[i]? with
    | none => simp [ho] at h
    | some o =>
      simp only [ho] at h
      obtain ⟨h1, h2, h3⟩ := okOps_spec hok ho
      have hy := yielded_ok hS.tm h3
      simp only [wpOpsIn, ho]
      split at h
      · rename_i lp args hyd
        split at hyd
        case isFalse => cases hyd
        rename_i hw
        rw [← hy] at hw
        rw [if_pos hw]
        split at h
        case h_2 => cases h
        rename_i v h1' hv
        obtain ⟨p, args', hp, hargs, hrun⟩ := yield_ok (P := P) (evs_of hS.tm h1) hyd
        obtain ⟨_, f, tmps, assign, body, hyr, hround⟩ := hyf lp args s.h v h1' hv w0 ρ w args' p hS.rel hargs hp
        refine ⟨fun _ _ => trivial, ?_⟩
        rw [Oper.semAt_eq _ _ _ (noDefer_spec hd ho), hrun w _ hyr]
        refine ⟨fun he => by simp [Wd, Fence.wide] at he, RoundIn.mono (F := Wd r) hround ?_⟩
        rintro e w' ⟨v', ρ', rfl, hvv, he, hR⟩
        exact seqY_ok hcf hyf hd l ρ' _ s' _ w' ⟨hR, (hS.tm.ext he).put hvv h2, by rw [put_defers]; exact hS.defers⟩ hok h fun a2 w2 ρ2 he2 hS2 => hQ a2 w2 ρ2 (he.trans he2) hS2
      · split at h
        case h_2 => cases h
        rename_i s1 hs
        have := stepA_ok (K := wpOpsIn (Wd r) 0 P ops Q l) (Q := fun e a w => e = .normal ∧ Q e a w) hcf hS hok hs fun a' w' ρ' he hS' =>
          seqY_ok hcf hyf hd l ρ' s1 s' a' w' hS' hok h fun a2 w2 ρ2 he2 hS2 => hQ a2 w2 ρ2 (he.trans he2) hS2
        have h4 := wpOp_in (r := r) hd (fun ⟨_, _, hx⟩ => by cases hx.1) this
        unfold wpOpIn at h4
        simp only [ho] at h4
        split at h4
        · rename_i hw
          rw [if_pos hw]
          refine ⟨h4.1, ?_⟩
          have h5 := h4.2
          generalize (o.semAt (Wd r).round a.eval).run P w = res at h5 ⊢
          cases res with
          | ok x w' =>
            cases x with
            | enter f args =>
              refine ⟨h5.1, CallsIn.mono h5.2 fun e w'' he => ?_⟩
              cases e with
              | returned u => exact he
              | panicked c => cases he.1
              | outgrown => obtain ⟨_, _, he⟩ := he; cases he.1
            | round l' f tmps assign body =>
              refine ⟨h5.1, RoundIn.mono h5.2 fun e w'' he => ?_⟩
              cases e with
              | returned u => exact he
              | panicked c => cases he.1
              | outgrown => obtain ⟨_, _, he⟩ := he; cases he.1
            | _ => exact h5
          | halt x w' =>
            cases x with
            | panic v => cases h5.1
            | _ => exact h5
        · rename_i hw
          rw [if_neg hw]
          exact h4

theorem seqY_some {cf : CF} {yf : YF} (hcf : CFok P cf) (hyf : YFok P yf) {ops : Array Oper} : ∀ (l : List Nat) (ρ : Ren) (s s' : AS) (a : Act) (w : World), St P w0 D nt ρ s a w → okOps nt ops = true → seqY P cf yf ops l s = some s' →
    Keeps s.h s'.h ∧ ∃ ρ' a' w', Ext ρ ρ' ∧ St P w0 D nt ρ' s' a' w'
  | [], ρ, s, s', a, w, hS, _, h => by simp [seqY] at h; subst h; exact ⟨Keeps.refl _, ρ, a, w, Ext.refl _, hS⟩
  | i :: l, ρ, s, s', a, w, hS, hok, h => by
    simp only [seqY] at h
    cases ho : ops[i]? with
    | none => simp [ho] at h
    | some o =>
      simp only [ho] at h
      obtain ⟨h1, h2, h3⟩ := okOps_spec hok ho
      split at h
      · rename_i lp args hyd
        split at hyd
        case isFalse => cases hyd
        split at h
        case h_2 => cases h
        rename_i v h1' hv
        obtain ⟨p, args', hp, hargs, hrun⟩ := yield_ok (P := P) (evs_of hS.tm h1) hyd
        obtain ⟨hk, f, tmps, assign, body, hyr, hround⟩ := hyf lp args s.h v h1' hv w0 ρ w args' p hS.rel hargs hp
        obtain ⟨e, w', ⟨v', ρ', rfl, hvv, he, hR⟩, _⟩ := hround.2 default [] (room_wide _)
        obtain ⟨hk2, ρ2, a2, w2, he2, hS2⟩ := seqY_some hcf hyf l ρ' _ s' (a.put o.dst v') w' ⟨hR, (hS.tm.ext he).put hvv h2, by rw [put_defers]; exact hS.defers⟩ hok h
        exact ⟨hk.trans hk2, ρ2, a2, w2, he.trans he2, hS2⟩
      · split at h
        case h_2 => cases h
        rename_i s1 hs
        obtain ⟨hk, ρ1, a1, w1, he1, hS1⟩ := stepA_some hcf hS hok hs
        obtain ⟨hk2, ρ2, a2, w2, he2, hS2⟩ := seqY_some hcf hyf l ρ1 s1 s' a1 w1 hS1 hok h
        exact ⟨hk.trans hk2, ρ2, a2, w2, he1.trans he2, hS2⟩

theorem region_ok {cf : CF} {yf : YF} (hcf : CFok P cf) (hyf : YFok P yf) {r : Option Nat} {id : Nat} {ops : Array Oper} {draw : Bool} {s s' : AS} {a : Act} (hS : St P w0 D nt ρ s a w) (h : regionY P cf yf nt ops draw s = some s') :
    (Code.region id ops draw).wpIn (Wd r) 0 P (Ends P w0 D nt ρ s') a w ∧ Keeps s.h s'.h ∧ ∃ ρ' a' w', Ext ρ ρ' ∧ St P w0 D nt ρ' s' a' w' := by
  unfold regionY at h
  split at h
  case h_1 => cases h
  rename_i hnd
  split at h
  · split at h
    case h_2 => cases h
    rename_i hok
    obtain ⟨hk, hx⟩ := seqY_some hcf hyf _ ρ s s' a w hS hok h
    exact ⟨wpIn_region (seqY_ok hcf hyf hnd _ ρ s s' a w hS hok h fun a' w' ρ' he hS' => ⟨rfl, ρ', he, hS'⟩), hk, hx⟩
  · unfold regionA at h
    split at h
    case h_1 => cases h
    rename_i hok
    simp only [] at h
    split at h
    case h_1 => cases h
    rename_i hms
    simp only [Bool.and_eq_true] at hms
    have hSd : St P w0 D nt ρ s a w.drew := ⟨hS.rel.drew, hS.tm, hS.defers⟩
    split at h
    · rename_i hlex
      split at h
      case h_2 => cases h
      rename_i s1 hl
      cases h
      simp only [Bool.and_eq_true] at hlex
      replace hlex := hlex.1
      have hSb : St P w.drew D nt ρ ⟨s.t, { s.h with lo := s.h.next }⟩ a w.drew := ⟨by have := hSd.rel.rebase 0; exact this, hS.tm, hS.defers⟩
      simp only [Region.lexB, Bool.and_eq_true] at hlex
      obtain ⟨h1, h2, a1, h4⟩ := lexA_ok hms.2 ops.size 0 (Array.replicate ops.size false) ρ _ s1 a w.drew hSb hok hlex.2 hl
      have hk : Keeps { s.h with lo := s.h.next, next := s.h.next + 0 } s1.h := by rw [h2]; exact Keeps.refl _
      refine ⟨wpIn_mono (wpIn_region_any hms.1 (wpAny_in hnd (fun ⟨_, _, hx⟩ => by cases hx.1) _ _ _ _ (wpAny_of_held _ _ _ _ h1))) fun e a2 w2 h => ?_, ?_⟩
      · obtain ⟨rfl, ρ2, he, hS2⟩ := h
        exact ⟨rfl, ρ2, he, (region_back hSd hS2 he hk).1⟩
      · obtain ⟨x, y⟩ := region_back hSd h4 (Ext.refl ρ) hk
        exact ⟨y, ρ, a1, w.drew, Ext.refl _, x⟩
    · split at h
      · rename_i htail
        split at h
        case h_2 => cases h
        rename_i s1 hd
        have hSb : St P w.drew D nt ρ ⟨s.t, { s.h with lo := s.h.next, next := s.h.next + ops.size }⟩ a w.drew := ⟨hSd.rel.rebase ops.size, hS.tm, hS.defers⟩
        obtain ⟨hk, ρ1, a1, w1, he1, hS1⟩ := drawA_some hcf ops.size _ ρ _ s1 a w.drew hSb hok hd
        have htail' := htail
        unfold tailOk at htail'
        cases ho : ops[ops.size - 1]? with
        | none => simp [ho] at htail'
        | some ol =>
        simp only [ho, Bool.and_eq_true] at htail'
        have hlq : ∀ o, ops[ops.size - 1]? = some o → mayQuick o = false := fun o e => by
          rw [ho] at e
          cases e
          have := htail'.1
          unfold isWrite at this
          unfold mayQuick
          split at this <;> rename_i hop <;> first | (rw [hop]) | cases this
        have hwp := drawT_ok hcf hms.2 hlq (ρ0 := ρ) (tgt := s1) (Q := Ends P w0 D nt ρ s') (fun e a w h => h.1) (fun ρ2 a2 w2 he hS2 K hK =>
            stepA_ok hcf (region_back hSd hS2 he hk).1 hok h fun a3 w3 ρ3 he3 hS3 => hK a3 w3 ⟨rfl, ρ3, he.trans he3, hS3⟩)
          ops.size _ ρ _ s1 a w.drew hSb hok (Ext.refl ρ) (dn_start ops ops.size) (by rw [Array.getD_eq_getD_getElem?, Array.getElem?_replicate]; split <;> rfl) hd (fun _ _ _ h => h)
        refine ⟨wpIn_region_any hms.1 (wpAny_in hnd (fun ⟨_, _, hx⟩ => by cases hx.1) _ _ _ _ (wpAny_of_T _ _ _ _ hwp)), ?_⟩
        obtain ⟨x, y⟩ := region_back hSd hS1 he1 hk
        obtain ⟨hk3, ρ3, a3, w3, he3, hS3⟩ := stepA_some hcf x hok h
        exact ⟨y.trans hk3, ρ3, a3, w3, he1.trans he3, hS3⟩
      split at h
      case h_2 =>
        have hSm : St P w0 D nt ρ ⟨s.t, { s.h with next := s.h.next + ops.size }⟩ a w.drew := ⟨hSd.rel.more ops.size, hS.tm, hS.defers⟩
        obtain ⟨hk, hx⟩ := drawA_some hcf ops.size _ ρ _ s' a w.drew hSm hok h
        have hwp := drawF_ok hcf hms.2 (ρ0 := ρ) (tgt := s') ops.size _ ρ _ s' a w.drew hSm hok (Ext.refl ρ) h (fun _ _ _ h => h)
        refine ⟨wpIn_region_any hms.1 (wpAny_in hnd (fun ⟨_, _, hx⟩ => by cases hx.1) _ _ _ _ (wpAny_of_T _ _ _ _ hwp)), ⟨hk.lo, Nat.le_trans (Nat.le_add_right _ _) hk.next, hk.get, hk.stat⟩, hx⟩
      rename_i s1 hd
      cases h
      have hSb : St P w.drew D nt ρ ⟨s.t, { s.h with lo := s.h.next, next := s.h.next + ops.size }⟩ a w.drew := ⟨hSd.rel.rebase ops.size, hS.tm, hS.defers⟩
      have hin : ∀ x ∈ [(Array.replicate ops.size false, (⟨s.t, { s.h with lo := s.h.next, next := s.h.next + ops.size }⟩ : AS))], Inv P w.drew D nt ρ { s.h with lo := s.h.next, next := s.h.next + ops.size } x := fun x hx => by
        simp at hx
        subst hx
        exact ⟨Keeps.refl _, ρ, a, w.drew, Ext.refl _, hSb⟩
      obtain ⟨hk, ρ1, a1, w1, he1, hS1⟩ := drawC_some hcf hok ops.size _ s1 hin hd
      have hwp := drawC_ok hcf hms.2 hok ops.size _ s1 hin hd _ _ (List.mem_singleton.2 rfl) ρ a w.drew hSb (Ext.refl ρ)
      refine ⟨wpIn_mono (wpIn_region_any hms.1 (wpAny_in hnd (fun ⟨_, _, hx⟩ => by cases hx.1) _ _ _ _ (wpAny_of_held _ _ _ _ hwp))) fun e a2 w2 h => ?_, ?_⟩
      · obtain ⟨rfl, ρ2, he, hS2⟩ := h
        exact ⟨rfl, ρ2, he, (region_back hSd hS2 he hk).1⟩
      · obtain ⟨x, y⟩ := region_back hSd hS1 he1 hk
        exact ⟨y, ρ1, a1, w1, he1, x⟩
end
end Go.Ab
