/- Regions. A region that draws, some of its operations not quick; code; calls. Code; calls. -/
import Derived.Test.YtkajcbjacjfhnaaXi
namespace Go.Ab
open Go Go.RowKit
section
variable {P : Program} {ρ : Ren} {w0 w : World} {nt : Nat}

/-- what a frame and a world are, read abstractly -/
structure St (P : Program) (w0 : World) (nt : Nat) (ρ : Ren) (s : AS) (a : Act) (w : World) : Prop where
  rel : Rel P w0 ρ s.h w
  tm : TmR ρ nt s.t a.tmps
  defers : a.defers = []

theorem TmR.put {t : Tm} {a : Act} (h : TmR ρ nt t a.tmps) {dst : Option Tmp} {v v' : Value} (hv : VR ρ v v') (hd : ∀ d, dst = some d → d < nt ∧ d < 2 ^ 15) : TmR ρ nt (aput t dst v) (a.put dst v').tmps := by
  cases dst with
  | none => exact h
  | some d =>
    obtain ⟨h1, h2⟩ := hd d rfl
    refine ⟨by simp [Act.put]; exact h.1, fun i hi => ?_⟩
    show VR ρ (getT (Tre.set 16 t d v) i) ((a.tmps.setIfInBounds d v').getD i undef)
    have hsz : d < a.tmps.size := by rw [← h.1]; exact h1
    by_cases e : i = d
    · subst e
      have : getT (Tre.set 16 t i v) i = v := by
        unfold getT
        simp only [Tre.get_set_same 15 t i v h2]
      rw [this]
      simpa [hsz] using hv
    · have : getT (Tre.set 16 t d v) i = getT t i := by
        unfold getT
        simp only [Tre.get_set_other 16 t d i v e]
      rw [this]
      have := h.2 i hi
      simpa [Array.getElem?_setIfInBounds_ne (Ne.symm e)] using this

theorem put_defers (a : Act) (dst : Option Tmp) (v : Value) : (a.put dst v).defers = a.defers := by cases dst <;> rfl

theorem yielded_ok {ops : Array Oper} {t : Tm} {a : Act} (h : TmR ρ nt t a.tmps) {o : Oper} (hg : ∀ j b, o.guard = some (j, b) → ∀ d, (ops[j]?).bind (·.dst) = some d → d < nt) :
    Region.wanted o (yielded ops a.tmps) = Region.wanted o (ayielded ops t) := by
  unfold Region.wanted
  cases hgd : o.guard with
  | none => rfl
  | some jb =>
    obtain ⟨j, b⟩ := jb
    simp only []
    congr 1
    unfold yielded ayielded
    cases hd : (ops[j]?).bind (·.dst) with
    | none => simp
    | some d =>
      have hlt := hg j b hgd d hd
      have hsz : d < a.tmps.size := by rw [← h.1]; exact hlt
      have hv := h.2 d hlt
      simp only [Option.bind_some]
      have e : a.tmps[d]? = some (a.tmps.getD d undef) := by simp [hsz]
      rw [e]
      revert hv
      generalize getT t d = x
      generalize a.tmps.getD d undef = y
      intro hv
      cases hv <;> rfl

theorem okOps_spec {n : Nat} {ops : Array Oper} (h : okOps n ops = true) {i : Nat} {o : Oper} (ho : ops[i]? = some o) :
    o.op.operands.toList.all (okOpd n) = true ∧ (∀ d, o.dst = some d → d < n ∧ d < 2 ^ 15) ∧ (∀ j b, o.guard = some (j, b) → ∀ d, (ops[j]?).bind (·.dst) = some d → d < n) := by
  have hm : o ∈ ops.toList := List.mem_of_getElem? (by simpa using ho)
  have := List.all_eq_true.1 h o hm
  simp only [Bool.and_eq_true] at this
  obtain ⟨⟨h1, h2⟩, h3⟩ := this
  refine ⟨h1, fun d hd => ?_, fun j b hg d hd => ?_⟩
  · rw [hd] at h2; simpa using h2
  · rw [hg] at h3
    simp only [] at h3
    rw [hd] at h3
    simpa using h3

/-- a call, by its function and arguments -/
def CFok (P : Program) (cf : CF) : Prop := ∀ f args h v h', cf f args h = some (v, h') → ∀ w0 ρ w args', Rel P w0 ρ h w → VRs ρ args args' →
  Keeps h h' ∧ Calls P f ⟨args'⟩ w fun e w' => ∃ v' ρ', e = .returned v' ∧ VR ρ' v v' ∧ Ext ρ ρ' ∧ Rel P w0 ρ' h' w'

theorem wp_did {o : Oper} {a : Act} {v : Value} {H H' : Hp} {K : Act → World → Prop} {Q : Exit → Act → World → Prop} (h : Did P w0 ρ H w (execOp a.eval o) v H')
    (hK : ∀ v' w' ρ', VR ρ' v v' → Ext ρ ρ' → Rel P w0 ρ' H' w' → K (a.put o.dst v') w') : o.wp P a w K Q := by
  obtain ⟨nx, v', w', ρ', hr, hn, hv, he, hR, _⟩ := h
  unfold Oper.wp
  rw [hr]
  rcases hn with rfl | ⟨rfl, rfl⟩
  · exact hK v' w' ρ' hv he hR
  · exact hK undef w' ρ' hv he hR

theorem callee_ok {ev ev' : Operand → Value} {o : Oper} (hE : Evs ρ ev ev' o) {f : FuncId} {args : List Value} (h : callee? ev o = some (f, args)) (he : enters P f = true) :
    ∃ args', VRs ρ args args' ∧ ∀ w, (execOp ev' o).run P w = .ok (.enter f ⟨args'⟩) w := by
  unfold callee? at h
  split at h
  case h_2 => cases h
  rename_i c ho
  split at h
  case h_2 => cases h
  rename_i fv hc
  split at h
  case h_2 => cases h
  rename_i g first captured hv
  simp only [Option.some.injEq, Prod.mk.injEq] at h
  obtain ⟨rfl, rfl⟩ := h
  have hf : VR ρ (ev fv) (ev' fv) := hE fv (by rw [ho]; simp [Op.operands, Call.operands, hc])
  rw [hv] at hf
  obtain ⟨f', c', ef, h1, h2⟩ := hf.func_inv
  have hargs : ∀ x ∈ c.args.toList, VR ρ (ev x) (ev' x) := fun x hx => hE x (by rw [ho]; simp [Op.operands, Call.operands, hc]; exact .inr (by simpa using hx))
  refine ⟨f'.toList ++ c.args.toList.map ev' ++ c'.toList, (h1.append (VRs.map hargs)).append h2, fun w => ?_⟩
  unfold enters at he
  cases hfn : P.funcs[g]? with
  | none => simp [hfn] at he
  | some fn =>
    simp only [hfn, Bool.and_eq_true, bne_iff_ne, ne_eq] at he
    obtain ⟨hname, hbody⟩ := he
    have hnone : fn.body.isNone = false := by cases hb : fn.body <;> simp [hb] at hbody ⊢
    have hargs' : f' ++ c.args.map ev' ++ c' = ⟨f'.toList ++ c.args.toList.map ev' ++ c'.toList⟩ := by apply Array.ext'; simp
    simp only [execOp, ho, resolve, hc, ef, Deferred.ofValue, Sem.run_bind, Sem.run_pure, Result.andThen_ok, invoke, callFunc, run_program, hfn, beq_iff_eq, hname, if_false, hnone, Bool.false_eq_true, hargs']

theorem opA_ok {cf : CF} (hcf : CFok P cf) {lim id : Nat} {o : Oper} {s s' : AS} {a : Act} (hS : St P w0 nt ρ s a w) (hok : o.op.operands.toList.all (okOpd nt) = true) (hdst : ∀ d, o.dst = some d → d < nt ∧ d < 2 ^ 15)
    (h : opA P cf lim id o s = some s') {K : Act → World → Prop} {Q : Exit → Act → World → Prop} (hK : ∀ a' w' ρ', Ext ρ ρ' → St P w0 nt ρ' s' a' w' → K a' w') : o.wp P a w K Q := by
  have hE := evs_of hS.tm hok
  unfold opA at h
  split at h
  · rename_i v hv
    cases h
    obtain ⟨v', r, hrun⟩ := regOp_ok hS.rel hE hv
    unfold Oper.wp
    rw [hrun w]
    exact hK _ _ ρ (Ext.refl _) ⟨hS.rel, hS.tm.put r hdst, by rw [put_defers]; exact hS.defers⟩
  split at h
  · rename_i v hv
    cases h
    obtain ⟨v', r, hrun⟩ := rdOp_ok hS.rel hE hv
    unfold Oper.wp
    rw [hrun w (near_refl _ _ _ _)]
    exact hK _ _ ρ (Ext.refl _) ⟨hS.rel, hS.tm.put r hdst, by rw [put_defers]; exact hS.defers⟩
  split at h
  · rename_i v h1 hv
    cases h
    exact wp_did (wrOp_ok hS.rel hE hv) fun v' w' ρ' hv he hR => hK _ _ ρ' he ⟨hR, (hS.tm.ext he).put hv hdst, by rw [put_defers]; exact hS.defers⟩
  split at h
  case h_2 => cases h
  rename_i f args hc
  split at h
  case h_2 => cases h
  rename_i hen
  split at h
  case h_2 => cases h
  rename_i v h1 hv
  cases h
  obtain ⟨args', hargs, hrun⟩ := callee_ok hE hc hen
  unfold Oper.wp
  rw [hrun w]
  refine (hcf f args s.h v h1 hv w0 ρ w args' hS.rel hargs).2.mono ?_
  rintro e w' ⟨v', ρ', rfl, hv, he, hR⟩
  exact hK _ _ ρ' he ⟨hR, (hS.tm.ext he).put hv hdst, by rw [put_defers]; exact hS.defers⟩

/-- what can be reckoned can be run -/
theorem opA_some {cf : CF} (hcf : CFok P cf) {lim id : Nat} {o : Oper} {s s' : AS} {a : Act} (hS : St P w0 nt ρ s a w) (hok : o.op.operands.toList.all (okOpd nt) = true) (hdst : ∀ d, o.dst = some d → d < nt ∧ d < 2 ^ 15)
    (h : opA P cf lim id o s = some s') : Keeps s.h s'.h ∧ ∃ ρ' a' w', Ext ρ ρ' ∧ St P w0 nt ρ' s' a' w' := by
  have hE := evs_of hS.tm hok
  unfold opA at h
  split at h
  · rename_i v hv
    cases h
    obtain ⟨v', r, _⟩ := regOp_ok hS.rel hE hv
    exact ⟨Keeps.refl _, ρ, a.put o.dst v', w, Ext.refl _, hS.rel, hS.tm.put r hdst, by rw [put_defers]; exact hS.defers⟩
  split at h
  · rename_i v hv
    cases h
    obtain ⟨v', r, _⟩ := rdOp_ok hS.rel hE hv
    exact ⟨Keeps.refl _, ρ, a.put o.dst v', w, Ext.refl _, hS.rel, hS.tm.put r hdst, by rw [put_defers]; exact hS.defers⟩
  split at h
  · rename_i v h1 hv
    cases h
    obtain ⟨_, v', w', ρ', _, _, hvv, he, hR, hk⟩ := wrOp_ok hS.rel hE hv
    exact ⟨hk, ρ', a.put o.dst v', w', he, hR, (hS.tm.ext he).put hvv hdst, by rw [put_defers]; exact hS.defers⟩
  split at h
  case h_2 => cases h
  rename_i f args hc
  split at h
  case h_2 => cases h
  rename_i hen
  split at h
  case h_2 => cases h
  rename_i v h1 hv
  cases h
  obtain ⟨args', hargs, _⟩ := callee_ok hE hc hen
  obtain ⟨hk, hcall⟩ := hcf f args s.h v h1 hv w0 ρ w args' hS.rel hargs
  obtain ⟨e, w', fr, ⟨v', ρ', _, hvv, he, hR⟩, _⟩ := hcall []
  exact ⟨hk, ρ', a.put o.dst v', w', he, hR, (hS.tm.ext he).put hvv hdst, by rw [put_defers]; exact hS.defers⟩

theorem stepA_ok {cf : CF} (hcf : CFok P cf) {ops : Array Oper} {lim id i : Nat} {s s' : AS} {a : Act} (hS : St P w0 nt ρ s a w) (hok : okOps nt ops = true) (h : stepA P cf ops lim id i s = some s')
    {K : Act → World → Prop} {Q : Exit → Act → World → Prop} (hK : ∀ a' w' ρ', Ext ρ ρ' → St P w0 nt ρ' s' a' w' → K a' w') : wpOp P ops Q i K a w := by
  unfold stepA at h
  unfold wpOp
  cases ho : ops[i]? with
  | none => simp only [ho] at h ⊢; cases h; exact hK a w ρ (Ext.refl _) hS
  | some o =>
    simp only [ho] at h ⊢
    obtain ⟨h1, h2, h3⟩ := okOps_spec hok ho
    rw [yielded_ok hS.tm h3]
    split at h
    · rename_i hw
      rw [if_pos hw]
      exact .inl (opA_ok hcf hS h1 h2 h hK)
    · rename_i hw
      rw [if_neg hw]
      cases h
      exact hK _ _ ρ (Ext.refl _) ⟨hS.rel, hS.tm.put (vr_undef _) h2, by rw [put_defers]; exact hS.defers⟩

theorem stepA_some {cf : CF} (hcf : CFok P cf) {ops : Array Oper} {lim id i : Nat} {s s' : AS} {a : Act} (hS : St P w0 nt ρ s a w) (hok : okOps nt ops = true) (h : stepA P cf ops lim id i s = some s') :
    Keeps s.h s'.h ∧ ∃ ρ' a' w', Ext ρ ρ' ∧ St P w0 nt ρ' s' a' w' := by
  unfold stepA at h
  cases ho : ops[i]? with
  | none => simp only [ho] at h; cases h; exact ⟨Keeps.refl _, ρ, a, w, Ext.refl _, hS⟩
  | some o =>
    simp only [ho] at h
    obtain ⟨h1, h2, h3⟩ := okOps_spec hok ho
    split at h
    · exact opA_some hcf hS h1 h2 h
    · cases h
      exact ⟨Keeps.refl _, ρ, a.put o.dst undef, w, Ext.refl _, hS.rel, hS.tm.put (vr_undef _) h2, by rw [put_defers]; exact hS.defers⟩

theorem seqA_ok {cf : CF} (hcf : CFok P cf) {ops : Array Oper} {Q : Exit → Act → World → Prop} : ∀ (l : List Nat) (ρ : Ren) (s s' : AS) (a : Act) (w : World), St P w0 nt ρ s a w → okOps nt ops = true → seqA P cf ops l s = some s' →
    (∀ a' w' ρ', Ext ρ ρ' → St P w0 nt ρ' s' a' w' → Q .normal a' w') → wpOps P ops Q l a w
  | [], ρ, s, s', a, w, hS, _, h, hQ => by simp [seqA] at h; subst h; exact hQ a w ρ (Ext.refl _) hS
  | i :: l, ρ, s, s', a, w, hS, hok, h, hQ => by
    rw [wpOps_cons]
    simp only [seqA] at h
    cases hs : stepA P cf ops s.h.next s.h.next i s with
    | none => simp [hs] at h
    | some s1 =>
      simp only [hs] at h
      refine stepA_ok hcf hS hok hs fun a' w' ρ' he hS' => ?_
      exact seqA_ok hcf l ρ' s1 s' a' w' hS' hok h fun a2 w2 ρ2 he2 hS2 => hQ a2 w2 ρ2 (he.trans he2) hS2

theorem seqA_some {cf : CF} (hcf : CFok P cf) {ops : Array Oper} : ∀ (l : List Nat) (ρ : Ren) (s s' : AS) (a : Act) (w : World), St P w0 nt ρ s a w → okOps nt ops = true → seqA P cf ops l s = some s' →
    Keeps s.h s'.h ∧ ∃ ρ' a' w', Ext ρ ρ' ∧ St P w0 nt ρ' s' a' w'
  | [], ρ, s, s', a, w, hS, _, h => by simp [seqA] at h; subst h; exact ⟨Keeps.refl _, ρ, a, w, Ext.refl _, hS⟩
  | i :: l, ρ, s, s', a, w, hS, hok, h => by
    simp only [seqA] at h
    cases hs : stepA P cf ops s.h.next s.h.next i s with
    | none => simp [hs] at h
    | some s1 =>
      simp only [hs] at h
      obtain ⟨hk, ρ1, a1, w1, he1, hS1⟩ := stepA_some hcf hS hok hs
      obtain ⟨hk2, ρ2, a2, w2, he2, hS2⟩ := seqA_some hcf l ρ1 s1 s' a1 w1 hS1 hok h
      exact ⟨hk.trans hk2, ρ2, a2, w2, he1.trans he2, hS2⟩

/-! ### a region that draws -/

theorem quickA_ok {ops : Array Oper} {i : Nat} {s s' : AS} {a : Act} (hS : St P w0 nt ρ s a w) (hok : okOps nt ops = true) (h : quickA P ops i s = some s') :
    ∃ o v', ops[i]? = some o ∧ YieldsIf P ops (Below w0.heap.size w0) o v' a ∧ St P w0 nt ρ s' (a.put o.dst v') w ∧ s'.h = s.h := by
  unfold quickA at h
  cases ho : ops[i]? with
  | none => simp [ho] at h
  | some o =>
    simp only [ho] at h
    obtain ⟨h1, h2, h3⟩ := okOps_spec hok ho
    have hE := evs_of hS.tm h1
    have hy := yielded_ok hS.tm h3
    split at h
    · rename_i hw
      rw [← hy] at hw
      split at h
      · rename_i v hv
        cases h
        obtain ⟨v', r, hrun⟩ := regOp_ok hS.rel hE hv
        exact ⟨o, v', rfl, .inl ⟨hw, fun w' _ => hrun w'⟩, ⟨hS.rel, hS.tm.put r h2, by rw [put_defers]; exact hS.defers⟩, rfl⟩
      split at h
      · rename_i v hv
        cases h
        obtain ⟨v', r, hrun⟩ := rdOp_ok hS.rel hE hv
        refine ⟨o, v', rfl, .inl ⟨hw, fun w' hb => hrun w' ?_⟩, ⟨hS.rel, hS.tm.put r h2, by rw [put_defers]; exact hS.defers⟩, rfl⟩
        intro k p hk hl hp
        have := hS.rel.old k p hl hk hp
        rw [hb.block _ this, hS.rel.below.block _ this]
      · cases h
    · rename_i hw
      rw [← hy] at hw
      cases h
      exact ⟨o, undef, rfl, .inr ⟨by simpa using hw, rfl⟩, ⟨hS.rel, hS.tm.put (vr_undef _) h2, by rw [put_defers]; exact hS.defers⟩, rfl⟩

/-- what the region is to come to -/
def Ends (P : Program) (w0 : World) (nt : Nat) (ρ : Ren) (s : AS) : Exit → Act → World → Prop := fun e a w => e = .normal ∧ ∃ ρ', Ext ρ ρ' ∧ St P w0 nt ρ' s a w

theorem lexA_ok {ops : Array Oper} (hsel : Region.noSelect ops = true) : ∀ (f k : Nat) (listed : Array Bool) (ρ : Ren) (s s' : AS) (a : Act) (w : World), St P w0 nt ρ s a w → okOps nt ops = true → Region.lexFrom .any ops f k listed = true →
    lexA P ops f k s = some s' → wpAnyH P .any ops (Ends P w0 nt ρ s') (Below w0.heap.size w0) f listed a w ∧ s'.h = s.h ∧ ∃ a', St P w0 nt ρ s' a' w
  | 0, k, listed, ρ, s, s', a, w, hS, _, hl, h => by
    simp [lexA] at h
    subst h
    simp only [Region.lexFrom] at hl
    exact ⟨⟨by simpa using hl, rfl, ρ, Ext.refl _, hS⟩, rfl, a, hS⟩
  | f + 1, k, listed, ρ, s, s', a, w, hS, hok, hl, h => by
    simp only [lexA] at h
    simp only [Region.lexFrom, Bool.and_eq_true] at hl
    obtain ⟨⟨hr, hf⟩, hl'⟩ := hl
    cases hq : quickA P ops k s with
    | none => simp [hq] at h
    | some s1 =>
      simp only [hq] at h
      obtain ⟨o, v', ho, hy, hS1, hh⟩ := quickA_ok hS hok hq
      obtain ⟨h1, h2, h4⟩ := lexA_ok hsel f (k + 1) (listed.setIfInBounds k true) ρ s1 s' _ w hS1 hok hl' h
      refine ⟨?_, h2.trans hh, h4⟩
      exact wpAnyH_take ho hsel hf hr (fun c a w h => by cases h.1) hy hS.rel.below h1
end
end Go.Ab
namespace Go.Ab
open Go Go.RowKit

/-! ### equality that is reckoned -/

theorem veqs_ok (n : Nat) (h : ∀ v u, veq n v u = true → v = u) : ∀ (l m : List Value), veq.veqs n l m = true → l = m
  | [], [], _ => rfl
  | [], _ :: _, e => by simp [veq.veqs] at e
  | _ :: _, [], e => by simp [veq.veqs] at e
  | x :: l, y :: m, e => by
    simp only [veq.veqs, Bool.and_eq_true] at e
    rw [h x y e.1, veqs_ok n h l m e.2]

theorem bytes_ext {a b : ByteArray} (h : a.data.toList = b.data.toList) : a = b := by
  cases a; cases b; congr; exact Array.ext' h

theorem veq_ok : ∀ (n : Nat) (v u : Value), veq n v u = true → v = u := by
  intro n
  induction n with
  | zero =>
    intro v u h
    cases v <;> cases u <;> simp [veq] at h <;> first | (subst h; rfl) | (obtain ⟨rfl, rfl⟩ := h; rfl) | (obtain ⟨⟨rfl, rfl⟩, rfl⟩ := h; rfl) | (obtain ⟨rfl, rfl, rfl⟩ := h; rfl) | rfl | skip
    all_goals (rw [bytes_ext (Array.toList_inj.2 h)])
  | succ n ih =>
    intro v u h
    have ihs := veqs_ok n ih
    cases v <;> cases u <;> simp [veq] at h <;> first | (subst h; rfl) | (obtain ⟨rfl, rfl⟩ := h; rfl) | (obtain ⟨⟨rfl, rfl⟩, rfl⟩ := h; rfl) | (obtain ⟨rfl, rfl, rfl⟩ := h; rfl) | rfl | skip
    case string.string => rw [bytes_ext (Array.toList_inj.2 h)]
    case agg.agg => rw [Array.ext' (ihs _ _ h)]
    case tuple.tuple => rw [Array.ext' (ihs _ _ h)]
    case iface.iface => rw [h.1, ih _ _ h.2]
    case func.func => rw [h.1.1, Array.ext' (ihs _ _ h.1.2), Array.ext' (ihs _ _ h.2)]

theorem eeq_ok : ∀ (l m : List MapEntry), eeq l m = true → l = m
  | [], [], _ => rfl
  | [], _ :: _, e => by simp [eeq] at e
  | _ :: _, [], e => by simp [eeq] at e
  | ⟨k, v, b⟩ :: l, ⟨k', v', b'⟩ :: m, e => by
    simp only [eeq, Bool.and_eq_true, beq_iff_eq] at e
    obtain ⟨⟨⟨h1, h2⟩, h3⟩, h4⟩ := e
    rw [veq_ok 4 _ _ h1, veq_ok 4 _ _ h2, h3, eeq_ok l m h4]

theorem teq_ok : ∀ (t u : Tm), teq t u = true → t = u := by
  intro t
  induction t with
  | e => intro u h; cases u with | e => rfl | n v l r => simp [teq] at h
  | n v l r ihl ihr =>
    intro u h
    cases u with
    | e => cases v <;> simp [teq] at h
    | n v' l' r' =>
      cases v <;> cases v' <;> simp only [teq, Bool.and_eq_true, Bool.false_eq_true] at h
      · rw [ihl _ h.1, ihr _ h.2]
      · rw [veq_ok 4 _ _ h.1.1, ihl _ h.1.2, ihr _ h.2]

theorem beqB_ok {a b : Option Blk} (h : beqB a b = true) : a = b := by
  unfold beqB at h
  split at h
  · rfl
  · rfl
  · simp only [Bool.and_eq_true, beq_iff_eq] at h; rw [h.1, veqs_ok 4 (veq_ok 4) _ _ h.2]
  · simp only [Bool.and_eq_true, beq_iff_eq] at h; rw [h.2, eeq_ok _ _ h.1]
  · simp only [Bool.and_eq_true, beq_iff_eq] at h; rw [h.2, bytes_ext h.1]
  · cases h

section
variable {P : Program} {ρ : Ren} {w0 w : World} {nt : Nat}

theorem asEq_ok {s s' : AS} (h : asEq s s' = true) {H : Hp} (k : Keeps H s.h) (k' : Keeps H s'.h) (ht : ∀ k, s.h.next ≤ k → s.h.get k = none) {a : Act} (hS : St P w0 nt ρ s' a w) : St P w0 nt ρ s a w := by
  unfold asEq heapEq at h
  simp only [Bool.and_eq_true, beq_iff_eq] at h
  obtain ⟨h2, ⟨h3, h4⟩, h5⟩ := h
  have h2 := teq_ok _ _ h2
  refine ⟨hS.rel.congr h3 h4 fun j => ?_, by rw [h2]; exact hS.tm, hS.defers⟩
  · by_cases hj : j < H.lo
    · rw [k.get j hj, k'.get j hj]
    · by_cases hn : s.h.next ≤ j
      · rw [ht j hn, hS.rel.top j (by rw [← h4]; exact hn)]
      · have := List.all_eq_true.1 h5 (j - s.h.lo) (by rw [List.mem_range]; have := k.lo; omega)
        have e : s.h.lo + (j - s.h.lo) = j := by have := k.lo; omega
        rw [e] at this
        exact beqB_ok this

theorem drawA_some {cf : CF} (hcf : CFok P cf) {ops : Array Oper} {base : Nat} : ∀ (f : Nat) (p : Plan) (ρ : Ren) (s s' : AS) (a : Act) (w : World), St P w0 nt ρ s a w → okOps nt ops = true → drawA P cf ops base f p s = some s' →
    Keeps s.h s'.h ∧ ∃ ρ' a' w', Ext ρ ρ' ∧ St P w0 nt ρ' s' a' w'
  | 0, p, ρ, s, s', a, w, hS, _, h => by
    simp only [drawA] at h
    split at h
    · cases h; exact ⟨Keeps.refl _, ρ, a, w, Ext.refl _, hS⟩
    · cases h
  | f + 1, p, ρ, s, s', a, w, hS, hok, h => by
    simp only [drawA] at h
    split at h
    · cases h; exact ⟨Keeps.refl _, ρ, a, w, Ext.refl _, hS⟩
    · cases h
    · rename_i i rest
      split at h
      case h_2 => cases h
      rename_i s2 hq
      obtain ⟨o, v', ho, hy, hS1, hh⟩ := quickA_ok hS hok hq
      obtain ⟨h1, h3⟩ := drawA_some hcf f rest ρ s2 s' _ w hS1 hok h
      exact ⟨by rw [← hh]; exact h1, h3⟩
    · rename_i l
      split at h
      case h_2 => cases h
      rename_i e more hends
      split at h
      case h_2 => cases h
      cases h
      cases l with
      | nil => simp at hends
      | cons ip l =>
        simp only [List.map_cons, List.cons.injEq] at hends
        obtain ⟨he, _⟩ := hends
        split at he
        case h_2 => cases he
        rename_i s1 hs1
        obtain ⟨hk, ρ1, a1, w1, he1, hS1⟩ := stepA_some hcf hS hok hs1
        obtain ⟨hk2, ρ2, a2, w2, he2, hS2⟩ := drawA_some hcf f ip.2 ρ1 s1 s' a1 w1 hS1 hok he
        exact ⟨hk.trans hk2, ρ2, a2, w2, he1.trans he2, hS2⟩

theorem drawA_ok {cf : CF} (hcf : CFok P cf) {ops : Array Oper} (hsel : Region.noSelect ops = true) {base : Nat} {ρ0 : Ren} {tgt : AS} : ∀ (f : Nat) (listed : Array Bool) (ρ : Ren) (s s' : AS) (a : Act) (w : World), St P w0 nt ρ s a w → okOps nt ops = true → Ext ρ0 ρ →
    drawA P cf ops base f (planA ops f listed) s = some s' → (∀ ρ a w, St P w0 nt ρ s' a w → St P w0 nt ρ tgt a w) → wpAnyH P .any ops (Ends P w0 nt ρ0 tgt) (Below w0.heap.size w0) f listed a w
  | 0, listed, ρ, s, s', a, w, hS, _, hE, h, ht => by
    simp only [planA, drawA] at h
    split at h
    · rename_i hp
      split at hp
      · rename_i hr
        cases h
        exact ⟨hr, rfl, ρ, hE, ht _ _ _ hS⟩
      · cases hp
    · cases h
  | f + 1, listed, ρ, s, s', a, w, hS, hok, hE, h, ht => by
    simp only [planA, drawA] at h
    cases hr : Region.ready .any ops listed with
    | nil =>
      simp only [hr] at h
      cases h
      exact wpAnyH_done hr ⟨rfl, ρ, hE, ht _ _ _ hS⟩ _
    | cons i0 rs =>
      simp only [hr] at h
      cases hfind : (i0 :: rs).find? (firstA ops listed) with
      | some j =>
        simp only [hfind] at h
        have hjm : j ∈ Region.ready .any ops listed := by rw [hr]; exact List.mem_of_find?_eq_some hfind
        have hfree : Region.free .any ops listed j = true := by
          have := List.find?_some hfind
          simp only [firstA, Bool.and_eq_true] at this
          exact this.1
        cases hq : quickA P ops j s with
        | none => simp [hq] at h
        | some s2 =>
          simp only [hq] at h
          obtain ⟨o, v', ho, hy, hS1, hh⟩ := quickA_ok hS hok hq
          have := drawA_ok hcf hsel f _ ρ s2 s' _ w hS1 hok hE h ht
          exact wpAnyH_take ho hsel hfree (by simpa using hjm) (fun c a w h => by cases h.1) hy hS.rel.below this
      | none =>
        simp only [hfind] at h
        split at h
        case h_2 => cases h
        rename_i e more hends
        split at h
        case h_2 => cases h
        rename_i hall
        cases h
        rw [List.map_map] at hends
        refine wpAnyH_all hr (by simp) fun i hi => ?_
        -- what the first order came to
        have hfirst : Keeps s.h s'.h ∧ ∀ k, s'.h.next ≤ k → s'.h.get k = none := by
          simp only [List.map_cons, List.cons.injEq, Function.comp_apply] at hends
          obtain ⟨he, _⟩ := hends
          split at he
          case h_2 => cases he
          rename_i s1 hs1
          obtain ⟨hk, ρ1, a1, w1, _, hS1⟩ := stepA_some hcf hS hok hs1
          obtain ⟨hk2, ρ2, a2, w2, _, hS2⟩ := drawA_some hcf f _ ρ1 s1 s' a1 w1 hS1 hok he
          exact ⟨hk.trans hk2, hS2.rel.top⟩
        have hmem : (match stepA P cf ops s.h.next (base + i) i s with | some s' => drawA P cf ops base f (planA ops f (listed.setIfInBounds i true)) s' | none => none) ∈ (some s' :: more) := by
          rw [← hends]
          exact List.mem_map_of_mem (f := (fun ip : Nat × Plan => match stepA P cf ops s.h.next (base + ip.1) ip.1 s with | some s' => drawA P cf ops base f ip.2 s' | none => none) ∘ fun j => (j, planA ops f (listed.setIfInBounds j true))) hi
        cases hs1 : stepA P cf ops s.h.next (base + i) i s with
        | none =>
          rw [hs1] at hmem
          simp only [List.mem_cons, reduceCtorEq, false_or] at hmem
          have := List.all_eq_true.1 hall _ hmem
          cases this
        | some s1 =>
          rw [hs1] at hmem
          simp only [] at hmem
          obtain ⟨hk, _⟩ := stepA_some hcf hS hok hs1
          refine stepA_ok hcf hS hok hs1 fun a' w' ρ' he hS' => ⟨hS'.rel.below, ?_⟩
          cases hd : drawA P cf ops base f (planA ops f (listed.setIfInBounds i true)) s1 with
          | none =>
            rw [hd] at hmem
            simp only [List.mem_cons, reduceCtorEq, false_or] at hmem
            have := List.all_eq_true.1 hall _ hmem
            cases this
          | some e1 =>
            rw [hd] at hmem
            obtain ⟨hk2, _⟩ := drawA_some hcf f _ ρ' s1 e1 a' w' hS' hok hd
            refine drawA_ok hcf hsel f _ ρ' s1 e1 a' w' hS' hok (hE.trans he) hd fun ρ2 a2 w2 hS2 => ?_
            rcases List.mem_cons.1 hmem with hm | hm
            · cases hm; exact ht _ _ _ hS2
            · have := List.all_eq_true.1 hall _ hm
              simp only [] at this
              exact ht _ _ _ (asEq_ok this hfirst.1 (hk.trans hk2) hfirst.2 hS2)

theorem region_back {s s' : AS} {m : Nat} {a a' : Act} {w w' : World} {ρ' : Ren} (hS : St P w0 nt ρ s a w) (hS' : St P w nt ρ' s' a' w') (he : Ext ρ ρ') (hk : Keeps { s.h with lo := s.h.next, next := s.h.next + m } s'.h) :
    St P w0 nt ρ' ⟨s'.t, { s'.h with lo := s.h.lo }⟩ a' w' ∧ Keeps s.h { s'.h with lo := s.h.lo } := by
  obtain ⟨h1, h2⟩ := hS.rel.back hS'.rel he hk.lo fun k hk' => hk.get k hk'
  exact ⟨⟨h1, hS'.tm, hS'.defers⟩, h2⟩

theorem region_ok {cf : CF} (hcf : CFok P cf) {id : Nat} {ops : Array Oper} {draw : Bool} {s s' : AS} {a : Act} (hS : St P w0 nt ρ s a w) (h : regionA P cf nt ops draw s = some s') :
    (Code.region id ops draw).wp P (Ends P w0 nt ρ s') a w ∧ Keeps s.h s'.h ∧ ∃ ρ' a' w', Ext ρ ρ' ∧ St P w0 nt ρ' s' a' w' := by
  unfold regionA at h
  split at h
  case h_1 => cases h
  rename_i hok
  split at h
  · obtain ⟨hk, hx⟩ := seqA_some hcf _ ρ s s' a w hS hok h
    exact ⟨wp_region (seqA_ok hcf _ ρ s s' a w hS hok h fun a' w' ρ' he hS' => ⟨rfl, ρ', he, hS'⟩), hk, hx⟩
  · split at h
    case h_1 => cases h
    rename_i hms
    simp only [Bool.and_eq_true] at hms
    have hSd : St P w0 nt ρ s a w.drew := ⟨hS.rel.drew, hS.tm, hS.defers⟩
    split at h
    · rename_i hlex
      split at h
      case h_2 => cases h
      rename_i s1 hl
      cases h
      simp only [Bool.and_eq_true] at hlex
      replace hlex := hlex.1
      have hSb : St P w.drew nt ρ ⟨s.t, { s.h with lo := s.h.next }⟩ a w.drew := ⟨by have := hSd.rel.rebase 0; exact this, hS.tm, hS.defers⟩
      simp only [Region.lexB, Bool.and_eq_true] at hlex
      obtain ⟨h1, h2, a1, h4⟩ := lexA_ok hms.2 ops.size 0 (Array.replicate ops.size false) ρ _ s1 a w.drew hSb hok hlex.2 hl
      have hk : Keeps { s.h with lo := s.h.next, next := s.h.next + 0 } s1.h := by rw [h2]; exact Keeps.refl _
      refine ⟨wp_mono (wp_region_held hms.1 h1) fun e a2 w2 h => ?_, ?_⟩
      · obtain ⟨rfl, ρ2, he, hS2⟩ := h
        exact ⟨rfl, ρ2, he, (region_back hSd hS2 he hk).1⟩
      · obtain ⟨x, y⟩ := region_back hSd h4 (Ext.refl ρ) hk
        exact ⟨y, ρ, a1, w.drew, Ext.refl _, x⟩
    · split at h
      case h_2 => cases h
      rename_i s1 hd
      cases h
      have hSb : St P w.drew nt ρ ⟨s.t, { s.h with lo := s.h.next, next := s.h.next + ops.size }⟩ a w.drew := ⟨hSd.rel.rebase ops.size, hS.tm, hS.defers⟩
      obtain ⟨hk, ρ1, a1, w1, he1, hS1⟩ := drawA_some hcf ops.size _ ρ _ s1 a w.drew hSb hok hd
      have hwp := drawA_ok hcf hms.2 (ρ0 := ρ) (tgt := s1) ops.size _ ρ _ s1 a w.drew hSb hok (Ext.refl ρ) hd (fun _ _ _ h => h)
      refine ⟨wp_mono (wp_region_held hms.1 hwp) fun e a2 w2 h => ?_, ?_⟩
      · obtain ⟨rfl, ρ2, he, hS2⟩ := h
        exact ⟨rfl, ρ2, he, (region_back hSd hS2 he hk).1⟩
      · obtain ⟨x, y⟩ := region_back hSd hS1 he1 hk
        exact ⟨y, ρ1, a1, w1, he1, x⟩
end
end Go.Ab
namespace Go.Ab
open Go Go.RowKit

def Ex.toExit : Ex → Exit
  | .norm => .normal
  | .exit id => .exit id
  | .ret => .ret

section
variable {P : Program} {w0 : World} {nt : Nat}

def EndsC (P : Program) (w0 : World) (nt : Nat) (ρ : Ren) (x : Ex) (s : AS) : Exit → Act → World → Prop := fun e a w => e = x.toExit ∧ ∃ ρ', Ext ρ ρ' ∧ St P w0 nt ρ' s a w

/-- what is known of a piece of code that was reckoned -/
def Good (P : Program) (w0 : World) (nt : Nat) (c : Code) (f : AS → Option (Ex × AS)) : Prop := ∀ (ρ : Ren) (s s' : AS) (x : Ex) (a : Act) (w : World), St P w0 nt ρ s a w → f s = some (x, s') →
  c.wp P (EndsC P w0 nt ρ x s') a w ∧ Keeps s.h s'.h ∧ ∃ ρ' a' w', Ext ρ ρ' ∧ St P w0 nt ρ' s' a' w'

theorem good_seq {a b : Code} {f g : AS → Option (Ex × AS)} (ha : Good P w0 nt a f) (hb : Good P w0 nt b g) : Good P w0 nt (.seq a b) (fun s => match f s with | some (.norm, s') => g s' | r => r) := by
  intro ρ s s' x ac w hS h
  simp only [] at h
  split at h
  · rename_i s1 h1
    obtain ⟨w1, k1, ρ1, a1, w1', e1, S1⟩ := ha ρ s s1 .norm ac w hS h1
    obtain ⟨_, k2, ρ2, a2, w2, e2, S2⟩ := hb ρ1 s1 s' x a1 w1' S1 h
    refine ⟨wp_seq (wp_mono w1 fun e a' w' hq => ?_), k1.trans k2, ρ2, a2, w2, e1.trans e2, S2⟩
    obtain ⟨rfl, ρ', he, hS'⟩ := hq
    obtain ⟨hw, _⟩ := hb ρ' s1 s' x a' w' hS' h
    exact wp_mono hw fun e a2 w2 ⟨h1, ρ2, h2, h3⟩ => ⟨h1, ρ2, he.trans h2, h3⟩
  · rename_i hne
    obtain ⟨w1, k1, hx⟩ := ha ρ s s' x ac w hS h
    refine ⟨wp_seq (wp_mono w1 fun e a' w' hq => ?_), k1, hx⟩
    obtain ⟨rfl, hq⟩ := hq
    cases x with
    | norm => exact absurd h (hne s')
    | exit id => exact ⟨rfl, hq⟩
    | ret => exact ⟨rfl, hq⟩

theorem good_block {id : Nat} {c : Code} {f : AS → Option (Ex × AS)} (hc : Good P w0 nt c f) : Good P w0 nt (.block id c) (fun s => match f s with | some (.exit j, s') => if j = id then some (.norm, s') else some (.exit j, s') | r => r) := by
  intro ρ s s' x ac w hS h
  simp only [] at h
  split at h
  · rename_i j s1 h1
    obtain ⟨w1, k1, hx⟩ := hc ρ s s1 (.exit j) ac w hS h1
    split at h
    · rename_i e
      cases h
      refine ⟨wp_block (wp_mono w1 fun e' a' w' hq => ?_), k1, hx⟩
      obtain ⟨rfl, hq⟩ := hq
      show Exit.inBlock id _ (Exit.exit j) a' w'
      simp only [Exit.inBlock, e, if_true]
      exact ⟨rfl, hq⟩
    · rename_i e
      cases h
      refine ⟨wp_block (wp_mono w1 fun e' a' w' hq => ?_), k1, hx⟩
      obtain ⟨rfl, hq⟩ := hq
      show Exit.inBlock id _ (Exit.exit j) a' w'
      simp only [Exit.inBlock, e, if_false]
      exact ⟨rfl, hq⟩
  · rename_i hne
    obtain ⟨w1, k1, hx⟩ := hc ρ s s' x ac w hS h
    refine ⟨wp_block (wp_mono w1 fun e a' w' hq => ?_), k1, hx⟩
    obtain ⟨rfl, hq⟩ := hq
    cases x with
    | norm => exact ⟨rfl, hq⟩
    | exit j => exact absurd h (hne j s')
    | ret => exact ⟨rfl, hq⟩

theorem exists_min {p : Nat → Prop} (h : ∃ k, p k) : ∃ k, p k ∧ ∀ j, p j → k ≤ j := by
  obtain ⟨k, hk⟩ := h
  induction k using Nat.strongRecOn with
  | _ k ih =>
    by_cases hj : ∃ j, j < k ∧ p j
    · obtain ⟨j, hlt, hpj⟩ := hj; exact ih j hlt hpj
    · exact ⟨k, hk, fun j hpj => Nat.le_of_not_lt fun hlt => hj ⟨j, hlt, hpj⟩⟩

theorem good_loop {c : Code} {f : AS → Option (Ex × AS)} (hc : Good P w0 nt c f) (n : Nat) : Good P w0 nt (.loop c) (fun s => iterA f n s) := by
  intro ρ s s' x ac w hS h
  simp only [] at h
  -- what the rounds come to
  have some : ∀ (n : Nat) (ρ : Ren) (s : AS) (ac : Act) (w : World), St P w0 nt ρ s ac w → iterA f n s = some (x, s') → Keeps s.h s'.h ∧ ∃ ρ' a' w', Ext ρ ρ' ∧ St P w0 nt ρ' s' a' w' := by
    intro n
    induction n with
    | zero => intro ρ s ac w _ h; simp [iterA] at h
    | succ n ih =>
      intro ρ s ac w hS h
      simp only [iterA] at h
      split at h
      · rename_i s1 h1
        obtain ⟨_, k1, ρ1, a1, w1, e1, S1⟩ := hc ρ s s1 .norm ac w hS h1
        obtain ⟨k2, ρ2, a2, w2, e2, S2⟩ := ih ρ1 s1 a1 w1 S1 h
        exact ⟨k1.trans k2, ρ2, a2, w2, e1.trans e2, S2⟩
      · obtain ⟨_, k1, hx⟩ := hc ρ s s' x ac w hS h
        exact ⟨k1, hx⟩
  refine ⟨?_, some n ρ s ac w hS h⟩
  let J : Nat → Act → World → Prop := fun k a w => ∃ s1 ρ1, iterA f k s1 = .some (x, s') ∧ Ext ρ ρ1 ∧ St P w0 nt ρ1 s1 a w
  classical
  let μ : Act → World → Nat := fun a w => if h : ∃ k, J k a w then Classical.choose (exists_min h) else 0
  have hmin : ∀ a w (h : ∃ k, J k a w), J (μ a w) a w ∧ ∀ j, J j a w → μ a w ≤ j := fun a w h => by
    have e : μ a w = Classical.choose (exists_min h) := dif_pos h
    rw [e]
    exact Classical.choose_spec (exists_min h)
  refine wp_loop (fun a w => ∃ k, J k a w) μ ⟨n, s, ρ, h, Ext.refl ρ, hS⟩ fun a w hI => ?_
  obtain ⟨⟨s1, ρ1, hit, he1, hS1⟩, _⟩ := hmin a w hI
  cases hk : μ a w with
  | zero => rw [hk] at hit; simp [iterA] at hit
  | succ k =>
    rw [hk] at hit
    simp only [iterA] at hit
    split at hit
    · rename_i s2 h2
      obtain ⟨hw, _⟩ := hc ρ1 s1 s2 .norm a w hS1 h2
      refine wp_mono hw fun e a' w' hq => ?_
      obtain ⟨rfl, ρ2, he2, hS2⟩ := hq
      have hJ : J k a' w' := ⟨s2, ρ2, hit, he1.trans he2, hS2⟩
      exact ⟨⟨k, hJ⟩, Nat.lt_of_le_of_lt ((hmin a' w' ⟨k, hJ⟩).2 k hJ) (Nat.lt_succ_self k)⟩
    · rename_i hne
      obtain ⟨hw, _⟩ := hc ρ1 s1 s' x a w hS1 hit
      refine wp_mono hw fun e a' w' hq => ?_
      obtain ⟨rfl, ρ2, he2, hS2⟩ := hq
      cases x with
      | norm => exact absurd hit (hne s')
      | exit id => exact ⟨rfl, ρ2, he1.trans he2, hS2⟩
      | ret => exact ⟨rfl, ρ2, he1.trans he2, hS2⟩

theorem codeA_ok {cf : CF} (hcf : CFok P cf) (n : Nat) : ∀ c : Code, Good P w0 nt c (codeA P cf nt n c)
  | .skip => fun ρ s s' x a w hS h => by
    simp [codeA] at h; obtain ⟨rfl, rfl⟩ := h
    exact ⟨wp_skip ⟨rfl, ρ, Ext.refl ρ, hS⟩, Keeps.refl _, ρ, a, w, Ext.refl ρ, hS⟩
  | .label l => fun ρ s s' x a w hS h => by
    simp [codeA] at h; obtain ⟨rfl, rfl⟩ := h
    exact ⟨wp_label ⟨rfl, ρ, Ext.refl ρ, hS⟩, Keeps.refl _, ρ, a, w, Ext.refl ρ, hS⟩
  | .region id ops draw => fun ρ s s' x a w hS h => by
    simp only [codeA] at h
    cases hr : regionA P cf nt ops draw s with
    | none => simp [hr] at h
    | some s1 =>
      simp only [hr, Option.map_some, Option.some.injEq, Prod.mk.injEq] at h
      obtain ⟨rfl, rfl⟩ := h
      obtain ⟨h1, h2⟩ := region_ok hcf (id := id) hS hr
      exact ⟨wp_mono h1 fun e a w ⟨h1, h2⟩ => ⟨h1, h2⟩, h2⟩
  | .seq a b => good_seq (codeA_ok hcf n a) (codeA_ok hcf n b)
  | .cond c x y => fun ρ s s' ex a w hS h => by
    simp only [codeA] at h
    split at h
    case h_2 => cases h
    rename_i hok
    have hv : VR ρ (aev s.t c) (a.eval c) := by
      cases c with
      | tmp i => exact hS.tm.2 i (by simpa [okOpd] using hok)
      | const v => exact plain_refl 3 v hok
      | global g => simp [okOpd] at hok
      | func f => exact .func _ .nil .nil
    split at h
    · rename_i hb
      rw [hb] at hv
      obtain ⟨h1, h2⟩ := codeA_ok hcf n x ρ s s' ex a w hS h
      exact ⟨wp_cond_true hv.bool_inv h1, h2⟩
    · rename_i hb
      rw [hb] at hv
      obtain ⟨h1, h2⟩ := codeA_ok hcf n y ρ s s' ex a w hS h
      exact ⟨wp_cond_false hv.bool_inv h1, h2⟩
    · cases h
  | .block id c => good_block (codeA_ok hcf n c)
  | .loop c => good_loop (codeA_ok hcf n c) n
  | .exit id => fun ρ s s' x a w hS h => by
    simp [codeA] at h; obtain ⟨rfl, rfl⟩ := h
    exact ⟨wp_exit ⟨rfl, ρ, Ext.refl ρ, hS⟩, Keeps.refl _, ρ, a, w, Ext.refl ρ, hS⟩
  | .ret => fun ρ s s' x a w hS h => by
    simp [codeA] at h; obtain ⟨rfl, rfl⟩ := h
    exact ⟨wp_ret ⟨rfl, ρ, Ext.refl ρ, hS⟩, Keeps.refl _, ρ, a, w, Ext.refl ρ, hS⟩
  | .rangeFunc .. => fun ρ s s' x a w hS h => by simp [codeA] at h
  | .scope _ => fun ρ s s' x a w hS h => by simp [codeA] at h
  | .goto _ => fun ρ s s' x a w hS h => by simp [codeA] at h
  | .refuse _ => fun ρ s s' x a w hS h => by simp [codeA] at h

/-! ### a call -/

theorem fromList_get : ∀ (l : List Value) (k : Nat) (t : Tre Value) (i : Nat), k + l.length ≤ 2 ^ 15 → (fromList k l t).get 16 i = if k ≤ i ∧ i < k + l.length then l[i - k]? else t.get 16 i
  | [], k, t, i, _ => by simp [fromList]; omega
  | x :: l, k, t, i, h => by
    simp only [List.length_cons] at h
    rw [fromList, fromList_get l (k + 1) _ i (by omega)]
    by_cases hi : i = k
    · subst hi
      rw [if_neg (by omega), if_pos (by simp), Nat.sub_self, Tre.get_set_same 15 t i x (by omega)]
      rfl
    · by_cases h2 : k + 1 ≤ i ∧ i < k + 1 + l.length
      · rw [if_pos h2, if_pos (by simp; omega), show i - k = (i - (k + 1)) + 1 by omega]
        rfl
      · rw [if_neg h2, if_neg (by simp; omega), Tre.get_set_other 16 t k i x hi]

theorem fromList_ok {ρ : Ren} {args args' : List Value} (h : VRs ρ args args') {m : Nat} (hl : args.length ≤ m) (hm : m ≤ 2 ^ 15) : TmR ρ m (fromList 0 args .e) (⟨args'⟩ ++ Array.replicate (m - args'.length) undef) := by
  have hlen := h.length
  refine ⟨by simp [hlen]; omega, fun i hi => ?_⟩
  have e : getT (fromList 0 args .e) i = (args[i]?).getD undef := by
    unfold getT
    simp only [fromList_get args 0 .e i (by omega)]
    by_cases h1 : i < args.length
    · rw [if_pos ⟨Nat.zero_le _, by omega⟩]
      simp [h1]
    · rw [if_neg (by omega), Tre.get_e]
      simp [List.getElem?_eq_none (Nat.le_of_not_lt h1)]
  rw [e]
  by_cases h1 : i < args.length
  · obtain ⟨v', hv', r⟩ := h.get i _ (List.getElem?_eq_getElem h1)
    have : ((⟨args'⟩ : Array Value) ++ Array.replicate (m - args'.length) undef).getD i undef = v' := by
      rw [Array.getD_eq_getD_getElem?, Array.getElem?_append_left (by simp [hlen]; exact h1)]
      simp [hv']
    rw [this, List.getElem?_eq_getElem h1]
    exact r
  · have : ((⟨args'⟩ : Array Value) ++ Array.replicate (m - args'.length) undef).getD i undef = undef := by
      rw [Array.getD_eq_getD_getElem?, Array.getElem?_append_right (by simp [hlen]; omega)]
      simp
      rw [Array.getElem?_replicate]
      split <;> rfl
    rw [this, List.getElem?_eq_none (Nat.le_of_not_lt h1)]
    exact vr_undef _

def rvar (t : Array Value) : ResultVar → Sem Value
  | .tmp i => pure (t.getD i undef)
  | .cell b t' => do loadVar t' (← asAddr (t.getD b undef))

theorem result_ok {ρ : Ren} {s : AS} {a : Act} {w : World} (hS : St P w0 nt ρ s a w) {r : ResultVar} {v : Value} (h : resultA P nt s r = some v) :
    ∃ v', VR ρ v v' ∧ (rvar a.tmps r).run P w = .ok v' w := by
  unfold resultA at h
  split at h
  · rename_i t
    split at h
    case h_2 => cases h
    rename_i hd
    cases h
    exact ⟨_, hS.tm.2 t (by simpa using hd), rfl⟩
  · rename_i b t
    split at h
    case h_2 => cases h
    rename_i ad hd hv
    have hb := hS.tm.2 b (by simpa using hd)
    rw [hv] at hb
    obtain ⟨a', e, har⟩ := hb.ptr_inv
    obtain ⟨v', r, q⟩ := loadA_ok hS.rel har h
    refine ⟨v', r, ?_⟩
    simp only [rvar]
    rw [e]
    simp [asAddr, q w (near_refl _ _ _ _)]

theorem results_ok {ρ : Ren} {s : AS} {a : Act} {w : World} (hS : St P w0 nt ρ s a w) : ∀ (l : List ResultVar) (vs : List Value), resultsA P nt s l = some vs →
    ∃ vs', VRs ρ vs vs' ∧ (l.mapM (rvar a.tmps)).run P w = .ok vs' w
  | [], vs, h => by simp [resultsA] at h; subst h; exact ⟨[], .nil, rfl⟩
  | r :: l, vs, h => by
    simp only [resultsA] at h
    split at h
    case h_2 => cases h
    rename_i v vs1 h1 h2
    cases h
    obtain ⟨v', r1, q1⟩ := result_ok hS h1
    obtain ⟨vs', r2, q2⟩ := results_ok hS l vs1 h2
    refine ⟨v' :: vs', .cons r1 r2, ?_⟩
    rw [List.mapM_cons, Sem.run_bind, q1, Result.andThen_ok, Sem.run_bind, q2]
    rfl

theorem Rel.step {ρ : Ren} {H : Hp} {w w' : World} (h : Rel P w0 ρ H w) (hb : Below w.heap.size w w') : Rel P w0 ρ H w' := by
  have keep : ∀ k p, Live H k → ρ k = some p → w'.heap[p.real]? = w.heap[p.real]? := fun k p hl hp => by
    obtain ⟨q, hq, hlt⟩ := h.live hl
    rw [hp] at hq; cases hq
    exact hb.block _ hlt
  exact ⟨h.below.trans (hb.mono h.below.size), h.fresh, h.top, h.lo, fun k b hk => (h.blk k b hk).move (Ext.refl ρ) fun hd p hp => keep k p (live_of hk hd) hp, h.old,
    fun k p hl hk hp => ⟨(h.own k p hl hk hp).1, (h.own k p hl hk hp).2.move (keep k p hl hp)⟩, h.inj⟩

def PrimOk (P : Program) (pr : Prim) : Prop := ∀ f args v, pr f args = some v → args.all (plain 3) = true ∧ plain 3 v = true ∧ ∀ w, Calls P f ⟨args⟩ w fun e w' => e = .returned v ∧ Below w.heap.size w w'

theorem callA_ok {pr : Prim} (hpr : PrimOk P pr) (n : Nat) : ∀ d, CFok P (callA P pr n d)
  | 0 => fun f args h v h' e => by simp [callA] at e
  | d + 1 => fun f args h v h' e w0 ρ w args' hR hargs => by
    simp only [callA] at e
    split at e
    · rename_i u hu
      simp only [Option.some.injEq, Prod.mk.injEq] at e
      obtain ⟨rfl, rfl⟩ := e
      obtain ⟨h1, h2, h3⟩ := hpr f args u hu
      have : args' = args := plains_eq 3 h1 hargs
      subst this
      refine ⟨Keeps.refl _, (h3 w).mono ?_⟩
      rintro e w' ⟨rfl, hb⟩
      exact ⟨u, ρ, rfl, plain_refl 3 u h2, Ext.refl ρ, hR.step hb⟩
    split at e
    · cases e
    rename_i fn hfn
    split at e
    · cases e
    rename_i c hc
    split at e
    · cases e
    rename_i hlen
    simp only [Bool.and_eq_true, decide_eq_true_eq] at hlen
    have ih := callA_ok hpr n d
    have fin : ∀ (x : Ex) (s : AS) (vs : List Value), codeA P (callA P pr n d) fn.ntmps n c ⟨fromList 0 args .e, h⟩ = some (x, s) → (x = .norm ∨ x = .ret) → resultsA P fn.ntmps s fn.results.toList = some vs →
        v = packA vs → h' = s.h → Keeps h h' ∧ Calls P f ⟨args'⟩ w fun e w' => ∃ v' ρ', e = .returned v' ∧ VR ρ' v v' ∧ Ext ρ ρ' ∧ Rel P w0 ρ' h' w' := by
      intro x s vs hcode hx hres hv hh
      have hS : St P w0 fn.ntmps ρ ⟨fromList 0 args .e, h⟩ { tmps := ⟨args'⟩ ++ Array.replicate (fn.ntmps - (⟨args'⟩ : Array Value).size) undef, defers := [] } w := ⟨hR, fromList_ok hargs hlen.1 hlen.2, rfl⟩
      obtain ⟨hwp, hk, _⟩ := codeA_ok (w0 := w0) (nt := fn.ntmps) ih n c ρ _ s x _ w hS hcode
      refine ⟨by rw [hh]; exact hk, calls_of_wp hfn hc (wp_mono hwp fun e a' w' hq => ?_)⟩
      obtain ⟨rfl, ρ', he, hS'⟩ := hq
      obtain ⟨vs', hvs, hrun⟩ := results_ok hS' _ _ hres
      have hresults : (results fn a'.tmps).run P w' = .ok (packA vs') w' := by
        have e0 : results fn a'.tmps = (do let vs ← fn.results.mapM (rvar a'.tmps); pure (if h : vs.size = 1 then vs[0] else .tuple vs)) := by
          unfold results
          congr 2
        rw [e0, Array.mapM_eq_mapM_toList]
        simp only [Sem.run_bind, Sem.run_map, hrun]
        simp only [Result.andThen_ok, Sem.run_pure]
        congr 1
        cases vs' with
        | nil => rfl
        | cons a l => cases l <;> rfl
      have hvv : VR ρ' v (packA vs') := by
        rw [hv]
        cases hvs with
        | nil => exact .tuple .nil
        | cons a b =>
          cases b with
          | nil => exact a
          | cons b c => exact .tuple (.cons a (.cons b c))
      have : bodyPost P fn (fun e w' => ∃ v' ρ', e = .returned v' ∧ VR ρ' v v' ∧ Ext ρ ρ' ∧ Rel P w0 ρ' h' w') .ret a' w' := ⟨hS'.defers, _, hresults, _, ρ', rfl, hvv, he, by rw [hh]; exact hS'.rel⟩
      rcases hx with rfl | rfl
      · exact this
      · exact this
    split at e
    · rename_i s hcode
      cases hres : resultsA P fn.ntmps s fn.results.toList with
      | none => simp [hres] at e
      | some vs =>
        simp only [hres, Option.map_some, Option.some.injEq, Prod.mk.injEq] at e
        exact fin .norm s vs hcode (.inl rfl) hres e.1.symm e.2.symm
    · rename_i s hcode
      cases hres : resultsA P fn.ntmps s fn.results.toList with
      | none => simp [hres] at e
      | some vs =>
        simp only [hres, Option.map_some, Option.some.injEq, Prod.mk.injEq] at e
        exact fin .ret s vs hcode (.inr rfl) hres e.1.symm e.2.symm
    · cases e

theorem rel_empty (P : Program) (w : World) : Rel P w (fun _ => none) Hp.empty w :=
  ⟨Below.refl _ _, (fun _ _ => rfl), (fun k _ => Hp.get_empty k), Nat.le_refl _, (fun k b h => by rw [Hp.get_empty] at h; cases h), (fun _ _ _ _ h => by cases h), (fun _ _ _ _ h => by cases h), (fun _ _ _ _ _ _ _ _ _ h => by cases h)⟩

def saysA (b : Bool) : Option (Value × Hp) → Bool
  | some (.bool x, _) => x == b
  | _ => false

/-- **A CALL WITHOUT ARGUMENTS THAT IS RECKONED: it answers so in whatever world.** -/
theorem closed_call {pr : Prim} (hpr : PrimOk P pr) {n d : Nat} {f : FuncId} {b : Bool} (h : saysA b (callA P pr n d f [] Hp.empty) = true) (w : World) :
    Calls P f #[] w fun e w' => e = .returned (.bool b) ∧ Below w.heap.size w w' := by
  cases hc : callA P pr n d f [] Hp.empty with
  | none => rw [hc] at h; simp [saysA] at h
  | some r =>
    obtain ⟨v, h'⟩ := r
    rw [hc] at h
    cases v <;> simp [saysA] at h
    subst h
    refine (callA_ok hpr n d f [] Hp.empty _ h' hc w _ w [] (rel_empty P w) .nil).2.mono ?_
    rintro e w' ⟨v', ρ', rfl, hv, _, hR⟩
    exact ⟨by rw [hv.bool_inv], hR.below⟩
end
end Go.Ab
