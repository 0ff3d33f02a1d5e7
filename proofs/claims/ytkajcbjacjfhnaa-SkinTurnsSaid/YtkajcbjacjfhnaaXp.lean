/- Code; calls. -/
import Derived.Test.YtkajcbjacjfhnaaXo
namespace Go.Ab
open Go Go.RowKit

def Ex.toExit : Ex → Exit
  | .norm => .normal
  | .exit id => .exit id
  | .ret => .ret

section
variable {P : Program} {w0 : World} {nt : Nat}

def EndsC (P : Program) (w0 : World) (nt : Nat) (ρ : Ren) (x : Ex) (s : AS) : Exit → Act → World → Prop := fun e a w => e = x.toExit ∧ ∃ ρ', Ext ρ ρ' ∧ St P w0 nt ρ' s a w

/-- what is known of a piece of code that was reckoned -/
def Good (P : Program) (w0 : World) (nt : Nat) (c : Code) (f : AS → Option (Ex × AS)) : Prop := ∀ (ρ : Ren) (s s' : AS) (x : Ex) (a : Act) (w : World), St P w0 nt ρ s a w → f s = some (x, s') →
  c.wp P (EndsC P w0 nt ρ x s') a w ∧ Keeps s.h s'.h ∧ ∃ ρ' a' w', Ext ρ ρ' ∧ St P w0 nt ρ' s' a' w'

theorem good_seq {a b : Code} {f g : AS → Option (Ex × AS)} (ha : Good P w0 nt a f) (hb : Good P w0 nt b g) : Good P w0 nt (.seq a b) (fun s => match f s with | some (.norm, s') => g s' | r => r) := by
  intro ρ s s' x ac w hS h
  simp only [] at h
  split at h
  · rename_i s1 h1
    obtain ⟨w1, k1, ρ1, a1, w1', e1, S1⟩ := ha ρ s s1 .norm ac w hS h1
    obtain ⟨_, k2, ρ2, a2, w2, e2, S2⟩ := hb ρ1 s1 s' x a1 w1' S1 h
    refine ⟨wp_seq (wp_mono w1 fun e a' w' hq => ?_), k1.trans k2, ρ2, a2, w2, e1.trans e2, S2⟩
    obtain ⟨rfl, ρ', he, hS'⟩ := hq
    obtain ⟨hw, _⟩ := hb ρ' s1 s' x a' w' hS' h
    exact wp_mono hw fun e a2 w2 ⟨h1, ρ2, h2, h3⟩ => ⟨h1, ρ2, he.trans h2, h3⟩
  · rename_i hne
    obtain ⟨w1, k1, hx⟩ := ha ρ s s' x ac w hS h
    refine ⟨wp_seq (wp_mono w1 fun e a' w' hq => ?_), k1, hx⟩
    obtain ⟨rfl, hq⟩ := hq
    cases x with
    | norm => exact absurd h (hne s')
    | exit id => exact ⟨rfl, hq⟩
    | ret => exact ⟨rfl, hq⟩

theorem good_block {id : Nat} {c : Code} {f : AS → Option (Ex × AS)} (hc : Good P w0 nt c f) : Good P w0 nt (.block id c) (fun s => match f s with | some (.exit j, s') => if j = id then some (.norm, s') else some (.exit j, s') | r => r) := by
  intro ρ s s' x ac w hS h
  simp only [] at h
  split at h
  · rename_i j s1 h1
    obtain ⟨w1, k1, hx⟩ := hc ρ s s1 (.exit j) ac w hS h1
    split at h
    · rename_i e
      cases h
      refine ⟨wp_block (wp_mono w1 fun e' a' w' hq => ?_), k1, hx⟩
      obtain ⟨rfl, hq⟩ := hq
      show Exit.inBlock id _ (Exit.exit j) a' w'
      simp only [Exit.inBlock, e, if_true]
      exact ⟨rfl, hq⟩
    · rename_i e
      cases h
      refine ⟨wp_block (wp_mono w1 fun e' a' w' hq => ?_), k1, hx⟩
      obtain ⟨rfl, hq⟩ := hq
      show Exit.inBlock id _ (Exit.exit j) a' w'
      simp only [Exit.inBlock, e, if_false]
      exact ⟨rfl, hq⟩
  · rename_i hne
    obtain ⟨w1, k1, hx⟩ := hc ρ s s' x ac w hS h
    refine ⟨wp_block (wp_mono w1 fun e a' w' hq => ?_), k1, hx⟩
    obtain ⟨rfl, hq⟩ := hq
    cases x with
    | norm => exact ⟨rfl, hq⟩
    | exit j => exact absurd h (hne j s')
    | ret => exact ⟨rfl, hq⟩

theorem exists_min {p : Nat → Prop} (h : ∃ k, p k) : ∃ k, p k ∧ ∀ j, p j → k ≤ j := by
  obtain ⟨k, hk⟩ := h
  induction k using Nat.strongRecOn with
  | _ k ih =>
    by_cases hj : ∃ j, j < k ∧ p j
    · obtain ⟨j, hlt, hpj⟩ := hj; exact ih j hlt hpj
    · exact ⟨k, hk, fun j hpj => Nat.le_of_not_lt fun hlt => hj ⟨j, hlt, hpj⟩⟩

theorem good_loop {c : Code} {f : AS → Option (Ex × AS)} (hc : Good P w0 nt c f) (n : Nat) : Good P w0 nt (.loop c) (fun s => iterA f n s) := by
  intro ρ s s' x ac w hS h
  simp only [] at h
  -- what the rounds come to
  have some : ∀ (n : Nat) (ρ : Ren) (s : AS) (ac : Act) (w : World), St P w0 nt ρ s ac w → iterA f n s = some (x, s') → Keeps s.h s'.h ∧ ∃ ρ' a' w', Ext ρ ρ' ∧ St P w0 nt ρ' s' a' w' := by
    intro n
    induction n with
    | zero => intro ρ s ac w _ h; simp [iterA] at h
    | succ n ih =>
      intro ρ s ac w hS h
      simp only [iterA] at h
      split at h
      · rename_i s1 h1
        obtain ⟨_, k1, ρ1, a1, w1, e1, S1⟩ := hc ρ s s1 .norm ac w hS h1
        obtain ⟨k2, ρ2, a2, w2, e2, S2⟩ := ih ρ1 s1 a1 w1 S1 h
        exact ⟨k1.trans k2, ρ2, a2, w2, e1.trans e2, S2⟩
      · obtain ⟨_, k1, hx⟩ := hc ρ s s' x ac w hS h
        exact ⟨k1, hx⟩
  refine ⟨?_, some n ρ s ac w hS h⟩
  let J : Nat → Act → World → Prop := fun k a w => ∃ s1 ρ1, iterA f k s1 = .some (x, s') ∧ Ext ρ ρ1 ∧ St P w0 nt ρ1 s1 a w
  classical
  let μ : Act → World → Nat := fun a w => if h : ∃ k, J k a w then Classical.choose (exists_min h) else 0
  have hmin : ∀ a w (h : ∃ k, J k a w), J (μ a w) a w ∧ ∀ j, J j a w → μ a w ≤ j := fun a w h => by
    have e : μ a w = Classical.choose (exists_min h) := dif_pos h
    rw [e]
    exact Classical.choose_spec (exists_min h)
  refine wp_loop (fun a w => ∃ k, J k a w) μ ⟨n, s, ρ, h, Ext.refl ρ, hS⟩ fun a w hI => ?_
  obtain ⟨⟨s1, ρ1, hit, he1, hS1⟩, _⟩ := hmin a w hI
  cases hk : μ a w with
  | zero => rw [hk] at hit; simp [iterA] at hit
  | succ k =>
    rw [hk] at hit
    simp only [iterA] at hit
    split at hit
    · rename_i s2 h2
      obtain ⟨hw, _⟩ := hc ρ1 s1 s2 .norm a w hS1 h2
      refine wp_mono hw fun e a' w' hq => ?_
      obtain ⟨rfl, ρ2, he2, hS2⟩ := hq
      have hJ : J k a' w' := ⟨s2, ρ2, hit, he1.trans he2, hS2⟩
      exact ⟨⟨k, hJ⟩, Nat.lt_of_le_of_lt ((hmin a' w' ⟨k, hJ⟩).2 k hJ) (Nat.lt_succ_self k)⟩
    · rename_i hne
      obtain ⟨hw, _⟩ := hc ρ1 s1 s' x a w hS1 hit
      refine wp_mono hw fun e a' w' hq => ?_
      obtain ⟨rfl, ρ2, he2, hS2⟩ := hq
      cases x with
      | norm => exact absurd hit (hne s')
      | exit id => exact ⟨rfl, ρ2, he1.trans he2, hS2⟩
      | ret => exact ⟨rfl, ρ2, he1.trans he2, hS2⟩

theorem codeA_ok {cf : CF} (hcf : CFok P cf) (n : Nat) : ∀ c : Code, Good P w0 nt c (codeA P cf nt n c)
  | .skip => fun ρ s s' x a w hS h => by
    simp [codeA] at h; obtain ⟨rfl, rfl⟩ := h
    exact ⟨wp_skip ⟨rfl, ρ, Ext.refl ρ, hS⟩, Keeps.refl _, ρ, a, w, Ext.refl ρ, hS⟩
  | .label l => fun ρ s s' x a w hS h => by
    simp [codeA] at h; obtain ⟨rfl, rfl⟩ := h
    exact ⟨wp_label ⟨rfl, ρ, Ext.refl ρ, hS⟩, Keeps.refl _, ρ, a, w, Ext.refl ρ, hS⟩
  | .region id ops draw => fun ρ s s' x a w hS h => by
    simp only [codeA] at h
    cases hr : regionA P cf nt ops draw s with
    | none => simp [hr] at h
    | some s1 =>
      simp only [hr, Option.map_some, Option.some.injEq, Prod.mk.injEq] at h
      obtain ⟨rfl, rfl⟩ := h
      obtain ⟨h1, h2⟩ := region_ok hcf (id := id) hS hr
      exact ⟨wp_mono h1 fun e a w ⟨h1, h2⟩ => ⟨h1, h2⟩, h2⟩
  | .seq a b => good_seq (codeA_ok hcf n a) (codeA_ok hcf n b)
  | .cond c x y => fun ρ s s' ex a w hS h => by
    simp only [codeA] at h
    split at h
    case h_2 => cases h
    rename_i hok
    have hv : VR ρ (aev s.t c) (a.eval c) := by
      cases c with
      | tmp i => exact hS.tm.2 i (by simpa [okOpd] using hok)
      | const v => exact plain_refl 3 v hok
      | global g => simp [okOpd] at hok
      | func f => exact .func _ .nil .nil
    split at h
    · rename_i hb
      rw [hb] at hv
      obtain ⟨h1, h2⟩ := codeA_ok hcf n x ρ s s' ex a w hS h
      exact ⟨wp_cond_true hv.bool_inv h1, h2⟩
    · rename_i hb
      rw [hb] at hv
      obtain ⟨h1, h2⟩ := codeA_ok hcf n y ρ s s' ex a w hS h
      exact ⟨wp_cond_false hv.bool_inv h1, h2⟩
    · cases h
  | .block id c => good_block (codeA_ok hcf n c)
  | .loop c => good_loop (codeA_ok hcf n c) n
  | .exit id => fun ρ s s' x a w hS h => by
    simp [codeA] at h; obtain ⟨rfl, rfl⟩ := h
    exact ⟨wp_exit ⟨rfl, ρ, Ext.refl ρ, hS⟩, Keeps.refl _, ρ, a, w, Ext.refl ρ, hS⟩
  | .ret => fun ρ s s' x a w hS h => by
    simp [codeA] at h; obtain ⟨rfl, rfl⟩ := h
    exact ⟨wp_ret ⟨rfl, ρ, Ext.refl ρ, hS⟩, Keeps.refl _, ρ, a, w, Ext.refl ρ, hS⟩
  | .rangeFunc .. => fun ρ s s' x a w hS h => by simp [codeA] at h
  | .scope _ => fun ρ s s' x a w hS h => by simp [codeA] at h
  | .goto _ => fun ρ s s' x a w hS h => by simp [codeA] at h
  | .refuse _ => fun ρ s s' x a w hS h => by simp [codeA] at h

/-! ### a call -/

theorem fromList_get : ∀ (l : List Value) (k : Nat) (t : Tre Value) (i : Nat), k + l.length ≤ 2 ^ 15 → (fromList k l t).get 16 i = if k ≤ i ∧ i < k + l.length then l[i - k]? else t.get 16 i
  | [], k, t, i, _ => by simp [fromList]; omega
  | x :: l, k, t, i, h => by
    simp only [List.length_cons] at h
    rw [fromList, fromList_get l (k + 1) _ i (by omega)]
    by_cases hi : i = k
    · subst hi
      rw [if_neg (by omega), if_pos (by simp), Nat.sub_self, Tre.get_set_same 15 t i x (by omega)]
      rfl
    · by_cases h2 : k + 1 ≤ i ∧ i < k + 1 + l.length
      · rw [if_pos h2, if_pos (by simp; omega), show i - k = (i - (k + 1)) + 1 by omega]
        rfl
      · rw [if_neg h2, if_neg (by simp; omega), Tre.get_set_other 16 t k i x hi]

theorem fromList_ok {ρ : Ren} {args args' : List Value} (h : VRs ρ args args') {m : Nat} (hl : args.length ≤ m) (hm : m ≤ 2 ^ 15) : TmR ρ m (fromList 0 args .e) (⟨args'⟩ ++ Array.replicate (m - args'.length) undef) := by
  have hlen := h.length
  refine ⟨by simp [hlen]; omega, fun i hi => ?_⟩
  have e : getT (fromList 0 args .e) i = (args[i]?).getD undef := by
    unfold getT
    simp only [fromList_get args 0 .e i (by omega)]
    by_cases h1 : i < args.length
    · rw [if_pos ⟨Nat.zero_le _, by omega⟩]
      simp [h1]
    · rw [if_neg (by omega), Tre.get_e]
      simp [List.getElem?_eq_none (Nat.le_of_not_lt h1)]
  rw [e]
  by_cases h1 : i < args.length
  · obtain ⟨v', hv', r⟩ := h.get i _ (List.getElem?_eq_getElem h1)
    have : ((⟨args'⟩ : Array Value) ++ Array.replicate (m - args'.length) undef).getD i undef = v' := by
      rw [Array.getD_eq_getD_getElem?, Array.getElem?_append_left (by simp [hlen]; exact h1)]
      simp [hv']
    rw [this, List.getElem?_eq_getElem h1]
    exact r
  · have : ((⟨args'⟩ : Array Value) ++ Array.replicate (m - args'.length) undef).getD i undef = undef := by
      rw [Array.getD_eq_getD_getElem?, Array.getElem?_append_right (by simp [hlen]; omega)]
      simp
      rw [Array.getElem?_replicate]
      split <;> rfl
    rw [this, List.getElem?_eq_none (Nat.le_of_not_lt h1)]
    exact vr_undef _

def rvar (t : Array Value) : ResultVar → Sem Value
  | .tmp i => pure (t.getD i undef)
  | .cell b t' => do loadVar t' (← asAddr (t.getD b undef))

theorem result_ok {ρ : Ren} {s : AS} {a : Act} {w : World} (hS : St P w0 nt ρ s a w) {r : ResultVar} {v : Value} (h : resultA P nt s r = some v) :
    ∃ v', VR ρ v v' ∧ (rvar a.tmps r).run P w = .ok v' w := by
  unfold resultA at h
  split at h
  · rename_i t
    split at h
    case h_2 => cases h
    rename_i hd
    cases h
    exact ⟨_, hS.tm.2 t (by simpa using hd), rfl⟩
  · rename_i b t
    split at h
    case h_2 => cases h
    rename_i ad hd hv
    have hb := hS.tm.2 b (by simpa using hd)
    rw [hv] at hb
    obtain ⟨a', e, har⟩ := hb.ptr_inv
    obtain ⟨v', r, q⟩ := loadA_ok hS.rel har h
    refine ⟨v', r, ?_⟩
    simp only [rvar]
    rw [e]
    simp [asAddr, q w (near_refl _ _ _ _)]

theorem results_ok {ρ : Ren} {s : AS} {a : Act} {w : World} (hS : St P w0 nt ρ s a w) : ∀ (l : List ResultVar) (vs : List Value), resultsA P nt s l = some vs →
    ∃ vs', VRs ρ vs vs' ∧ (l.mapM (rvar a.tmps)).run P w = .ok vs' w
  | [], vs, h => by simp [resultsA] at h; subst h; exact ⟨[], .nil, rfl⟩
  | r :: l, vs, h => by
    simp only [resultsA] at h
    split at h
    case h_2 => cases h
    rename_i v vs1 h1 h2
    cases h
    obtain ⟨v', r1, q1⟩ := result_ok hS h1
    obtain ⟨vs', r2, q2⟩ := results_ok hS l vs1 h2
    refine ⟨v' :: vs', .cons r1 r2, ?_⟩
    rw [List.mapM_cons, Sem.run_bind, q1, Result.andThen_ok, Sem.run_bind, q2]
    rfl

theorem Rel.step {ρ : Ren} {H : Hp} {w w' : World} (h : Rel P w0 ρ H w) (hb : Below w.heap.size w w') : Rel P w0 ρ H w' := by
  have keep : ∀ k p, Live H k → ρ k = some p → w'.heap[p.real]? = w.heap[p.real]? := fun k p hl hp => by
    obtain ⟨q, hq, hlt⟩ := h.live hl
    rw [hp] at hq; cases hq
    exact hb.block _ hlt
  exact ⟨h.below.trans (hb.mono h.below.size), h.fresh, h.top, h.lo, fun k b hk => (h.blk k b hk).move (Ext.refl ρ) fun hd p hp => keep k p (live_of hk hd) hp, h.old,
    fun k p hl hk hp => ⟨(h.own k p hl hk hp).1, (h.own k p hl hk hp).2.move (keep k p hl hp)⟩, h.inj⟩

def PrimOk (P : Program) (pr : Prim) : Prop := ∀ f args v, pr f args = some v → args.all (plain 3) = true ∧ plain 3 v = true ∧ ∀ w, Calls P f ⟨args⟩ w fun e w' => e = .returned v ∧ Below w.heap.size w w'

theorem callA_ok {pr : Prim} (hpr : PrimOk P pr) (n : Nat) : ∀ d, CFok P (callA P pr n d)
  | 0 => fun f args h v h' e => by simp [callA] at e
  | d + 1 => fun f args h v h' e w0 ρ w args' hR hargs => by
    simp only [callA] at e
    split at e
    · rename_i u hu
      simp only [Option.some.injEq, Prod.mk.injEq] at e
      obtain ⟨rfl, rfl⟩ := e
      obtain ⟨h1, h2, h3⟩ := hpr f args u hu
      have : args' = args := plains_eq 3 h1 hargs
      subst this
      refine ⟨Keeps.refl _, (h3 w).mono ?_⟩
      rintro e w' ⟨rfl, hb⟩
      exact ⟨u, ρ, rfl, plain_refl 3 u h2, Ext.refl ρ, hR.step hb⟩
    split at e
    · cases e
    rename_i fn hfn
    split at e
    · cases e
    rename_i c hc
    split at e
    · cases e
    rename_i hlen
    simp only [Bool.and_eq_true, decide_eq_true_eq] at hlen
    have ih := callA_ok hpr n d
    have fin : ∀ (x : Ex) (s : AS) (vs : List Value), codeA P (callA P pr n d) fn.ntmps n c ⟨fromList 0 args .e, h⟩ = some (x, s) → (x = .norm ∨ x = .ret) → resultsA P fn.ntmps s fn.results.toList = some vs →
        v = packA vs → h' = s.h → Keeps h h' ∧ Calls P f ⟨args'⟩ w fun e w' => ∃ v' ρ', e = .returned v' ∧ VR ρ' v v' ∧ Ext ρ ρ' ∧ Rel P w0 ρ' h' w' := by
      intro x s vs hcode hx hres hv hh
      have hS : St P w0 fn.ntmps ρ ⟨fromList 0 args .e, h⟩ { tmps := ⟨args'⟩ ++ Array.replicate (fn.ntmps - (⟨args'⟩ : Array Value).size) undef, defers := [] } w := ⟨hR, fromList_ok hargs hlen.1 hlen.2, rfl⟩
      obtain ⟨hwp, hk, _⟩ := codeA_ok (w0 := w0) (nt := fn.ntmps) ih n c ρ _ s x _ w hS hcode
      refine ⟨by rw [hh]; exact hk, calls_of_wp hfn hc (wp_mono hwp fun e a' w' hq => ?_)⟩
      obtain ⟨rfl, ρ', he, hS'⟩ := hq
      obtain ⟨vs', hvs, hrun⟩ := results_ok hS' _ _ hres
      have hresults : (results fn a'.tmps).run P w' = .ok (packA vs') w' := by
        have e0 : results fn a'.tmps = (do let vs ← fn.results.mapM (rvar a'.tmps); pure (if h : vs.size = 1 then vs[0] else .tuple vs)) := by
          unfold results
          congr 2
        rw [e0, Array.mapM_eq_mapM_toList]
        simp only [Sem.run_bind, Sem.run_map, hrun]
        simp only [Result.andThen_ok, Sem.run_pure]
        congr 1
        cases vs' with
        | nil => rfl
        | cons a l => cases l <;> rfl
      have hvv : VR ρ' v (packA vs') := by
        rw [hv]
        cases hvs with
        | nil => exact .tuple .nil
        | cons a b =>
          cases b with
          | nil => exact a
          | cons b c => exact .tuple (.cons a (.cons b c))
      have : bodyPost P fn (fun e w' => ∃ v' ρ', e = .returned v' ∧ VR ρ' v v' ∧ Ext ρ ρ' ∧ Rel P w0 ρ' h' w') .ret a' w' := ⟨hS'.defers, _, hresults, _, ρ', rfl, hvv, he, by rw [hh]; exact hS'.rel⟩
      rcases hx with rfl | rfl
      · exact this
      · exact this
    split at e
    · rename_i s hcode
      cases hres : resultsA P fn.ntmps s fn.results.toList with
      | none => simp [hres] at e
      | some vs =>
        simp only [hres, Option.map_some, Option.some.injEq, Prod.mk.injEq] at e
        exact fin .norm s vs hcode (.inl rfl) hres e.1.symm e.2.symm
    · rename_i s hcode
      cases hres : resultsA P fn.ntmps s fn.results.toList with
      | none => simp [hres] at e
      | some vs =>
        simp only [hres, Option.map_some, Option.some.injEq, Prod.mk.injEq] at e
        exact fin .ret s vs hcode (.inr rfl) hres e.1.symm e.2.symm
    · cases e

theorem rel_empty (P : Program) (w : World) : Rel P w (fun _ => none) Hp.empty w :=
  ⟨Below.refl _ _, (fun _ _ => rfl), (fun k _ => Hp.get_empty k), Nat.le_refl _, (fun k b h => by rw [Hp.get_empty] at h; cases h), (fun _ _ _ _ h => by cases h), (fun _ _ _ _ h => by cases h), (fun _ _ _ _ _ _ _ _ _ h => by cases h)⟩

def saysA (b : Bool) : Option (Value × Hp) → Bool
  | some (.bool x, _) => x == b
  | _ => false

/-- **A CALL WITHOUT ARGUMENTS THAT IS RECKONED: it answers so in whatever world.** -/
theorem closed_call {pr : Prim} (hpr : PrimOk P pr) {n d : Nat} {f : FuncId} {b : Bool} (h : saysA b (callA P pr n d f [] Hp.empty) = true) (w : World) :
    Calls P f #[] w fun e w' => e = .returned (.bool b) ∧ Below w.heap.size w w' := by
  cases hc : callA P pr n d f [] Hp.empty with
  | none => rw [hc] at h; simp [saysA] at h
  | some r =>
    obtain ⟨v, h'⟩ := r
    rw [hc] at h
    cases v <;> simp [saysA] at h
    subst h
    refine (callA_ok hpr n d f [] Hp.empty _ h' hc w _ w [] (rel_empty P w) .nil).2.mono ?_
    rintro e w' ⟨v', ρ', rfl, hv, _, hR⟩
    exact ⟨by rw [hv.bool_inv], hR.below⟩
end
end Go.Ab
