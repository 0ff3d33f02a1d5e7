/- A region that draws, some of its operations not quick; code; calls. -/
import Derived.Test.YtkajcbjacjfhnaaXn
namespace Go.Ab
open Go Go.RowKit

/-! ### equality that is reckoned -/

theorem veqs_ok (n : Nat) (h : ∀ v u, veq n v u = true → v = u) : ∀ (l m : List Value), veq.veqs n l m = true → l = m
  | [], [], _ => rfl
  | [], _ :: _, e => by simp [veq.veqs] at e
  | _ :: _, [], e => by simp [veq.veqs] at e
  | x :: l, y :: m, e => by
    simp only [veq.veqs, Bool.and_eq_true] at e
    rw [h x y e.1, veqs_ok n h l m e.2]

theorem bytes_ext {a b : ByteArray} (h : a.data.toList = b.data.toList) : a = b := by
  cases a; cases b; congr; exact Array.ext' h

theorem veq_ok : ∀ (n : Nat) (v u : Value), veq n v u = true → v = u := by
  intro n
  induction n with
  | zero =>
    intro v u h
    cases v <;> cases u <;> simp [veq] at h <;> first | (subst h; rfl) | (obtain ⟨rfl, rfl⟩ := h; rfl) | (obtain ⟨⟨rfl, rfl⟩, rfl⟩ := h; rfl) | (obtain ⟨rfl, rfl, rfl⟩ := h; rfl) | rfl | skip
    all_goals (rw [bytes_ext (Array.toList_inj.2 h)])
  | succ n ih =>
    intro v u h
    have ihs := veqs_ok n ih
    cases v <;> cases u <;> simp [veq] at h <;> first | (subst h; rfl) | (obtain ⟨rfl, rfl⟩ := h; rfl) | (obtain ⟨⟨rfl, rfl⟩, rfl⟩ := h; rfl) | (obtain ⟨rfl, rfl, rfl⟩ := h; rfl) | rfl | skip
    case string.string => rw [bytes_ext (Array.toList_inj.2 h)]
    case agg.agg => rw [Array.ext' (ihs _ _ h)]
    case tuple.tuple => rw [Array.ext' (ihs _ _ h)]
    case iface.iface => rw [h.1, ih _ _ h.2]
    case func.func => rw [h.1.1, Array.ext' (ihs _ _ h.1.2), Array.ext' (ihs _ _ h.2)]

theorem eeq_ok : ∀ (l m : List MapEntry), eeq l m = true → l = m
  | [], [], _ => rfl
  | [], _ :: _, e => by simp [eeq] at e
  | _ :: _, [], e => by simp [eeq] at e
  | ⟨k, v, b⟩ :: l, ⟨k', v', b'⟩ :: m, e => by
    simp only [eeq, Bool.and_eq_true, beq_iff_eq] at e
    obtain ⟨⟨⟨h1, h2⟩, h3⟩, h4⟩ := e
    rw [veq_ok 4 _ _ h1, veq_ok 4 _ _ h2, h3, eeq_ok l m h4]

theorem teq_ok : ∀ (t u : Tm), teq t u = true → t = u := by
  intro t
  induction t with
  | e => intro u h; cases u with | e => rfl | n v l r => simp [teq] at h
  | n v l r ihl ihr =>
    intro u h
    cases u with
    | e => cases v <;> simp [teq] at h
    | n v' l' r' =>
      cases v <;> cases v' <;> simp only [teq, Bool.and_eq_true, Bool.false_eq_true] at h
      · rw [ihl _ h.1, ihr _ h.2]
      · rw [veq_ok 4 _ _ h.1.1, ihl _ h.1.2, ihr _ h.2]

theorem beqB_ok {a b : Option Blk} (h : beqB a b = true) : a = b := by
  unfold beqB at h
  split at h
  · rfl
  · rfl
  · simp only [Bool.and_eq_true, beq_iff_eq] at h; rw [h.1, veqs_ok 4 (veq_ok 4) _ _ h.2]
  · simp only [Bool.and_eq_true, beq_iff_eq] at h; rw [h.2, eeq_ok _ _ h.1]
  · simp only [Bool.and_eq_true, beq_iff_eq] at h; rw [h.2, bytes_ext h.1]
  · cases h

section
variable {P : Program} {ρ : Ren} {w0 w : World} {nt : Nat}

theorem asEq_ok {s s' : AS} (h : asEq s s' = true) {H : Hp} (k : Keeps H s.h) (k' : Keeps H s'.h) (ht : ∀ k, s.h.next ≤ k → s.h.get k = none) {a : Act} (hS : St P w0 nt ρ s' a w) : St P w0 nt ρ s a w := by
  unfold asEq heapEq at h
  simp only [Bool.and_eq_true, beq_iff_eq] at h
  obtain ⟨h2, ⟨h3, h4⟩, h5⟩ := h
  have h2 := teq_ok _ _ h2
  refine ⟨hS.rel.congr h3 h4 fun j => ?_, by rw [h2]; exact hS.tm, hS.defers⟩
  · by_cases hj : j < H.lo
    · rw [k.get j hj, k'.get j hj]
    · by_cases hn : s.h.next ≤ j
      · rw [ht j hn, hS.rel.top j (by rw [← h4]; exact hn)]
      · have := List.all_eq_true.1 h5 (j - s.h.lo) (by rw [List.mem_range]; have := k.lo; omega)
        have e : s.h.lo + (j - s.h.lo) = j := by have := k.lo; omega
        rw [e] at this
        exact beqB_ok this

theorem drawA_some {cf : CF} (hcf : CFok P cf) {ops : Array Oper} {base : Nat} : ∀ (f : Nat) (p : Plan) (ρ : Ren) (s s' : AS) (a : Act) (w : World), St P w0 nt ρ s a w → okOps nt ops = true → drawA P cf ops base f p s = some s' →
    Keeps s.h s'.h ∧ ∃ ρ' a' w', Ext ρ ρ' ∧ St P w0 nt ρ' s' a' w'
  | 0, p, ρ, s, s', a, w, hS, _, h => by
    simp only [drawA] at h
    split at h
    · cases h; exact ⟨Keeps.refl _, ρ, a, w, Ext.refl _, hS⟩
    · cases h
  | f + 1, p, ρ, s, s', a, w, hS, hok, h => by
    simp only [drawA] at h
    split at h
    · cases h; exact ⟨Keeps.refl _, ρ, a, w, Ext.refl _, hS⟩
    · cases h
    · rename_i i rest
      split at h
      case h_2 => cases h
      rename_i s2 hq
      obtain ⟨o, v', ho, hy, hS1, hh⟩ := quickA_ok hS hok hq
      obtain ⟨h1, h3⟩ := drawA_some hcf f rest ρ s2 s' _ w hS1 hok h
      exact ⟨by rw [← hh]; exact h1, h3⟩
    · rename_i l
      split at h
      case h_2 => cases h
      rename_i e more hends
      split at h
      case h_2 => cases h
      cases h
      cases l with
      | nil => simp at hends
      | cons ip l =>
        simp only [List.map_cons, List.cons.injEq] at hends
        obtain ⟨he, _⟩ := hends
        split at he
        case h_2 => cases he
        rename_i s1 hs1
        obtain ⟨hk, ρ1, a1, w1, he1, hS1⟩ := stepA_some hcf hS hok hs1
        obtain ⟨hk2, ρ2, a2, w2, he2, hS2⟩ := drawA_some hcf f ip.2 ρ1 s1 s' a1 w1 hS1 hok he
        exact ⟨hk.trans hk2, ρ2, a2, w2, he1.trans he2, hS2⟩

theorem drawA_ok {cf : CF} (hcf : CFok P cf) {ops : Array Oper} (hsel : Region.noSelect ops = true) {base : Nat} {ρ0 : Ren} {tgt : AS} : ∀ (f : Nat) (listed : Array Bool) (ρ : Ren) (s s' : AS) (a : Act) (w : World), St P w0 nt ρ s a w → okOps nt ops = true → Ext ρ0 ρ →
    drawA P cf ops base f (planA ops f listed) s = some s' → (∀ ρ a w, St P w0 nt ρ s' a w → St P w0 nt ρ tgt a w) → wpAnyH P .any ops (Ends P w0 nt ρ0 tgt) (Below w0.heap.size w0) f listed a w
  | 0, listed, ρ, s, s', a, w, hS, _, hE, h, ht => by
    simp only [planA, drawA] at h
    split at h
    · rename_i hp
      split at hp
      · rename_i hr
        cases h
        exact ⟨hr, rfl, ρ, hE, ht _ _ _ hS⟩
      · cases hp
    · cases h
  | f + 1, listed, ρ, s, s', a, w, hS, hok, hE, h, ht => by
    simp only [planA, drawA] at h
    cases hr : Region.ready .any ops listed with
    | nil =>
      simp only [hr] at h
      cases h
      exact wpAnyH_done hr ⟨rfl, ρ, hE, ht _ _ _ hS⟩ _
    | cons i0 rs =>
      simp only [hr] at h
      cases hfind : (i0 :: rs).find? (firstA ops listed) with
      | some j =>
        simp only [hfind] at h
        have hjm : j ∈ Region.ready .any ops listed := by rw [hr]; exact List.mem_of_find?_eq_some hfind
        have hfree : Region.free .any ops listed j = true := by
          have := List.find?_some hfind
          simp only [firstA, Bool.and_eq_true] at this
          exact this.1
        cases hq : quickA P ops j s with
        | none => simp [hq] at h
        | some s2 =>
          simp only [hq] at h
          obtain ⟨o, v', ho, hy, hS1, hh⟩ := quickA_ok hS hok hq
          have := drawA_ok hcf hsel f _ ρ s2 s' _ w hS1 hok hE h ht
          exact wpAnyH_take ho hsel hfree (by simpa using hjm) (fun c a w h => by cases h.1) hy hS.rel.below this
      | none =>
        simp only [hfind] at h
        split at h
        case h_2 => cases h
        rename_i e more hends
        split at h
        case h_2 => cases h
        rename_i hall
        cases h
        rw [List.map_map] at hends
        refine wpAnyH_all hr (by simp) fun i hi => ?_
        -- what the first order came to
        have hfirst : Keeps s.h s'.h ∧ ∀ k, s'.h.next ≤ k → s'.h.get k = none := by
          simp only [List.map_cons, List.cons.injEq, Function.comp_apply] at hends
          obtain ⟨he, _⟩ := hends
          split at he
          case h_2 => cases he
          rename_i s1 hs1
          obtain ⟨hk, ρ1, a1, w1, _, hS1⟩ := stepA_some hcf hS hok hs1
          obtain ⟨hk2, ρ2, a2, w2, _, hS2⟩ := drawA_some hcf f _ ρ1 s1 s' a1 w1 hS1 hok he
          exact ⟨hk.trans hk2, hS2.rel.top⟩
        have hmem : (match stepA P cf ops s.h.next (base + i) i s with | some s' => drawA P cf ops base f (planA ops f (listed.setIfInBounds i true)) s' | none => none) ∈ (some s' :: more) := by
          rw [← hends]
          exact List.mem_map_of_mem (f := (fun ip : Nat × Plan => match stepA P cf ops s.h.next (base + ip.1) ip.1 s with | some s' => drawA P cf ops base f ip.2 s' | none => none) ∘ fun j => (j, planA ops f (listed.setIfInBounds j true))) hi
        cases hs1 : stepA P cf ops s.h.next (base + i) i s with
        | none =>
          rw [hs1] at hmem
          simp only [List.mem_cons, reduceCtorEq, false_or] at hmem
          have := List.all_eq_true.1 hall _ hmem
          cases this
        | some s1 =>
          rw [hs1] at hmem
          simp only [] at hmem
          obtain ⟨hk, _⟩ := stepA_some hcf hS hok hs1
          refine stepA_ok hcf hS hok hs1 fun a' w' ρ' he hS' => ⟨hS'.rel.below, ?_⟩
          cases hd : drawA P cf ops base f (planA ops f (listed.setIfInBounds i true)) s1 with
          | none =>
            rw [hd] at hmem
            simp only [List.mem_cons, reduceCtorEq, false_or] at hmem
            have := List.all_eq_true.1 hall _ hmem
            cases this
          | some e1 =>
            rw [hd] at hmem
            obtain ⟨hk2, _⟩ := drawA_some hcf f _ ρ' s1 e1 a' w' hS' hok hd
            refine drawA_ok hcf hsel f _ ρ' s1 e1 a' w' hS' hok (hE.trans he) hd fun ρ2 a2 w2 hS2 => ?_
            rcases List.mem_cons.1 hmem with hm | hm
            · cases hm; exact ht _ _ _ hS2
            · have := List.all_eq_true.1 hall _ hm
              simp only [] at this
              exact ht _ _ _ (asEq_ok this hfirst.1 (hk.trans hk2) hfirst.2 hS2)

theorem region_back {s s' : AS} {m : Nat} {a a' : Act} {w w' : World} {ρ' : Ren} (hS : St P w0 nt ρ s a w) (hS' : St P w nt ρ' s' a' w') (he : Ext ρ ρ') (hk : Keeps { s.h with lo := s.h.next, next := s.h.next + m } s'.h) :
    St P w0 nt ρ' ⟨s'.t, { s'.h with lo := s.h.lo }⟩ a' w' ∧ Keeps s.h { s'.h with lo := s.h.lo } := by
  obtain ⟨h1, h2⟩ := hS.rel.back hS'.rel he hk.lo fun k hk' => hk.get k hk'
  exact ⟨⟨h1, hS'.tm, hS'.defers⟩, h2⟩

theorem region_ok {cf : CF} (hcf : CFok P cf) {id : Nat} {ops : Array Oper} {draw : Bool} {s s' : AS} {a : Act} (hS : St P w0 nt ρ s a w) (h : regionA P cf nt ops draw s = some s') :
    (Code.region id ops draw).wp P (Ends P w0 nt ρ s') a w ∧ Keeps s.h s'.h ∧ ∃ ρ' a' w', Ext ρ ρ' ∧ St P w0 nt ρ' s' a' w' := by
  unfold regionA at h
  split at h
  case h_1 => cases h
  rename_i hok
  split at h
  · obtain ⟨hk, hx⟩ := seqA_some hcf _ ρ s s' a w hS hok h
    exact ⟨wp_region (seqA_ok hcf _ ρ s s' a w hS hok h fun a' w' ρ' he hS' => ⟨rfl, ρ', he, hS'⟩), hk, hx⟩
  · split at h
    case h_1 => cases h
    rename_i hms
    simp only [Bool.and_eq_true] at hms
    have hSd : St P w0 nt ρ s a w.drew := ⟨hS.rel.drew, hS.tm, hS.defers⟩
    split at h
    · rename_i hlex
      split at h
      case h_2 => cases h
      rename_i s1 hl
      cases h
      simp only [Bool.and_eq_true] at hlex
      replace hlex := hlex.1
      have hSb : St P w.drew nt ρ ⟨s.t, { s.h with lo := s.h.next }⟩ a w.drew := ⟨by have := hSd.rel.rebase 0; exact this, hS.tm, hS.defers⟩
      simp only [Region.lexB, Bool.and_eq_true] at hlex
      obtain ⟨h1, h2, a1, h4⟩ := lexA_ok hms.2 ops.size 0 (Array.replicate ops.size false) ρ _ s1 a w.drew hSb hok hlex.2 hl
      have hk : Keeps { s.h with lo := s.h.next, next := s.h.next + 0 } s1.h := by rw [h2]; exact Keeps.refl _
      refine ⟨wp_mono (wp_region_held hms.1 h1) fun e a2 w2 h => ?_, ?_⟩
      · obtain ⟨rfl, ρ2, he, hS2⟩ := h
        exact ⟨rfl, ρ2, he, (region_back hSd hS2 he hk).1⟩
      · obtain ⟨x, y⟩ := region_back hSd h4 (Ext.refl ρ) hk
        exact ⟨y, ρ, a1, w.drew, Ext.refl _, x⟩
    · split at h
      case h_2 => cases h
      rename_i s1 hd
      cases h
      have hSb : St P w.drew nt ρ ⟨s.t, { s.h with lo := s.h.next, next := s.h.next + ops.size }⟩ a w.drew := ⟨hSd.rel.rebase ops.size, hS.tm, hS.defers⟩
      obtain ⟨hk, ρ1, a1, w1, he1, hS1⟩ := drawA_some hcf ops.size _ ρ _ s1 a w.drew hSb hok hd
      have hwp := drawA_ok hcf hms.2 (ρ0 := ρ) (tgt := s1) ops.size _ ρ _ s1 a w.drew hSb hok (Ext.refl ρ) hd (fun _ _ _ h => h)
      refine ⟨wp_mono (wp_region_held hms.1 hwp) fun e a2 w2 h => ?_, ?_⟩
      · obtain ⟨rfl, ρ2, he, hS2⟩ := h
        exact ⟨rfl, ρ2, he, (region_back hSd hS2 he hk).1⟩
      · obtain ⟨x, y⟩ := region_back hSd hS1 he1 hk
        exact ⟨y, ρ1, a1, w1, he1, x⟩
end
end Go.Ab
