import Derived.Test.YtpgnbjlpkpmpcaaJb
import Derived.Lib.AppendZeros
set_option linter.unusedVariables false
namespace Go.Proofs.Ytpgnbjlpkpmpcaa.R
open Go.RowKit Go.Proofs.Ytpgnbjlpkpmpcaa.N
/-- every cell of a row's block, the spare ones too, is of a kind -/
def AllIn (w : World) (v : Value) (Pr : Value → Prop) : Prop := ∀ g, v.ownBlock = some g → ∀ j u, w.cell? ⟨g, j, none⟩ = some u → Pr u
theorem zeros_all {z : Array Value} {n : Nat} {Pr : Value → Prop} (h : ∀ u ∈ z, Pr u) : ∀ u ∈ Builtin.zeroCells z n, Pr u := by
  intro u hu
  unfold Builtin.zeroCells at hu
  obtain ⟨i, hi, rfl⟩ := Array.mem_map.1 hu
  have hi2 : i < n * z.size := by simpa using hi
  have hz : 0 < z.size := by
    rcases Nat.eq_zero_or_pos z.size with h0 | h0
    · rw [h0] at hi2; simp at hi2
    · exact h0
  have hlt := Nat.mod_lt i hz
  rw [getElem!_pos z _ hlt]
  exact h _ (Array.getElem_mem hlt)
theorem all_of_row {w : World} {g : Nat} {cs : Array Value} {t : TypeId} {fr : Nat × Nat} {Pr : Value → Prop} (hg : w.heap[g]? = some (.cells cs t fr)) (h : ∀ u ∈ cs, Pr u) : ∀ j u, w.cell? ⟨g, j, none⟩ = some u → Pr u := by
  intro j u hu
  rw [cell_of_row w g j cs t fr hg] at hu
  exact h u (Array.mem_of_getElem? hu)
/-- append to a row of the call's own: what its block holds stays of a kind -/
theorem append_all {P : Program} (w : World) (Pr : Value → Prop) (base : Nat) (t ty e : TypeId) (i : TypeInfo) (z : Value) (size bytes : Nat) (ht : P.underlying t = some (.slice e)) (hi : P.info? e = some i) (hz : i.zero = some z)
    (hsize : i.size = size) (hby : i.bytes = bytes) (hzs : z.cells.size = size) (hsz : 0 < size)
    (v : Value) (n : Nat) (xs : List Value) (hown : w.ownsRow base e size v n xs) (ha : AllIn w v Pr) (hpz : ∀ u ∈ z.cells, Pr u)
    (a : Addr) (m c : Nat) (news : List Value) (hpn : ∀ u ∈ news, Pr u) (hm : 0 < m) (hl : news.length = m * size) (hnews : ∀ j u, news[j]? = some u → w.cell? (a.add j) = some u) (h1 : ∀ u ∈ news, u.oneCell' = true)
    (h63 : n + m ≤ maxLen) (hbytes : (n + m) * bytes ≤ 140737488355328) (hbase : base ≤ w.heap.size) :
    ∃ v' w', (Builtin.append_ #[t, t] ty #[v, .slice (some a) m c]).run P w = .ok v' w' ∧ w'.ownsRow base e size v' (n + m) (xs ++ news) ∧ w.grownBy w' v.ownBlock ∧ AllIn w' v' Pr := by
  obtain ⟨v', w', hr, h2, h3, _⟩ := run_append_own w base t ty e i z size bytes ht hi hz hsize hby hzs hsz v n xs hown a m c news hl hnews h1 h63 hbytes hbase
  refine ⟨v', w', hr, h2, h3, ?_⟩
  subst hsize
  subst hby
  have hsm : n + m ≤ 9223372036854775807 := by unfold maxLen at h63; omega
  rcases hown.2 with ⟨rfl, rfl⟩ | ⟨g, cap, cur, rfl, hbg, hg, hnc, hcm, hcs, htake⟩
  · have hr2 := run_append_nil (P := P) w t ty e i z ht hi hz a m c news hl hnews hm (by omega) (by have hb := hbytes; simp only [Nat.zero_add] at hb; omega)
    rw [hr2] at hr
    injection hr with e1 e2
    subst e1 e2
    intro g' hg'
    simp [Value.ownBlock] at hg'
    subst hg'
    refine all_of_row (heap_alloc_new w.drew _) fun u hu => ?_
    rcases Array.mem_append.1 hu with c1 | c1
    · exact hpn u (by simpa using c1)
    · exact zeros_all hpz u c1
  · have hcur : ∀ u ∈ cur, Pr u := fun u hu => by
      obtain ⟨j, hj⟩ := Array.mem_iff_getElem?.1 hu
      exact ha g rfl j u (by rw [cell_of_row w g j cur e _ hg]; exact hj)
    by_cases hroom : n + m ≤ cap
    · have hfit : n * i.size + news.length ≤ cur.size := by rw [hl, hcs, ← Nat.add_mul]; exact Nat.mul_le_mul_right _ hroom
      have hr2 := run_append_room (P := P) w t ty e i ht hi g n cap cur hg a m c news hl hnews h1 hroom hfit
      rw [hr2] at hr
      injection hr with e1 e2
      subst e1 e2
      intro g' hg'
      simp [Value.ownBlock] at hg'
      subst hg'
      refine all_of_row (setRow_heap w g cur _ e _ hg) fun u hu => ?_
      simp only [List.mem_toArray, List.mem_append] at hu
      rcases hu with (c1 | c1) | c1
      · exact hcur u (by simpa using List.mem_of_mem_take c1)
      · exact hpn u c1
      · exact hcur u (by simpa using List.mem_of_mem_drop c1)
    · have holds : ∀ j u, xs[j]? = some u → w.cell? ((⟨g, 0, none⟩ : Addr).add j) = some u := hown.cells (g := g) rfl
      have hr2 := run_append_grow (P := P) w t ty e i z ht hi hz ⟨g, 0, none⟩ n cap xs hown.1 holds a m c news hl hnews (by omega) (by omega) (growslice_fits (by omega) hbytes)
      rw [hr2] at hr
      injection hr with e1 e2
      subst e1 e2
      intro g' hg'
      simp [Value.ownBlock] at hg'
      subst hg'
      refine all_of_row (heap_alloc_new w.drew _) fun u hu => ?_
      rcases Array.mem_append.1 hu with c1 | c1
      · rcases Array.mem_append.1 c1 with c1 | c1
        · have c2 : u ∈ List.take (n * i.size) cur.toList := by rw [htake]; simpa using c1
          have c3 := List.mem_of_mem_take c2
          exact hcur u (by simpa using c3)
        · exact hpn u (by simpa using c1)
      · exact zeros_all hpz u c1
end Go.Proofs.Ytpgnbjlpkpmpcaa.R
