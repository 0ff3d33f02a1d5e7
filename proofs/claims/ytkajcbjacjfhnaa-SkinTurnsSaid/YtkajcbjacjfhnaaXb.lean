/- The relation between an abstract heap and a world. -/
import Derived.Test.YtkajcbjacjfhnaaXa
namespace Go.Ab
open Go Go.RowKit

inductive Ents (ρ : Ren) : List MapEntry → List MapEntry → Prop
  | nil : Ents ρ [] []
  | cons {k k' v v' b l l'} : VR ρ k k' → VR ρ v v' → Ents ρ l l' → Ents ρ (⟨k, v, b⟩ :: l) (⟨k', v', b⟩ :: l')

theorem Ents.ext {ρ ρ' : Ren} (h : Ext ρ ρ') : ∀ {l l'}, Ents ρ l l' → Ents ρ' l l'
  | _, _, .nil => .nil
  | _, _, .cons a b c => .cons (a.ext h) (b.ext h) (Ents.ext h c)

def BlkOk (P : Program) (ρ : Ren) (k : Nat) (w : World) : Blk → Prop
  | .dead => True
  | .cells c E => ∃ p c' fz, ρ k = some p ∧ w.heap[p.real]? = some (.cells c' E fz) ∧
      (∀ i v, c[i]? = some v → ∃ v', c'[i + p.shift]? = some v' ∧ VR ρ v v') ∧
      (∀ es N M, p.tl = some (es, N, M) → N = c.length ∧ M = c'.size ∧ 0 < es ∧ (P.info? E).map (·.size) = some es)
  | .map es clock => ∃ p es', ρ k = some p ∧ w.heap[p.real]? = some (.map es' clock) ∧ Ents ρ es es'.toList
  | .iter s pos => ∃ p, ρ k = some p ∧ w.heap[p.real]? = some (.stringIter s pos) ∧ p.shift = 0

/-- a live block -/
def Live (H : Hp) (k : Nat) : Prop := ∃ b, H.get k = some b ∧ match b with | .dead => False | _ => True

/-- nothing of a block is frozen -/
def Soft (w : World) (r : Nat) : Prop := ∀ c E fz, w.heap[r]? = some (.cells c E fz) → fz = (0, 0)

structure Rel (P : Program) (w0 : World) (ρ : Ren) (H : Hp) (w : World) : Prop where
  below : Below w0.heap.size w0 w
  fresh : ∀ k, H.get k = none → ρ k = none
  top : ∀ k, H.next ≤ k → H.get k = none
  lo : H.lo ≤ H.next
  blk : ∀ k b, H.get k = some b → BlkOk P ρ k w b
  old : ∀ k p, Live H k → k < H.lo → ρ k = some p → p.real < w0.heap.size
  own : ∀ k p, Live H k → H.lo ≤ k → ρ k = some p → w0.heap.size ≤ p.real ∧ Soft w p.real
  inj : ∀ i j p q, i ≠ j → H.lo ≤ i → H.lo ≤ j → Live H i → Live H j → ρ i = some p → ρ j = some q → p.real ≠ q.real

/-- what an operation leaves alone of the heap -/
structure Keeps (H H' : Hp) : Prop where
  lo : H'.lo = H.lo
  next : H.next ≤ H'.next
  get : ∀ k, k < H.lo → H'.get k = H.get k
theorem Keeps.refl (H : Hp) : Keeps H H := ⟨rfl, Nat.le_refl _, fun _ _ => rfl⟩
theorem Keeps.trans {a b c : Hp} (h : Keeps a b) (k : Keeps b c) : Keeps a c :=
  ⟨k.lo.trans h.lo, Nat.le_trans h.next k.next, fun i hi => (k.get i (by rw [h.lo]; exact hi)).trans (h.get i hi)⟩

def upd (ρ : Ren) (k : Nat) (p : Place) : Ren := fun j => if j = k then some p else ρ j
theorem upd_same (ρ : Ren) (k : Nat) (p : Place) : upd ρ k p k = some p := by simp [upd]
theorem upd_other (ρ : Ren) {k j : Nat} (p : Place) (h : j ≠ k) : upd ρ k p j = ρ j := by simp [upd, h]
theorem upd_ext {ρ : Ren} {k : Nat} {p : Place} (h : ∀ q, ρ k = some q → q = p) : Ext ρ (upd ρ k p) := by
  intro j q e
  by_cases hj : j = k
  · subst hj; rw [upd_same, h q e]
  · rw [upd_other _ _ hj]; exact e

theorem BlkOk.place {P : Program} {ρ : Ren} {k : Nat} {w : World} {b : Blk} (h : BlkOk P ρ k w b) (hd : b ≠ .dead) : ∃ p, ρ k = some p ∧ p.real < w.heap.size := by
  cases b with
  | dead => exact absurd rfl hd
  | cells c E => obtain ⟨q, c', fz, hq, hb, _⟩ := h; exact ⟨q, hq, (Array.getElem?_eq_some_iff.1 hb).1⟩
  | map es clock => obtain ⟨q, es', hq, hb, _⟩ := h; exact ⟨q, hq, (Array.getElem?_eq_some_iff.1 hb).1⟩
  | iter s pos => obtain ⟨q, hq, hb, _⟩ := h; exact ⟨q, hq, (Array.getElem?_eq_some_iff.1 hb).1⟩

theorem live_of {H : Hp} {k : Nat} {b : Blk} (h : H.get k = some b) (hd : b ≠ .dead) : Live H k :=
  ⟨b, h, by cases b <;> first | trivial | exact absurd rfl hd⟩
theorem Live.ne {H : Hp} {k : Nat} (h : Live H k) : ∃ b, H.get k = some b ∧ b ≠ .dead := by
  obtain ⟨b, hb, hl⟩ := h
  exact ⟨b, hb, fun e => by subst e; exact hl⟩

theorem Rel.live {P : Program} {w0 : World} {ρ : Ren} {H : Hp} {w : World} (h : Rel P w0 ρ H w) {k : Nat} (hk : Live H k) : ∃ p, ρ k = some p ∧ p.real < w.heap.size := by
  obtain ⟨b, hb, hd⟩ := hk.ne
  exact (h.blk k b hb).place hd

theorem BlkOk.move {P : Program} {ρ ρ' : Ren} {k : Nat} {w w' : World} {b : Blk} (h : BlkOk P ρ k w b) (he : Ext ρ ρ')
    (hw : b ≠ .dead → ∀ p, ρ k = some p → w'.heap[p.real]? = w.heap[p.real]?) : BlkOk P ρ' k w' b := by
  cases b with
  | dead => trivial
  | cells c E =>
    obtain ⟨p, c', fz, hp, hb, hc, ht⟩ := h
    exact ⟨p, c', fz, he _ _ hp, by rw [hw (by simp) p hp]; exact hb, fun i v hi => (hc i v hi).imp fun v' x => ⟨x.1, x.2.ext he⟩, ht⟩
  | map es clock =>
    obtain ⟨p, es', hp, hb, hc⟩ := h
    exact ⟨p, es', he _ _ hp, by rw [hw (by simp) p hp]; exact hb, hc.ext he⟩
  | iter s pos =>
    obtain ⟨p, hp, hb, hr⟩ := h
    exact ⟨p, he _ _ hp, by rw [hw (by simp) p hp]; exact hb, hr⟩

theorem Soft.move {w w' : World} {r : Nat} (h : Soft w r) (e : w'.heap[r]? = w.heap[r]?) : Soft w' r := fun c E fz hb => h c E fz (by rw [← e]; exact hb)

/-- one block of the heap becomes another; its place is the call's own and no other live block's -/
theorem Rel.put {P : Program} {w0 : World} {ρ : Ren} {H : Hp} {w w' : World} (h : Rel P w0 ρ H w) (k : Nat) (p : Place) (b : Blk) (hk : k < 2 ^ 39) (hlo : H.lo ≤ k) {n : Nat} (hn : k < n) (hnn : H.next ≤ n)
    (hp : ∀ q, ρ k = some q → q = p) (hbase : w0.heap.size ≤ p.real)
    (hother : ∀ j q, j ≠ k → Live H j → ρ j = some q → q.real ≠ p.real)
    (hos : w'.os = w.os) (htape : w'.tape = w.tape) (hout : w'.output = w.output) (hsize : w.heap.size ≤ w'.heap.size)
    (hheap : ∀ r, r < w.heap.size → r ≠ p.real → w'.heap[r]? = w.heap[r]?) (hsoft : Soft w' p.real)
    (hb : BlkOk P (upd ρ k p) k w' b) : Rel P w0 (upd ρ k p) { H.set k b with next := n } w' := by
  have he : Ext ρ (upd ρ k p) := upd_ext hp
  have gs : ({ H.set k b with next := n } : Hp).get k = some b := Hp.get_same H b hk
  have go : ∀ j, j ≠ k → ({ H.set k b with next := n } : Hp).get j = H.get j := fun j hj => Hp.get_other H b hj
  have keep : ∀ j q, j ≠ k → Live H j → ρ j = some q → w'.heap[q.real]? = w.heap[q.real]? := fun j q hj hl hq => by
    obtain ⟨q', hq', hlt⟩ := h.live hl
    rw [hq] at hq'; cases hq'
    exact hheap q.real hlt (hother j q hj hl hq)
  have oldL : ∀ j, j ≠ k → Live { H.set k b with next := n } j → Live H j := fun j hj ⟨x, hx, hl⟩ => ⟨x, by rw [← go j hj]; exact hx, hl⟩
  refine ⟨h.below.trans ⟨hos, htape, hout, hsize, fun r hr => hheap r (Nat.lt_of_lt_of_le hr h.below.size) (by omega)⟩, ?_, ?_, Nat.le_trans h.lo hnn, ?_, ?_, ?_, ?_⟩
  · intro j hj
    by_cases e : j = k
    · subst e; rw [gs] at hj; cases hj
    · rw [go j e] at hj; rw [upd_other _ _ e]; exact h.fresh j hj
  · intro j hj
    have hj : n ≤ j := hj
    rw [go j (by omega)]; exact h.top j (by omega)
  · intro j bj hj
    by_cases e : j = k
    · subst e; rw [gs] at hj; cases hj; exact hb
    · rw [go j e] at hj
      exact (h.blk j bj hj).move he fun hd q hq => keep j q e (live_of hj hd) hq
  · intro j q hl hj hq
    have hj : j < H.lo := hj
    have e : j ≠ k := by omega
    rw [upd_other _ _ e] at hq
    exact h.old j q (oldL j e hl) hj hq
  · intro j q hl hj hq
    have hj : H.lo ≤ j := hj
    by_cases e : j = k
    · subst e; rw [upd_same] at hq; cases hq; exact ⟨hbase, hsoft⟩
    · rw [upd_other _ _ e] at hq
      obtain ⟨h1, h2⟩ := h.own j q (oldL j e hl) hj hq
      exact ⟨h1, h2.move (keep j q e (oldL j e hl) hq)⟩
  · intro i j pi pj hij hi' hj' hi hj hpi hpj
    by_cases ei : i = k
    · subst ei
      have ej : j ≠ i := fun e => hij e.symm
      rw [upd_same] at hpi; cases hpi
      rw [upd_other _ _ ej] at hpj
      exact fun e => hother j pj ej (oldL j ej hj) hpj e.symm
    · by_cases ej : j = k
      · subst ej
        rw [upd_same] at hpj; cases hpj
        rw [upd_other _ _ ei] at hpi
        exact hother i pi ei (oldL i ei hi) hpi
      · rw [upd_other _ _ ei] at hpi
        rw [upd_other _ _ ej] at hpj
        exact h.inj i j pi pj hij hi' hj' (oldL i ei hi) (oldL j ej hj) hpi hpj

theorem put_keeps {H : Hp} {k : Nat} {b : Blk} (hlo : H.lo ≤ k) {n : Nat} (hnn : H.next ≤ n) : Keeps H { H.set k b with next := n } :=
  ⟨rfl, hnn, fun j hj => Hp.get_other H b (by omega)⟩

/-- a block of the call's own is forgotten -/
theorem Rel.kill {P : Program} {w0 : World} {ρ : Ren} {H : Hp} {w : World} (h : Rel P w0 ρ H w) (k : Nat) (hk : k < 2 ^ 39) {b : Blk} (hb : H.get k = some b) : Rel P w0 ρ (H.set k .dead) w := by
  have gs : (H.set k .dead).get k = some .dead := Hp.get_same H _ hk
  have go : ∀ j, j ≠ k → (H.set k .dead).get j = H.get j := fun j hj => Hp.get_other H _ hj
  have oldL : ∀ j, Live (H.set k .dead) j → Live H j := fun j ⟨x, hx, hl⟩ => by
    by_cases e : j = k
    · subst e; rw [gs] at hx; cases hx; exact hl.elim
    · exact ⟨x, by rw [← go j e]; exact hx, hl⟩
  refine ⟨h.below, ?_, ?_, h.lo, ?_, fun j p hl => h.old j p (oldL j hl), fun j p hl => h.own j p (oldL j hl), fun i j pi pj hij h1 h2 hi hj => h.inj i j pi pj hij h1 h2 (oldL i hi) (oldL j hj)⟩
  · intro j hj
    by_cases e : j = k
    · subst e; rw [gs] at hj; cases hj
    · rw [go j e] at hj; exact h.fresh j hj
  · intro j hj
    by_cases e : j = k
    · subst e; rw [h.top j hj] at hb; cases hb
    · rw [go j e]; exact h.top j hj
  · intro j bj hj
    by_cases e : j = k
    · subst e; rw [gs] at hj; cases hj; trivial
    · rw [go j e] at hj; exact h.blk j bj hj

theorem kill_keeps {H : Hp} {k : Nat} {b : Blk} (hlo : H.lo ≤ k) : Keeps H (H.set k b) := ⟨rfl, Nat.le_refl _, fun j hj => Hp.get_other H b (by omega)⟩

/-- a draw -/
theorem Rel.drew {P : Program} {w0 : World} {ρ : Ren} {H : Hp} {w : World} (h : Rel P w0 ρ H w) : Rel P w0 ρ H w.drew :=
  ⟨h.below.drew, h.fresh, h.top, h.lo, fun k b hb => (h.blk k b hb).move (Ext.refl ρ) fun _ _ _ => rfl, h.old, h.own, h.inj⟩

/-- a new block -/
theorem Rel.new {P : Program} {w0 : World} {ρ : Ren} {H : Hp} {w : World} (h : Rel P w0 ρ H w) (k : Nat) (tl : Option (Nat × Nat × Nat)) (b : Blk) (o : Obj) (hk : k < 2 ^ 39) (hlo : H.lo ≤ k) {n : Nat} (hkn : k < n) (hnn : H.next ≤ n)
    (hn : H.get k = none) (hsoft : ∀ c E fz, o = .cells c E fz → fz = (0, 0)) (hb : BlkOk P (upd ρ k ⟨w.heap.size, 0, tl⟩) k (w.alloc o) b) :
    Rel P w0 (upd ρ k ⟨w.heap.size, 0, tl⟩) { H.set k b with next := n } (w.alloc o) ∧ Ext ρ (upd ρ k ⟨w.heap.size, 0, tl⟩) := by
  have hf := h.fresh k hn
  have hp : ∀ q, ρ k = some q → q = ⟨w.heap.size, 0, tl⟩ := fun q hq => by rw [hf] at hq; cases hq
  refine ⟨h.put k ⟨w.heap.size, 0, tl⟩ b hk hlo hkn hnn hp h.below.size ?_ rfl rfl rfl (by simp) ?_ ?_ hb, upd_ext hp⟩
  · intro j q _ hj hq
    obtain ⟨p, hp, hlt⟩ := h.live hj
    rw [hq] at hp; cases hp
    exact Nat.ne_of_lt hlt
  · intro r hr _
    exact Below.heap_alloc w o r hr
  · intro c E fz he
    have : (w.alloc o).heap[w.heap.size]? = some o := by show (w.heap.push o)[w.heap.size]? = some o; simp
    rw [this] at he
    injection he with he
    exact hsoft c E fz he

/-! ### reading all that stands as given -/

theorem Rel.rebase {P : Program} {w0 : World} {ρ : Ren} {H : Hp} {w : World} (h : Rel P w0 ρ H w) (m : Nat) : Rel P w ρ { H with lo := H.next, next := H.next + m } w := by
  refine ⟨Below.refl _ _, h.fresh, fun k hk => h.top k (by have hk : H.next + m ≤ k := hk; omega), by show H.next ≤ H.next + m; omega, h.blk, ?_, ?_, ?_⟩
  · intro k p hl _ hp
    obtain ⟨q, hq, hlt⟩ := h.live (H := H) hl
    rw [hp] at hq; cases hq; exact hlt
  · intro k p hl hk _
    have hk : H.next ≤ k := hk
    obtain ⟨b, hb, _⟩ := hl
    have := h.top k hk
    have hb : H.get k = some b := hb
    rw [this] at hb; cases hb
  · intro i j p q _ hi _ hl
    have hi : H.next ≤ i := hi
    obtain ⟨b, hb, _⟩ := hl
    have := h.top i hi
    have hb : H.get i = some b := hb
    rw [this] at hb; cases hb

theorem Rel.back {P : Program} {w0 : World} {ρ ρ' : Ren} {H H' : Hp} {w w' : World} (h : Rel P w0 ρ H w) (h' : Rel P w ρ' H' w') (he : Ext ρ ρ') (hlo : H'.lo = H.next)
    (hget : ∀ k, k < H.next → H'.get k = H.get k) : Rel P w0 ρ' { H' with lo := H.lo } w' ∧ Keeps H { H' with lo := H.lo } := by
  have hge : ∀ k, ({ H' with lo := H.lo } : Hp).get k = H'.get k := fun _ => rfl
  have liveLt : ∀ k, k < H.next → Live { H' with lo := H.lo } k → Live H k := fun k hk ⟨b, hb, hl⟩ => ⟨b, by rw [← hget k hk]; exact hb, hl⟩
  have liveGe : ∀ k, Live { H' with lo := H.lo } k → Live H' k := fun k hl => hl
  have place : ∀ k p, k < H.next → Live H k → ρ' k = some p → ρ k = some p ∧ p.real < w.heap.size := fun k p _ hl hp => by
    obtain ⟨q, hq, hlt⟩ := h.live hl
    have := he _ _ hq
    rw [hp] at this; cases this
    exact ⟨hq, hlt⟩
  have hnx : H.next ≤ H'.next := by have := h'.lo; rw [hlo] at this; exact this
  refine ⟨⟨h.below.trans (h'.below.mono h.below.size), h'.fresh, h'.top, Nat.le_trans h.lo hnx, ?_, ?_, ?_, ?_⟩, ⟨rfl, hnx, fun k hk => hget k (Nat.lt_of_lt_of_le hk h.lo)⟩⟩
  · exact h'.blk
  · intro k p hl hk hp
    have hk : k < H.lo := hk
    have hk' : k < H.next := Nat.lt_of_lt_of_le hk h.lo
    obtain ⟨hq, _⟩ := place k p hk' (liveLt k hk' hl) hp
    exact h.old k p (liveLt k hk' hl) hk hq
  · intro k p hl hk hp
    have hk : H.lo ≤ k := hk
    by_cases hkn : k < H.next
    · obtain ⟨hq, hlt⟩ := place k p hkn (liveLt k hkn hl) hp
      obtain ⟨h1, h2⟩ := h.own k p (liveLt k hkn hl) hk hq
      exact ⟨h1, h2.move (h'.below.block p.real hlt)⟩
    · obtain ⟨h1, h2⟩ := h'.own k p (liveGe k hl) (by rw [hlo]; omega) hp
      exact ⟨Nat.le_trans h.below.size h1, h2⟩
  · intro i j p q hij hi hj li lj hp hq
    have hi : H.lo ≤ i := hi
    have hj : H.lo ≤ j := hj
    by_cases hin : i < H.next
    · obtain ⟨hp', hlt⟩ := place i p hin (liveLt i hin li) hp
      by_cases hjn : j < H.next
      · obtain ⟨hq', _⟩ := place j q hjn (liveLt j hjn lj) hq
        exact h.inj i j p q hij hi hj (liveLt i hin li) (liveLt j hjn lj) hp' hq'
      · have := (h'.own j q (liveGe j lj) (by rw [hlo]; omega) hq).1
        omega
    · have h1 := (h'.own i p (liveGe i li) (by rw [hlo]; omega) hp).1
      by_cases hjn : j < H.next
      · obtain ⟨_, hlt⟩ := place j q hjn (liveLt j hjn lj) hq
        omega
      · exact h'.inj i j p q hij (by rw [hlo]; omega) (by rw [hlo]; omega) (liveGe i li) (liveGe j lj) hp hq

theorem Rel.congr {P : Program} {w0 : World} {ρ : Ren} {H H' : Hp} {w : World} (h : Rel P w0 ρ H w) (hlo : H'.lo = H.lo) (hn : H'.next = H.next) (hg : ∀ k, H'.get k = H.get k) : Rel P w0 ρ H' w := by
  have hl : ∀ k, Live H' k → Live H k := fun k ⟨b, hb, x⟩ => ⟨b, by rw [← hg]; exact hb, x⟩
  refine ⟨h.below, fun k hk => h.fresh k (by rw [← hg]; exact hk), fun k hk => by rw [hg]; exact h.top k (by rw [← hn]; exact hk), by rw [hlo, hn]; exact h.lo, fun k b hb => h.blk k b (by rw [← hg]; exact hb), ?_, ?_, ?_⟩
  · rw [hlo]; exact fun k p x => h.old k p (hl k x)
  · rw [hlo]; exact fun k p x => h.own k p (hl k x)
  · rw [hlo]; exact fun i j p q a b c x y => h.inj i j p q a b c (hl i x) (hl j y)

end Go.Ab
