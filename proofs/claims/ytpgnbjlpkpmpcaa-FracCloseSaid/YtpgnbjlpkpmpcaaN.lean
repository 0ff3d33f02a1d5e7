/- Plain lists of digits to the base 2^32, the lowest first. -/
namespace Go.Proofs.Ytpgnbjlpkpmpcaa.N
def B : Nat := 4294967296
theorem B_pos : 0 < B := by decide
def val : List Nat → Nat
  | [] => 0
  | x :: l => x + B * val l
/-- digits -/
def Dig (l : List Nat) : Prop := ∀ x ∈ l, x < B
/-- the last digit is not 0 -/
def Canon (l : List Nat) : Prop := Dig l ∧ ∀ x, l.getLast? = some x → x ≠ 0
theorem val_append (l m : List Nat) : val (l ++ m) = val l + B ^ l.length * val m := by
  induction l with
  | nil => simp [val]
  | cons x l ih => simp only [List.cons_append, val, ih, List.length_cons, Nat.pow_succ]; rw [Nat.mul_add, ← Nat.mul_assoc, Nat.mul_comm B (B ^ l.length)]; omega
theorem val_lt {l : List Nat} (h : Dig l) : val l < B ^ l.length := by
  induction l with
  | nil => simp [val]
  | cons x l ih =>
    have h1 := ih (fun y hy => h y (List.mem_cons_of_mem _ hy))
    have h2 := h x List.mem_cons_self
    simp only [val, List.length_cons, Nat.pow_succ]
    have h3 : B * (val l + 1) ≤ B * B ^ l.length := Nat.mul_le_mul_left _ h1
    rw [Nat.mul_comm (B ^ l.length) B]
    rw [Nat.mul_add] at h3
    omega
theorem Dig.take {l : List Nat} (h : Dig l) (k : Nat) : Dig (l.take k) := fun x hx => h x (List.mem_of_mem_take hx)
theorem Dig.drop {l : List Nat} (h : Dig l) (k : Nat) : Dig (l.drop k) := fun x hx => h x (List.mem_of_mem_drop hx)
theorem Dig.getD {l : List Nat} (h : Dig l) (k : Nat) : l.getD k 0 < B := by
  rw [List.getD_eq_getElem?_getD]
  cases e : l[k]? with
  | none => simp; decide
  | some x => simp; exact h x (List.mem_of_getElem? e)
theorem take_succ_getD {l : List Nat} {k : Nat} (h : k < l.length) : l.take (k + 1) = l.take k ++ [l.getD k 0] := by
  rw [List.take_succ_eq_append_getElem h]; simp [List.getD_eq_getElem?_getD, h]
theorem val_take_succ {l : List Nat} {k : Nat} (h : k < l.length) : val (l.take (k + 1)) = val (l.take k) + B ^ k * l.getD k 0 := by
  rw [take_succ_getD h, val_append]; simp [val, Nat.min_eq_left (Nat.le_of_lt h)]
theorem val_take_ge {l : List Nat} {k : Nat} (h : l.length ≤ k) : val (l.take k) = val l := by rw [List.take_of_length_le h]
theorem val_split (l : List Nat) (k : Nat) (h : k ≤ l.length) : val l = val (l.take k) + B ^ k * val (l.drop k) := by
  have := val_append (l.take k) (l.drop k)
  rw [List.take_append_drop] at this
  rw [this]; simp [Nat.min_eq_left h]
theorem drop_getD {l : List Nat} {k : Nat} (h : k < l.length) : l.drop k = l.getD k 0 :: l.drop (k + 1) := by
  rw [List.drop_eq_getElem_cons h]; simp [List.getD_eq_getElem?_getD, h]
theorem can_ge {l : List Nat} (h : Canon l) (hl : 0 < l.length) : B ^ (l.length - 1) ≤ val l := by
  have e : l = l.take (l.length - 1) ++ [l.getD (l.length - 1) 0] := by
    have := take_succ_getD (l := l) (k := l.length - 1) (by omega)
    rw [show l.length - 1 + 1 = l.length by omega, List.take_length] at this
    exact this
  have hx : l.getD (l.length - 1) 0 ≠ 0 := by
    apply h.2
    rw [List.getLast?_eq_getElem?, List.getD_eq_getElem?_getD]
    rw [List.getElem?_eq_getElem (by omega)]; simp
  have h1 := val_append (l.take (l.length - 1)) [l.getD (l.length - 1) 0]
  rw [← e] at h1
  rw [h1]
  simp only [List.length_take, val, Nat.mul_zero, Nat.add_zero, Nat.min_eq_left (Nat.sub_le _ _)]
  have : B ^ (l.length - 1) * 1 ≤ B ^ (l.length - 1) * l.getD (l.length - 1) 0 := Nat.mul_le_mul_left _ (by omega)
  omega
theorem len_lt {l m : List Nat} (hl : Dig l) (hm : Canon m) (h : l.length < m.length) : val l < val m := by
  have h1 := val_lt hl
  have h2 := can_ge hm (by omega)
  have h3 : B ^ l.length ≤ B ^ (m.length - 1) := Nat.pow_le_pow_right (by decide) (by omega)
  omega
/-- two numbers of one length whose digits above k agree -/
theorem top_lt {l m : List Nat} {k : Nat} (hl : Dig l) (_hm : Dig m) (e : l.length = m.length) (hk : k < l.length) (hd : l.drop (k + 1) = m.drop (k + 1)) (h : l.getD k 0 < m.getD k 0) : val l < val m := by
  rw [val_split l k (by omega), val_split m k (by omega), drop_getD hk, drop_getD (l := m) (by omega)]
  simp only [val]
  rw [hd]
  have h1 := val_lt (hl.take k)
  rw [List.length_take, Nat.min_eq_left (by omega)] at h1
  have h2 : B ^ k * (l.getD k 0 + B * val (m.drop (k + 1)) + 1) ≤ B ^ k * (m.getD k 0 + B * val (m.drop (k + 1))) := Nat.mul_le_mul_left _ (by omega)
  rw [Nat.mul_add, Nat.mul_one] at h2
  omega
theorem can_eq {l m : List Nat} (hl : Canon l) (hm : Canon m) (h : val l = val m) : l.length = m.length := by
  rcases Nat.lt_trichotomy l.length m.length with c | c | c
  · have := len_lt hl.1 hm c; omega
  · exact c
  · have := len_lt hm.1 hl c; omega
theorem can_nil : Canon [] := ⟨fun _ h => by simp at h, fun _ h => by simp at h⟩
theorem val_zero {l : List Nat} (hl : Canon l) (h : val l = 0) : l = [] := by
  have := can_eq hl can_nil (by simpa [val] using h)
  simpa using this
theorem val_pos {l : List Nat} (hl : Canon l) (h : l ≠ []) : 0 < val l := by
  rcases Nat.eq_zero_or_pos (val l) with c | c
  · exact absurd (val_zero hl c) h
  · exact c
/-- trailing zeros do not count -/
theorem val_trim {l : List Nat} {k : Nat} (h : k ≤ l.length) (hz : ∀ i, k ≤ i → i < l.length → l.getD i 0 = 0) : val (l.take k) = val l := by
  rw [val_split l k h]
  suffices e : val (l.drop k) = 0 by rw [e]; simp
  have : ∀ m : List Nat, (∀ i, i < m.length → m.getD i 0 = 0) → val m = 0 := by
    intro m
    induction m with
    | nil => intro _; rfl
    | cons x m ih =>
      intro hh
      have h0 := hh 0 (by simp)
      simp at h0
      have := ih (fun i hi => by have := hh (i + 1) (by simpa using hi); simpa using this)
      simp [val, h0, this]
  apply this
  intro i hi
  have := hz (k + i) (by omega) (by rw [List.length_drop] at hi; omega)
  rw [List.getD_eq_getElem?_getD] at *
  rw [List.getElem?_drop]; exact this
theorem val_set {l : List Nat} {k x : Nat} (h : k < l.length) : val (l.set k x) + B ^ k * l.getD k 0 = val l + B ^ k * x := by
  have hl : k < (l.set k x).length := by simpa using h
  rw [val_split (l.set k x) k (by omega), val_split l k (by omega), drop_getD hl, drop_getD h]
  simp only [val]
  have e1 : (l.set k x).take k = l.take k := by rw [List.take_set_of_le (Nat.le_refl _)]
  have e2 : (l.set k x).drop (k + 1) = l.drop (k + 1) := by rw [List.drop_set_of_lt (by omega)]
  have e3 : (l.set k x).getD k 0 = x := by simp [List.getD_eq_getElem?_getD, h]
  rw [e1, e2, e3, Nat.mul_add, Nat.mul_add]; omega
theorem Dig.set {l : List Nat} (h : Dig l) {k x : Nat} (hx : x < B) : Dig (l.set k x) := fun y hy => by
  rcases List.mem_or_eq_of_mem_set hy with c | c
  · exact h y c
  · rw [c]; exact hx
theorem Dig.snoc {l : List Nat} (h : Dig l) {x : Nat} (hx : x < B) : Dig (l ++ [x]) := fun y hy => by
  rcases List.mem_append.1 hy with c | c
  · exact h y c
  · rw [List.mem_singleton.1 c]; exact hx
end Go.Proofs.Ytpgnbjlpkpmpcaa.N
