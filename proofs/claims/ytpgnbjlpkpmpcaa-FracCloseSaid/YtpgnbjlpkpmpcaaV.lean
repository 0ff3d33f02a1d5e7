import Derived.Test.YtpgnbjlpkpmpcaaU
namespace Go.Proofs.Ytpgnbjlpkpmpcaa.R
open Go.RowKit Go.Proofs.Ytpgnbjlpkpmpcaa.N
/-- a product's digits so far: behind i digits of l -/
def ProdAt (l m O : List Nat) (i : Nat) : Prop := val O = val (l.take i) * val m ∧ Dig O ∧ (∀ j, i + m.length ≤ j → O.getD j 0 = 0) ∧ O.length = l.length + m.length + 1
/-- .. and behind k digits of m -/
def ProdIn (l m O : List Nat) (i k c : Nat) : Prop := val O + B ^ (i + k) * c = val (l.take i) * val m + B ^ i * (l.getD i 0 * val (m.take k)) ∧ Dig O ∧ (∀ j, i + m.length ≤ j → O.getD j 0 = 0) ∧ O.length = l.length + m.length + 1 ∧ c < B
theorem prod_start {l m : List Nat} : ProdAt l m (List.replicate (l.length + m.length + 1) 0) 0 := by
  have hz : ∀ n, val (List.replicate n 0) = 0 := by
    intro n; induction n with
    | zero => rfl
    | succ n ih => simp [List.replicate_succ, val, ih]
  refine ⟨by simp [hz, val], fun x hx => by rw [(List.mem_replicate.1 hx).2]; decide, fun j _ => ?_, by simp⟩
  rw [List.getD_eq_getElem?_getD, List.getElem?_replicate]; split <;> simp
theorem prod_enter {l m O : List Nat} {i : Nat} (h : ProdAt l m O i) : ProdIn l m O i 0 0 := by
  obtain ⟨h1, h2, h3, h4⟩ := h
  exact ⟨by simp [val, h1], h2, h3, h4, B_pos⟩
theorem getD_set_ne {O : List Nat} {a j d : Nat} (h : a ≠ j) : (O.set a d).getD j 0 = O.getD j 0 := by
  rw [List.getD_eq_getElem?_getD, List.getD_eq_getElem?_getD, List.getElem?_set_ne h]
theorem prod_step {l m O : List Nat} {i k c d c' t : Nat} (h : ProdIn l m O i k c) (hi : i < l.length) (hk : k < m.length) (ht : t = c + (O.getD (i + k) 0 + l.getD i 0 * m.getD k 0)) (hd : d = t % B) (hc : c' = t / B) (hcb : c' < B) : ProdIn l m (O.set (i + k) d) i (k + 1) c' := by
  obtain ⟨h1, h2, h3, h4, h5⟩ := h
  have e := Nat.div_add_mod t B
  rw [← hd, ← hc] at e
  refine ⟨?_, h2.set (by rw [hd]; exact Nat.mod_lt _ B_pos), fun j hj => ?_, by simpa using h4, hcb⟩
  · have hs := val_set (l := O) (k := i + k) (x := d) (by omega)
    rw [val_take_next, ← Nat.add_assoc, Nat.pow_succ, Nat.mul_assoc]
    have e2 : B ^ (i + k) * (B * c' + d) = B ^ (i + k) * (c + (O.getD (i + k) 0 + l.getD i 0 * m.getD k 0)) := by rw [e, ht]
    rw [Nat.mul_add, Nat.mul_add, Nat.mul_add] at e2
    have e3 : B ^ i * (l.getD i 0 * (val (m.take k) + B ^ k * m.getD k 0)) = B ^ i * (l.getD i 0 * val (m.take k)) + B ^ (i + k) * (l.getD i 0 * m.getD k 0) := by
      rw [Nat.mul_add, Nat.mul_add, Nat.pow_add]; congr 1
      rw [Nat.mul_left_comm (l.getD i 0), Nat.mul_assoc]
    rw [e3]; omega
  · rw [getD_set_ne (by omega)]; exact h3 j hj
theorem prod_leave {l m O : List Nat} {i c : Nat} (h : ProdIn l m O i m.length c) (hi : i < l.length) : ProdAt l m (O.set (i + m.length) c) (i + 1) := by
  obtain ⟨h1, h2, h3, h4, h5⟩ := h
  refine ⟨?_, h2.set h5, fun j hj => ?_, by simpa using h4⟩
  · have hs := val_set (l := O) (k := i + m.length) (x := c) (by omega)
    rw [h3 _ (Nat.le_refl _)] at hs
    rw [List.take_of_length_le (Nat.le_refl _)] at h1
    rw [val_take_next, Nat.add_mul, Nat.mul_assoc]; omega
  · rw [getD_set_ne (by omega)]; exact h3 j (by omega)
theorem prod_end {l m O : List Nat} (h : ProdAt l m O l.length) : val O = val l * val m := by
  rw [h.1, List.take_of_length_le (Nat.le_refl _)]
theorem u32s_set (l : List Nat) (i x : Nat) : (u32s l).set i (.int .u32 x) = u32s (l.set i x) := by unfold u32s; rw [List.map_set]
theorem u32s_length (l : List Nat) : (u32s l).length = l.length := by unfold u32s; simp
theorem made_u32s (n : Nat) : (madeCells #[Value.int .u32 0] n).toList = u32s (List.replicate n 0) := by
  rw [toList_madeCells_one]; simp [u32s]
/-- what a slot of digits of the call's own holds -/
theorem own_cell {w : World} {base g n cap : Nat} {O : List Nat} (h : w.ownsRow base 88 1 (.slice (some ⟨g, 0, none⟩) n cap) n (u32s O)) {j : Nat} (hj : j < n) : w.cell? ⟨g, j, none⟩ = some (.int .u32 (O.getD j 0 : Nat)) := by
  have hl : O.length = n := by have := h.1; rw [u32s_length] at this; omega
  rw [h.cellAt j (by omega), u32s_get O j (by omega)]
theorem wrap_mul (x y : Nat) (hx : x < B) (hy : y < B) : IntKind.u64.wrap ((x : Int) * (y : Int)) = ((x * y : Nat) : Int) ∧ x * y ≤ (B - 1) * (B - 1) := by
  have h : x * y ≤ (B - 1) * (B - 1) := Nat.mul_le_mul (by omega) (by omega)
  refine ⟨?_, h⟩
  rw [IntKind.wrap_u64, ← Int.natCast_mul]
  unfold B at h
  generalize x * y = z at *; omega
theorem wrap_small (z : Int) (h0 : 0 ≤ z) (h1 : z ≤ (B - 1) * (B - 1) + 2 * (B - 1)) : IntKind.u64.wrap z = z := by
  rw [IntKind.wrap_u64]; unfold B at h1; omega
set_option maxRecDepth 20000 in
set_option maxHeartbeats 2000000 in
theorem times_lists (l m : List Nat) (ao bo : Option Addr) (ca cb : Nat) (w : World) (hl : l.length ≤ 100000) (hm : m.length ≤ 100000) (dl : Dig l) (dm : Dig m) (hda : Dg w ao l) (hdb : Dg w bo m) :
    Calls Try.prog 93 #[.slice ao l.length ca, .slice bo m.length cb] w (RetN w (val l * val m)) := by
  obtain ⟨i0, hi, hz0, hz1, hz2⟩ := info_parts Try.info88
  have HDD := hide (And.intro dl dm); clear dl dm
  have HA := hide hda; clear hda
  have HB := hide hdb; clear hdb
  obtain ⟨n, hn⟩ : ∃ n, n = l.length + m.length + 1 := ⟨_, rfl⟩
  have HN := hide hn
  have hni : (n : Int) = (l.length : Int) + (m.length : Int) + 1 := by omega
  have HNI := hide hni; clear hni hn
  go_enter Try.func93, Try.ntmps93
  go_wp2_with (at_make; refine wpList_make_full _ rfl _ _ 41 rfl w.heap.size 88 i0 (.int .u32 0) 1 Try.underlying41 hi hz0 hz1 _ _ _ _ n rfl rfl ?e1 ?e2 ?e3 ?e4 ?e5 ?_)
  case e1 => exact HNI.out.symm
  case e2 => exact HNI.out.symm
  case e3 => have := HNI.out; rw [hz2]; omega
  case e4 => have := HNI.out; unfold maxLen; omega
  case e5 => exact Nat.le_refl _
  intro w1 hown0 hgrow0
  have hb0 : Below w.heap.size w w1 := (Below.refl _ _).grown hgrow0 (Nat.le_refl _) (fun k hk => by simp at hk)
  rw [made_u32s] at hown0
  have HS0 : Hid (ProdAt l m (List.replicate n 0) 0) := by rw [HN.out]; exact hide prod_start
  clear hgrow0
  go_wp2
  go_loopw [20] (fun iv wr => ∃ (O : List Nat) (i : Nat), iv = .int .i64 i ∧ i ≤ l.length ∧ Hid (ProdAt l m O i) ∧ wr.ownsRow w.heap.size 88 1 (.slice (some ⟨w.heap.size, 0, none⟩) n n) n (u32s O) ∧ Below w.heap.size w wr) (fun iv _ => l.length - (intOf iv).toNat)
  case atStart => exact ⟨_, 0, rfl, by omega, HS0, hown0, hb0⟩
  case round =>
    clear hown0 hb0 HS0
    obtain ⟨O, i, rfl, hik, hs, hown, hb⟩ := hrel
    by_cases h1 : i < l.length
    · obtain ⟨x, hx⟩ : ∃ x, Hid (x = l.getD i 0) := ⟨_, rfl⟩
      rcases HA.out.below hb with hh | ⟨b, off, rfl, hca⟩
      · subst hh; simp at h1
      have hxc := hca i h1
      rw [← hx.out] at hxc
      clear hca
      go_wp2
      obtain ⟨wo, rfl⟩ : ∃ wo : World, wo = wr := ⟨_, rfl⟩
      have HO := hide (And.intro hs.out hown)
      have hs0 : Hid (ProdIn l m O i 0 0) := hide (prod_enter hs.out)
      go_loopw [8, 27] (fun cv kv wr => ∃ (O : List Nat) (k c : Nat), kv = .int .i64 k ∧ cv = .int .u64 c ∧ k ≤ m.length ∧ Hid (ProdIn l m O i k c) ∧ wr.ownsRow w.heap.size 88 1 (.slice (some ⟨w.heap.size, 0, none⟩) n n) n (u32s O) ∧ Below w.heap.size w wr) (fun _ kv _ => m.length - (intOf kv).toNat)
      case atStart => exact ⟨O, 0, 0, rfl, rfl, by omega, hs0, hown, hb⟩
      case round =>
        clear hs hown hb hs0 hxc HO
        obtain ⟨P, k, c, rfl, rfl, hkk, hs, hown, hb⟩ := hrel
        have hcB : (c : Int) < 4294967296 := by have := hs.out.2.2.2.2; unfold B at this; omega
        by_cases h2 : k < m.length
        · obtain ⟨y, hy⟩ : ∃ y, Hid (y = m.getD k 0) := ⟨_, rfl⟩
          obtain ⟨o, ho⟩ : ∃ y, Hid (y = P.getD (i + k) 0) := ⟨_, rfl⟩
          rcases HB.out.below hb with hh | ⟨b', off', rfl, hcb⟩
          · subst hh; simp at h2
          have hyc := hcb k h2
          rw [← hy.out] at hyc
          clear hcb
          have hix : (i : Int) + (k : Int) < (n : Int) := by have := HNI.out; omega
          have hoc := own_cell hown (j := i + k) (by omega)
          rw [← ho.out] at hoc
          have hof := hown.frozenAt (i + k)
          have bx : x < B := by rw [hx.out]; exact HDD.out.1.getD i
          have bY : y < B := by rw [hy.out]; exact HDD.out.2.getD k
          have bo : o < B := by rw [ho.out]; exact hs.out.2.1.getD _
          obtain ⟨p, hp⟩ : ∃ p, p = x * y := ⟨_, rfl⟩
          obtain ⟨m1, m2⟩ := wrap_mul x y bx bY
          rw [← hp] at m1 m2
          have m3 : IntKind.u64.wrap ((o : Int) + (p : Int)) = ((o + p : Nat) : Int) := wrap_small _ (by omega) (by unfold B at *; omega)
          have m4 : IntKind.u64.wrap ((c : Int) + ((o + p : Nat) : Int)) = ((c + (o + p) : Nat) : Int) := wrap_small _ (by omega) (by unfold B at *; omega)
          obtain ⟨t, ht⟩ : ∃ t, t = c + (o + p) := ⟨_, rfl⟩
          rw [← ht] at m4
          obtain ⟨q, hq⟩ : ∃ q, q = o + p := ⟨_, rfl⟩
          rw [← hq] at m3 m4
          obtain ⟨d, hd⟩ : ∃ d, d = t % 4294967296 := ⟨_, rfl⟩
          obtain ⟨c', hc'⟩ : ∃ d, d = t / 4294967296 := ⟨_, rfl⟩
          have m5 : IntKind.u32.wrap (t : Int) = (d : Int) := by rw [IntKind.wrap_u32]; omega
          have m5' : (t : Int) % 4294967296 = (d : Int) := by omega
          have m6 : (t : Int) / 4294967296 = (c' : Int) := by omega
          have hcb' : c' < B := by unfold B at *; omega
          have HS : Hid (ProdIn l m (P.set (i + k) d) i (k + 1) c') := hide (prod_step hs.out h1 h2 (by rw [ht, hp, hx.out, hy.out, ho.out]) hd hc' hcb')
          have HOWN := hide (hown.stored (i + k) (.int .u32 d)).1
          rw [u32s_set] at HOWN
          have HBL := hide (bs hb (p := ⟨w.heap.size, i + k, none⟩) (Nat.le_refl _) (.int .u32 d))
          have nx : (x : Int) < 4294967296 := by unfold B at bx; omega
          have ny : (y : Int) < 4294967296 := by unfold B at bY; omega
          have no : (o : Int) < 4294967296 := by unfold B at bo; omega
          clear ht hp hq hd hc' hcb' bx bY bo m2 hown hb hs
          go_wp2
          go_roundw
          case rel => exact ⟨_, k + 1, c', by go_num, rfl, by omega, HS, HOWN.out, HBL.out⟩
          case measure => simp [intOf]; omega
        · obtain rfl : k = m.length := by omega
          have hix : (i : Int) + (m.length : Int) < (n : Int) := by have := HNI.out; omega
          have hoc := own_cell hown (j := i + m.length) (by omega)
          have hof := hown.frozenAt (i + m.length)
          have HS : Hid (ProdAt l m (P.set (i + m.length) c) (i + 1)) := hide (prod_leave hs.out h1)
          have HOWN := hide (hown.stored (i + m.length) (.int .u32 c)).1
          rw [u32s_set] at HOWN
          have HBL := hide (bs hb (p := ⟨w.heap.size, i + m.length, none⟩) (Nat.le_refl _) (.int .u32 c))
          clear hown hb hs
          go_wp2
          go_roundw
          case rel => exact ⟨_, i + 1, by go_num, by omega, HS, HOWN.out, HBL.out⟩
          case measure => simp [intOf]; omega
    · obtain rfl : i = l.length := by omega
      have HF := hide (prod_end hs.out)
      have hOl : O.length = n := by rw [hs.out.2.2.2, HN.out]
      have hown2 : wr.ownsRow w.heap.size 88 1 (.slice (some ⟨w.heap.size, 0, none⟩) n n) O.length (u32s O) := by rw [hOl]; exact hown
      have HL : Hid (O.length ≤ 1000000) := hide (by rw [hOl]; have := HNI.out; omega)
      clear hOl
      go_wp2_with (go_at_call 119; refine (trimmed_any O _ _ (rd_of_owns hown2 hs.out.2.1) HL.out).mono ?_; rintro e w2 ⟨v2, rfl, hv2, hb2, _⟩)
      go_ret
      exact ⟨v2, rfl, by rw [← HF.out]; exact hv2, bt hb hb2⟩
theorem times_any (a b : Nat) (va vb : Value) (w : World) (ha : RN w va a) (hb : RN w vb b) (sa : Sm a) (sb : Sm b) : Calls Try.prog 93 #[va, vb] w (RetN w (a * b)) := by
  obtain ⟨l, ao, ca, rfl, hl, rfl, da, _⟩ := ha
  obtain ⟨m, bo, cb, rfl, hm, rfl, db, _⟩ := hb
  have h1 := sm_len hl sa
  have h2 := sm_len hm sb
  exact times_lists l m ao bo ca cb w (by unfold K at h1; omega) (by unfold K at h2; omega) hl.1 hm.1 da db
end Go.Proofs.Ytpgnbjlpkpmpcaa.R
