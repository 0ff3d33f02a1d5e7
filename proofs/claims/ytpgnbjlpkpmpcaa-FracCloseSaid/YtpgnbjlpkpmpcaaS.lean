import Derived.Test.YtpgnbjlpkpmpcaaQ
namespace Go.Proofs.Ytpgnbjlpkpmpcaa.R
open Go.RowKit Go.Proofs.Ytpgnbjlpkpmpcaa.N
theorem getD_ge {l : List Nat} {k : Nat} (h : l.length ≤ k) : l.getD k 0 = 0 := by simp [List.getD_eq_getElem?_getD, h]
theorem val_take_next (l : List Nat) (k : Nat) : val (l.take (k + 1)) = val (l.take k) + B ^ k * l.getD k 0 := by
  rcases Nat.lt_or_ge k l.length with h | h
  · exact val_take_succ h
  · rw [getD_ge h, List.take_of_length_le h, List.take_of_length_le (by omega)]; simp
/-- a sum's digits so far, and the carry -/
def SumAt (l m D : List Nat) (k c : Nat) : Prop := val D + B ^ k * c = val (l.take k) + val (m.take k) ∧ Dig D ∧ D.length = k
theorem sum_next {l m D : List Nat} {k c d c' : Nat} (h : SumAt l m D k c) (hd : d = (c + l.getD k 0 + m.getD k 0) % B) (hc : c' = (c + l.getD k 0 + m.getD k 0) / B) : SumAt l m (D ++ [d]) (k + 1) c' := by
  obtain ⟨h1, h2, h3⟩ := h
  have e := Nat.div_add_mod (c + l.getD k 0 + m.getD k 0) B
  rw [← hd, ← hc] at e
  refine ⟨?_, h2.snoc (by rw [hd]; exact Nat.mod_lt _ B_pos), by simp [h3]⟩
  rw [val_append, h3, val_take_next, val_take_next, Nat.pow_succ]
  simp only [val, Nat.mul_zero, Nat.add_zero]
  have e2 : B ^ k * (B * c' + d) = B ^ k * (c + l.getD k 0 + m.getD k 0) := by rw [e]
  rw [Nat.mul_add, Nat.mul_add, Nat.mul_add, ← Nat.mul_assoc] at e2
  omega
theorem sum_end {l m D : List Nat} {k : Nat} (h : SumAt l m D k 0) (h1 : l.length ≤ k) (h2 : m.length ≤ k) : val D = val l + val m := by
  have := h.1
  rw [List.take_of_length_le h1, List.take_of_length_le h2] at this
  simpa using this
set_option maxRecDepth 20000 in
set_option maxHeartbeats 2000000 in
theorem plus_lists (l m : List Nat) (ao bo : Option Addr) (ca cb : Nat) (w : World) (hl : l.length ≤ 100000) (hm : m.length ≤ 100000) (dl : Dig l) (dm : Dig m) (hda : Dg w ao l) (hdb : Dg w bo m) :
    Calls Try.prog 94 #[.slice ao l.length ca, .slice bo m.length cb] w (RetF w (val l + val m)) := by
  obtain ⟨i0, hi, hz0, hz1, hz2⟩ := info_parts Try.info88
  have HDD := hide (And.intro dl dm); clear dl dm
  have HA := hide hda; clear hda
  have HB := hide hdb; clear hdb
  go_enter Try.func94, Try.ntmps94
  go_wp2
  go_loopw [5, 6, 7] (fun v cv iv wr => ∃ (D : List Nat) (k c : Nat), iv = .int .i64 k ∧ cv = .int .u64 c ∧ c ≤ 1 ∧ k ≤ 100001 ∧ (k = 100001 → c = 0) ∧ Hid (SumAt l m D k c) ∧ wr.ownsRow w.heap.size 88 1 v D.length (u32s D) ∧ Below w.heap.size w wr) (fun _ cv iv _ => (200010 - 2 * (intOf iv).toNat) + (intOf cv).toNat)
  case atStart => exact ⟨[], 0, 0, rfl, rfl, by omega, by omega, by omega, hide ⟨by simp [val], fun _ h => by simp at h, rfl⟩, World.ownsRow_nil _ _ _ _, Below.refl _ _⟩
  case round =>
    obtain ⟨D, k, c, rfl, rfl, hc, hk, hkc, hs, hown, hb⟩ := hrel
    have hDl : D.length = k := hs.out.2.2
    have HDl := hide hDl; clear hDl
    have hsz := hb.size
    obtain ⟨x, hx⟩ : ∃ x, Hid (x = l.getD k 0) := ⟨_, rfl⟩
    obtain ⟨y, hy⟩ : ∃ x, Hid (x = m.getD k 0) := ⟨_, rfl⟩
    have hxb : (x : Int) < 4294967296 := by have := HDD.out.1.getD k; rw [← hx.out] at this; unfold B at this; omega
    have hyb : (y : Int) < 4294967296 := by have := HDD.out.2.getD k; rw [← hy.out] at this; unfold B at this; omega
    have HS : Hid (SumAt l m (D ++ [(c + x + y) % 4294967296]) (k + 1) ((c + x + y) / 4294967296)) := by
      rw [hx.out, hy.out]; exact hide (sum_next hs.out rfl rfl)
    have HKC := hide hkc; clear hkc
    have HSIZE := hide hsz
    by_cases h1 : k < l.length
    · rcases HA.out.below hb with hh | ⟨b, off, rfl, hca⟩
      · subst hh; simp at h1
      have hxc := hca k h1
      rw [← hx.out] at hxc
      clear hca
      by_cases h2 : k < m.length
      · rcases HB.out.below hb with hh | ⟨b', off', rfl, hcb⟩
        · subst hh; simp at h2
        have hyc := hcb k h2
        rw [← hy.out] at hyc
        clear hcb
        have hdw : IntKind.u32.wrap ((c : Int) + (x : Int) + (y : Int)) = (((c + x + y) % 4294967296 : Nat) : Int) := by rw [IntKind.wrap_u32]; omega
        have hcw : ((c : Int) + (x : Int) + (y : Int)) / 4294967296 = (((c + x + y) / 4294967296 : Nat) : Int) := by omega
        obtain ⟨d, hd⟩ : ∃ d, d = (c + x + y) % 4294967296 := ⟨_, rfl⟩
        obtain ⟨c', hc'⟩ : ∃ d, d = (c + x + y) / 4294967296 := ⟨_, rfl⟩
        rw [← hd] at hdw; rw [← hc'] at hcw; rw [← hd, ← hc'] at HS
        have hc1 : c' ≤ 1 := by omega
        have HK1 : Hid (k + 1 ≤ 100001 ∧ (k + 1 = 100001 → c' = 0)) := hide ⟨by omega, fun hh => by omega⟩
        have HHD := hide (And.intro hd hc'); clear hd hc'
        go_wp2_with (at_builtin; refine wpList_append_own _ rfl _ _ 41 rfl w.heap.size 88 i0 (.int .u32 0) 1 4 Try.underlying41 hi hz0 hz1 hz2 rfl (by decide) _ _ _ rfl (hown.alloc _) ⟨wr.heap.size, 0, none⟩ 1 1 [.int .u32 d] rfl rfl ?c1 ?c2 ?c3 ?c4 ?c5 ?_)
        case c1 =>
          intro j u hj
          match j, hj with
          | 0, hj => simp at hj; subst hj; simp [Addr.add]
        case c2 => intro u hu; simp at hu; subst hu; rfl
        case c3 => have := HDl.out; unfold maxLen; omega
        case c4 => have := HDl.out; omega
        case c5 => have := HSIZE.out; simp; omega
        · intro v' w1 hown' hgrow _
          have hb' : Below w.heap.size w w1 := (ba hb (Obj.cells #[.int .u32 d] 88)).grown hgrow (by have := HSIZE.out; simp; omega) (fun k hk => (hown.lt k hk).1)
          clear hgrow hown hb
          go_wp2
          go_roundw
          case rel => exact ⟨D ++ [d], k + 1, c', by go_num, by first | rfl | rw [hcw], hc1, HK1.out.1, HK1.out.2, HS, by simpa [u32s] using hown', hb'⟩
          case measure => simp [intOf]; omega
      · obtain rfl : y = 0 := by rw [hy.out]; exact getD_ge (by omega)
        have h2' : decide ((k : Int) < (m.length : Int)) = false := by simp; omega
        have hdw : IntKind.u32.wrap ((c : Int) + (x : Int)) = (((c + x + 0) % 4294967296 : Nat) : Int) := by rw [IntKind.wrap_u32]; omega
        have hcw : ((c : Int) + (x : Int)) / 4294967296 = (((c + x + 0) / 4294967296 : Nat) : Int) := by omega
        obtain ⟨d, hd⟩ : ∃ d, d = (c + x + 0) % 4294967296 := ⟨_, rfl⟩
        obtain ⟨c', hc'⟩ : ∃ d, d = (c + x + 0) / 4294967296 := ⟨_, rfl⟩
        rw [← hd] at hdw; rw [← hc'] at hcw; rw [← hd, ← hc'] at HS
        have hc1 : c' ≤ 1 := by omega
        have HK1 : Hid (k + 1 ≤ 100001 ∧ (k + 1 = 100001 → c' = 0)) := hide ⟨by omega, fun hh => by omega⟩
        have HHD := hide (And.intro hd hc'); clear hd hc'
        go_wp2_with (at_builtin; refine wpList_append_own _ rfl _ _ 41 rfl w.heap.size 88 i0 (.int .u32 0) 1 4 Try.underlying41 hi hz0 hz1 hz2 rfl (by decide) _ _ _ rfl (hown.alloc _) ⟨wr.heap.size, 0, none⟩ 1 1 [.int .u32 d] rfl rfl ?c1 ?c2 ?c3 ?c4 ?c5 ?_)
        case c1 =>
          intro j u hj
          match j, hj with
          | 0, hj => simp at hj; subst hj; simp [Addr.add]
        case c2 => intro u hu; simp at hu; subst hu; rfl
        case c3 => have := HDl.out; unfold maxLen; omega
        case c4 => have := HDl.out; omega
        case c5 => have := HSIZE.out; simp; omega
        · intro v' w1 hown' hgrow _
          have hb' : Below w.heap.size w w1 := (ba hb (Obj.cells #[.int .u32 d] 88)).grown hgrow (by have := HSIZE.out; simp; omega) (fun k hk => (hown.lt k hk).1)
          clear hgrow hown hb
          go_wp2
          go_roundw
          case rel => exact ⟨D ++ [d], k + 1, c', by go_num, by first | rfl | rw [hcw], hc1, HK1.out.1, HK1.out.2, HS, by simpa [u32s] using hown', hb'⟩
          case measure => simp [intOf]; omega
    · obtain rfl : x = 0 := by rw [hx.out]; exact getD_ge (by omega)
      have h1' : decide ((k : Int) < (l.length : Int)) = false := by simp; omega
      by_cases h2 : k < m.length
      · rcases HB.out.below hb with hh | ⟨b', off', rfl, hcb⟩
        · subst hh; simp at h2
        have hyc := hcb k h2
        rw [← hy.out] at hyc
        clear hcb
        have hdw : IntKind.u32.wrap ((c : Int) + (y : Int)) = (((c + 0 + y) % 4294967296 : Nat) : Int) := by rw [IntKind.wrap_u32]; omega
        have hcw : ((c : Int) + (y : Int)) / 4294967296 = (((c + 0 + y) / 4294967296 : Nat) : Int) := by omega
        obtain ⟨d, hd⟩ : ∃ d, d = (c + 0 + y) % 4294967296 := ⟨_, rfl⟩
        obtain ⟨c', hc'⟩ : ∃ d, d = (c + 0 + y) / 4294967296 := ⟨_, rfl⟩
        rw [← hd] at hdw; rw [← hc'] at hcw; rw [← hd, ← hc'] at HS
        have hc1 : c' ≤ 1 := by omega
        have HK1 : Hid (k + 1 ≤ 100001 ∧ (k + 1 = 100001 → c' = 0)) := hide ⟨by omega, fun hh => by omega⟩
        have HHD := hide (And.intro hd hc'); clear hd hc'
        go_wp2_with (at_builtin; refine wpList_append_own _ rfl _ _ 41 rfl w.heap.size 88 i0 (.int .u32 0) 1 4 Try.underlying41 hi hz0 hz1 hz2 rfl (by decide) _ _ _ rfl (hown.alloc _) ⟨wr.heap.size, 0, none⟩ 1 1 [.int .u32 d] rfl rfl ?c1 ?c2 ?c3 ?c4 ?c5 ?_)
        case c1 =>
          intro j u hj
          match j, hj with
          | 0, hj => simp at hj; subst hj; simp [Addr.add]
        case c2 => intro u hu; simp at hu; subst hu; rfl
        case c3 => have := HDl.out; unfold maxLen; omega
        case c4 => have := HDl.out; omega
        case c5 => have := HSIZE.out; simp; omega
        · intro v' w1 hown' hgrow _
          have hb' : Below w.heap.size w w1 := (ba hb (Obj.cells #[.int .u32 d] 88)).grown hgrow (by have := HSIZE.out; simp; omega) (fun k hk => (hown.lt k hk).1)
          clear hgrow hown hb
          go_wp2
          go_roundw
          case rel => exact ⟨D ++ [d], k + 1, c', by go_num, by first | rfl | rw [hcw], hc1, HK1.out.1, HK1.out.2, HS, by simpa [u32s] using hown', hb'⟩
          case measure => simp [intOf]; omega
      · obtain rfl : y = 0 := by rw [hy.out]; exact getD_ge (by omega)
        have h2' : decide ((k : Int) < (m.length : Int)) = false := by simp; omega
        by_cases hcz : c = 0
        · subst hcz
          have HF := hide (sum_end hs.out (by omega) (by omega))
          go_wp2_with (go_at_call 119; refine (trimmed_any D _ _ (rd_of_owns hown hs.out.2.1) (by have := HDl.out; omega)).mono ?_; rintro e w2 ⟨v2, rfl, hv2, hb2, hf2⟩)
          go_ret
          exact ⟨v2, rfl, by rw [← HF.out]; exact hv2, bt hb hb2, fun k hk => (hown.lt k (hf2 k hk)).1⟩
        · obtain rfl : c = 1 := by omega
          have hdw : IntKind.u32.wrap ((1 : Int)) = (((1 + 0 + 0) % 4294967296 : Nat) : Int) := by rw [IntKind.wrap_u32]; omega
          have hcw : ((1 : Int)) / 4294967296 = (((1 + 0 + 0) / 4294967296 : Nat) : Int) := by omega
          obtain ⟨d, hd⟩ : ∃ d, d = (1 + 0 + 0) % 4294967296 := ⟨_, rfl⟩
          obtain ⟨c', hc'⟩ : ∃ d, d = (1 + 0 + 0) / 4294967296 := ⟨_, rfl⟩
          rw [← hd] at hdw; rw [← hc'] at hcw; rw [← hd, ← hc'] at HS
          have hc1 : c' ≤ 1 := by omega
          have HK1 : Hid (k + 1 ≤ 100001 ∧ (k + 1 = 100001 → c' = 0)) := hide ⟨by have := HKC.out; omega, fun hh => by omega⟩
          have HHD := hide (And.intro hd hc'); clear hd hc'
          go_wp2_with (at_builtin; refine wpList_append_own _ rfl _ _ 41 rfl w.heap.size 88 i0 (.int .u32 0) 1 4 Try.underlying41 hi hz0 hz1 hz2 rfl (by decide) _ _ _ rfl (hown.alloc _) ⟨wr.heap.size, 0, none⟩ 1 1 [.int .u32 d] rfl rfl ?c1 ?c2 ?c3 ?c4 ?c5 ?_)
          case c1 =>
            intro j u hj
            match j, hj with
            | 0, hj => simp at hj; subst hj; simp [Addr.add]
          case c2 => intro u hu; simp at hu; subst hu; rfl
          case c3 => have := HDl.out; unfold maxLen; omega
          case c4 => have := HDl.out; omega
          case c5 => have := HSIZE.out; simp; omega
          · intro v' w1 hown' hgrow _
            have hb' : Below w.heap.size w w1 := (ba hb (Obj.cells #[.int .u32 d] 88)).grown hgrow (by have := HSIZE.out; simp; omega) (fun k hk => (hown.lt k hk).1)
            clear hgrow hown hb
            go_wp2
            go_roundw
            case rel => exact ⟨D ++ [d], k + 1, c', by go_num, by first | rfl | rw [hcw], hc1, HK1.out.1, HK1.out.2, HS, by simpa [u32s] using hown', hb'⟩
            case measure => simp [intOf]; omega
theorem plus_any (a b : Nat) (va vb : Value) (w : World) (ha : RN w va a) (hb : RN w vb b) (sa : Sm a) (sb : Sm b) : Calls Try.prog 94 #[va, vb] w (RetF w (a + b)) := by
  obtain ⟨l, ao, ca, rfl, hl, rfl, da, _⟩ := ha
  obtain ⟨m, bo, cb, rfl, hm, rfl, db, _⟩ := hb
  have h1 := sm_len hl sa
  have h2 := sm_len hm sb
  exact plus_lists l m ao bo ca cb w (by unfold K at h1; omega) (by unfold K at h2; omega) hl.1 hm.1 da db
end Go.Proofs.Ytpgnbjlpkpmpcaa.R
