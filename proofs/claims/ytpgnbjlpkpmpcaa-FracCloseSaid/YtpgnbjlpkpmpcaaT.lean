import Derived.Test.YtpgnbjlpkpmpcaaS
namespace Go.Proofs.Ytpgnbjlpkpmpcaa.R
open Go.RowKit Go.Proofs.Ytpgnbjlpkpmpcaa.N
/-- a difference's digits so far, and the borrow -/
def DiffAt (l m D : List Nat) (k c : Nat) : Prop := val D + val (m.take k) = val (l.take k) + B ^ k * c ∧ Dig D ∧ D.length = k
theorem diff_next {l m D : List Nat} {k c d c' : Nat} (h : DiffAt l m D k c) (hd : d < B) (e : d + m.getD k 0 + c = l.getD k 0 + B * c') : DiffAt l m (D ++ [d]) (k + 1) c' := by
  obtain ⟨h1, h2, h3⟩ := h
  refine ⟨?_, h2.snoc hd, by simp [h3]⟩
  rw [val_append, h3, val_take_next, val_take_next, Nat.pow_succ]
  simp only [val, Nat.mul_zero, Nat.add_zero]
  have e2 : B ^ k * (d + m.getD k 0 + c) = B ^ k * (l.getD k 0 + B * c') := by rw [e]
  rw [Nat.mul_add, Nat.mul_add, Nat.mul_add, ← Nat.mul_assoc] at e2
  omega
theorem diff_end {l m D : List Nat} {c : Nat} (h : DiffAt l m D l.length c) (_hl : Dig l) (hm : m.length ≤ l.length) (hle : val m ≤ val l) : val D = val l - val m := by
  have h1 := h.1
  rw [List.take_of_length_le (Nat.le_refl _), List.take_of_length_le hm] at h1
  have h2 := val_lt h.2.1
  rw [h.2.2] at h2
  cases c with
  | zero => simp at h1; omega
  | succ c => 
    have : B ^ l.length * 1 ≤ B ^ l.length * (c + 1) := Nat.mul_le_mul_left _ (by omega)
    omega
set_option maxRecDepth 20000 in
set_option maxHeartbeats 2000000 in
theorem less_lists (l m : List Nat) (ao bo : Option Addr) (ca cb : Nat) (w : World) (hl : l.length ≤ 100000) (hm : m.length ≤ l.length) (hle : val m ≤ val l) (dl : Dig l) (dm : Dig m) (hda : Dg w ao l) (hdb : Dg w bo m) :
    Calls Try.prog 96 #[.slice ao l.length ca, .slice bo m.length cb] w (RetF w (val l - val m)) := by
  obtain ⟨i0, hi, hz0, hz1, hz2⟩ := info_parts Try.info88
  have HDD := hide (And.intro (And.intro dl dm) hle); clear dl dm hle
  have HA := hide hda; clear hda
  have HB := hide hdb; clear hdb
  go_enter Try.func96, Try.ntmps96
  go_wp2
  go_loopw [5, 6, 11] (fun v cv iv wr => ∃ (D : List Nat) (k c : Nat), iv = .int .i64 k ∧ cv = .int .i64 c ∧ c ≤ 1 ∧ k ≤ l.length ∧ Hid (DiffAt l m D k c) ∧ wr.ownsRow w.heap.size 88 1 v D.length (u32s D) ∧ Below w.heap.size w wr) (fun _ _ iv _ => l.length - (intOf iv).toNat)
  case atStart => exact ⟨[], 0, 0, rfl, rfl, by omega, by omega, hide ⟨by simp [val], fun _ h => by simp at h, rfl⟩, World.ownsRow_nil _ _ _ _, Below.refl _ _⟩
  case round =>
    obtain ⟨D, k, c, rfl, rfl, hc, hk, hs, hown, hb⟩ := hrel
    have HDl := hide hs.out.2.2
    have hsz := hb.size
    by_cases h1 : k < l.length
    · obtain ⟨x, hx⟩ : ∃ x, Hid (x = l.getD k 0) := ⟨_, rfl⟩
      obtain ⟨y, hy⟩ : ∃ x, Hid (x = m.getD k 0) := ⟨_, rfl⟩
      have hxb : (x : Int) < 4294967296 := by have := HDD.out.1.1.getD k; rw [← hx.out] at this; unfold B at this; omega
      have hyb : (y : Int) < 4294967296 := by have := HDD.out.1.2.getD k; rw [← hy.out] at this; unfold B at this; omega
      have HSIZE := hide hsz
      have HS : Hid (∀ d c' : Nat, d < 4294967296 → d + y + c = x + 4294967296 * c' → DiffAt l m (D ++ [d]) (k + 1) c') := by
        rw [hx.out, hy.out]; exact hide (fun d c' h1 h2 => diff_next hs.out h1 h2)
      rcases HA.out.below hb with hh | ⟨b, off, rfl, hca⟩
      · subst hh; simp at h1
      have hxc := hca k h1
      rw [← hx.out] at hxc
      clear hca
      by_cases h2 : k < m.length
      · rcases HB.out.below hb with hh | ⟨b', off', rfl, hcb⟩
        · subst hh; simp at h2
        have hyc := hcb k h2
        rw [← hy.out] at hyc
        clear hcb
        by_cases hn : (x : Int) - (c : Int) - (y : Int) < 0
        · obtain ⟨d, hd⟩ : ∃ d : Nat, (d : Int) = (x : Int) - (c : Int) - (y : Int) + 4294967296 := ⟨((x : Int) - (c : Int) - (y : Int) + 4294967296).toNat, by omega⟩
          have hdw : IntKind.u32.wrap ((x : Int) - (c : Int) - (y : Int) + 4294967296) = (d : Int) := by rw [IntKind.wrap_u32, ← hd]; omega
          have HS2 := hide (HS.out d 1 (by omega) (by omega)); clear HS
          have hde := hd.symm
          have HHD := hide hd; clear hd
          go_wp2_with (at_builtin; refine wpList_append_own _ rfl _ _ 41 rfl w.heap.size 88 i0 (.int .u32 0) 1 4 Try.underlying41 hi hz0 hz1 hz2 rfl (by decide) _ _ _ rfl (hown.alloc _) ⟨wr.heap.size, 0, none⟩ 1 1 [.int .u32 d] rfl rfl (cell_one_new _ _ _) ?c2 ?c3 ?c4 ?c5 ?_)
          case c2 => intro u hu; simp at hu; subst hu; rfl
          case c3 => have := HDl.out; unfold maxLen; omega
          case c4 => have := HDl.out; omega
          case c5 => have := HSIZE.out; simp; omega
          · intro v' w1 hown' hgrow _
            have hb' : Below w.heap.size w w1 := (ba hb (Obj.cells #[.int .u32 d] 88)).grown hgrow (by have := HSIZE.out; simp; omega) (fun k hk => (hown.lt k hk).1)
            clear hgrow hown hb
            go_wp2
            go_roundw
            case rel => exact ⟨D ++ [d], k + 1, 1, by go_num, rfl, by omega, by omega, HS2, by simpa [u32s] using hown', hb'⟩
            case measure => simp [intOf]; omega
        · obtain ⟨d, hd⟩ : ∃ d : Nat, (d : Int) = (x : Int) - (c : Int) - (y : Int) := ⟨((x : Int) - (c : Int) - (y : Int)).toNat, by omega⟩
          have hdw : IntKind.u32.wrap ((x : Int) - (c : Int) - (y : Int)) = (d : Int) := by rw [IntKind.wrap_u32, ← hd]; omega
          have HS2 := hide (HS.out d 0 (by omega) (by omega)); clear HS
          have hde := hd.symm
          have HHD := hide hd; clear hd
          have hn' : decide ((d : Int) < 0) = false := by simp
          clear hn
          go_wp2_with (at_builtin; refine wpList_append_own _ rfl _ _ 41 rfl w.heap.size 88 i0 (.int .u32 0) 1 4 Try.underlying41 hi hz0 hz1 hz2 rfl (by decide) _ _ _ rfl (hown.alloc _) ⟨wr.heap.size, 0, none⟩ 1 1 [.int .u32 d] rfl rfl (cell_one_new _ _ _) ?c2 ?c3 ?c4 ?c5 ?_)
          case c2 => intro u hu; simp at hu; subst hu; rfl
          case c3 => have := HDl.out; unfold maxLen; omega
          case c4 => have := HDl.out; omega
          case c5 => have := HSIZE.out; simp; omega
          · intro v' w1 hown' hgrow _
            have hb' : Below w.heap.size w w1 := (ba hb (Obj.cells #[.int .u32 d] 88)).grown hgrow (by have := HSIZE.out; simp; omega) (fun k hk => (hown.lt k hk).1)
            clear hgrow hown hb
            go_wp2
            go_roundw
            case rel => exact ⟨D ++ [d], k + 1, 0, by go_num, rfl, by omega, by omega, HS2, by simpa [u32s] using hown', hb'⟩
            case measure => simp [intOf]; omega
      · obtain rfl : y = 0 := by rw [hy.out]; exact getD_ge (by omega)
        have h2' : decide ((k : Int) < (m.length : Int)) = false := by simp; omega
        by_cases hn : (x : Int) - (c : Int) < 0
        · obtain ⟨d, hd⟩ : ∃ d : Nat, (d : Int) = (x : Int) - (c : Int) + 4294967296 := ⟨((x : Int) - (c : Int) + 4294967296).toNat, by omega⟩
          have hdw : IntKind.u32.wrap ((x : Int) - (c : Int) + 4294967296) = (d : Int) := by rw [IntKind.wrap_u32, ← hd]; omega
          have HS2 := hide (HS.out d 1 (by omega) (by omega)); clear HS
          have hde := hd.symm
          have HHD := hide hd; clear hd
          go_wp2_with (at_builtin; refine wpList_append_own _ rfl _ _ 41 rfl w.heap.size 88 i0 (.int .u32 0) 1 4 Try.underlying41 hi hz0 hz1 hz2 rfl (by decide) _ _ _ rfl (hown.alloc _) ⟨wr.heap.size, 0, none⟩ 1 1 [.int .u32 d] rfl rfl (cell_one_new _ _ _) ?c2 ?c3 ?c4 ?c5 ?_)
          case c2 => intro u hu; simp at hu; subst hu; rfl
          case c3 => have := HDl.out; unfold maxLen; omega
          case c4 => have := HDl.out; omega
          case c5 => have := HSIZE.out; simp; omega
          · intro v' w1 hown' hgrow _
            have hb' : Below w.heap.size w w1 := (ba hb (Obj.cells #[.int .u32 d] 88)).grown hgrow (by have := HSIZE.out; simp; omega) (fun k hk => (hown.lt k hk).1)
            clear hgrow hown hb
            go_wp2
            go_roundw
            case rel => exact ⟨D ++ [d], k + 1, 1, by go_num, rfl, by omega, by omega, HS2, by simpa [u32s] using hown', hb'⟩
            case measure => simp [intOf]; omega
        · obtain ⟨d, hd⟩ : ∃ d : Nat, (d : Int) = (x : Int) - (c : Int) := ⟨((x : Int) - (c : Int)).toNat, by omega⟩
          have hdw : IntKind.u32.wrap ((x : Int) - (c : Int)) = (d : Int) := by rw [IntKind.wrap_u32, ← hd]; omega
          have HS2 := hide (HS.out d 0 (by omega) (by omega)); clear HS
          have hde := hd.symm
          have HHD := hide hd; clear hd
          have hn' : decide ((d : Int) < 0) = false := by simp
          clear hn
          go_wp2_with (at_builtin; refine wpList_append_own _ rfl _ _ 41 rfl w.heap.size 88 i0 (.int .u32 0) 1 4 Try.underlying41 hi hz0 hz1 hz2 rfl (by decide) _ _ _ rfl (hown.alloc _) ⟨wr.heap.size, 0, none⟩ 1 1 [.int .u32 d] rfl rfl (cell_one_new _ _ _) ?c2 ?c3 ?c4 ?c5 ?_)
          case c2 => intro u hu; simp at hu; subst hu; rfl
          case c3 => have := HDl.out; unfold maxLen; omega
          case c4 => have := HDl.out; omega
          case c5 => have := HSIZE.out; simp; omega
          · intro v' w1 hown' hgrow _
            have hb' : Below w.heap.size w w1 := (ba hb (Obj.cells #[.int .u32 d] 88)).grown hgrow (by have := HSIZE.out; simp; omega) (fun k hk => (hown.lt k hk).1)
            clear hgrow hown hb
            go_wp2
            go_roundw
            case rel => exact ⟨D ++ [d], k + 1, 0, by go_num, rfl, by omega, by omega, HS2, by simpa [u32s] using hown', hb'⟩
            case measure => simp [intOf]; omega
    · obtain rfl : k = l.length := by omega
      have HF := hide (diff_end hs.out HDD.out.1.1 hm HDD.out.2)
      go_wp2_with (go_at_call 119; refine (trimmed_any D _ _ (rd_of_owns hown hs.out.2.1) (by have := HDl.out; omega)).mono ?_; rintro e w2 ⟨v2, rfl, hv2, hb2, hf2⟩)
      go_ret
      exact ⟨v2, rfl, by rw [← HF.out]; exact hv2, bt hb hb2, fun k hk => (hown.lt k (hf2 k hk)).1⟩
theorem less_any (a b : Nat) (va vb : Value) (w : World) (ha : RN w va a) (hb : RN w vb b) (sa : Sm a) (hle : b ≤ a) : Calls Try.prog 96 #[va, vb] w (RetF w (a - b)) := by
  obtain ⟨l, ao, ca, rfl, hl, rfl, da, _⟩ := ha
  obtain ⟨m, bo, cb, rfl, hm, rfl, db, _⟩ := hb
  have h1 := sm_len hl sa
  have h2 : m.length ≤ l.length := by
    rcases Nat.lt_or_ge l.length m.length with c | c
    · have := len_lt hl.1 hm c; omega
    · exact c
  exact less_lists l m ao bo ca cb w (by unfold K at h1; omega) h2 hle hl.1 hm.1 da db
end Go.Proofs.Ytpgnbjlpkpmpcaa.R
