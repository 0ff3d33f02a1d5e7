import Derived.Test.YtpgnbjlpkpmpcaaB
namespace Go.Proofs.Ytpgnbjlpkpmpcaa
open Go.RowKit
theorem bt {a b c : World} (h : Below a.heap.size a b) (k : Below b.heap.size b c) : Below a.heap.size a c := h.trans (k.mono h.size)
theorem ba {a b : World} (h : Below a.heap.size a b) (o : Obj) : Below a.heap.size a (b.alloc o) := h.alloc h.size o
theorem bs {a b : World} (h : Below a.heap.size a b) {p : Addr} (hp : a.heap.size ≤ p.block) (u : Value) : Below a.heap.size a (b.setCell p u) := h.setCell hp u
theorem cell_lt {w : World} {a : Addr} {v : Value} (h : w.cell? a = some v) : a.block < w.heap.size := by
  rcases Nat.lt_or_ge a.block w.heap.size with h1 | h1
  · exact h1
  · have e : w.heap[a.block]? = none := by simp [h1]
    simp [World.cell?, e] at h
def allOk (ns ds : Nat → Int) (k : Nat) : Bool := (List.range k).all fun i => M.okB (ns i) (ds i)
theorem allOk_succ (ns ds : Nat → Int) (k : Nat) : allOk ns ds (k + 1) = (allOk ns ds k && M.okB (ns k) (ds k)) := by
  unfold allOk; rw [List.range_succ, List.all_append]; simp
theorem allOk_false {ns ds : Nat → Int} {k len : Nat} (h : k < len) (hf : M.okB (ns k) (ds k) = false) : allOk ns ds len = false := by
  unfold allOk; rw [List.all_eq_false]; exact ⟨k, by simpa using h, by simp [hf]⟩
def In64 (n : Int) : Prop := -9223372036854775808 ≤ n ∧ n ≤ 9223372036854775807
theorem valid_is (n d : Int) (v : Bool) (w : World) (hn : In64 n) (hd : In64 d) (h : Hid (M.okB n d = v)) :
    Calls Try.prog 20 #[.agg #[.int .i64 n, .int .i64 d]] w fun e w' => e = .returned (.bool v) ∧ Below w.heap.size w w' := by
  rw [← h.out]; exact valid_any n d w hn.1 hn.2 hd.1 hd.2
/-- cells of a slice of fractions -/
def FrAt (w : World) (b off : Nat) (n d : Int) : Prop := w.cell? ⟨b, off, none⟩ = some (.int .i64 n) ∧ w.cell? ⟨b, off + 1, none⟩ = some (.int .i64 d)
theorem FrAt.below {w w' : World} {b off : Nat} {n d : Int} (h : FrAt w b off n d) (hb : Below w.heap.size w w') : FrAt w' b off n d :=
  ⟨(hb.cell (p := ⟨b, off, none⟩) (cell_lt h.1)).trans h.1, (hb.cell (p := ⟨b, off + 1, none⟩) (cell_lt h.2)).trans h.2⟩
set_option maxHeartbeats 400000 in
theorem allv_any (b off len cap : Nat) (ns ds : Nat → Int) (w : World) (hl : len ≤ 140737488351232)
   (hf : ∀ i, i < len → FrAt w b (off + i * 2) (ns i) (ds i))
   (hw : ∀ i, i < len → In64 (ns i) ∧ In64 (ds i)) :
    Calls Try.prog 78 #[.slice (some ⟨b, off, none⟩) len cap] w fun e w' => e = .returned (.bool (allOk ns ds len)) ∧ Below w.heap.size w w' := by
  have HF := hide hf; clear hf
  have HW := hide hw; clear hw
  go_enter Try.func78, Try.ntmps78
  go_wp2
  go_loopw [7] (fun i wr => ∃ k : Nat, k ≤ len ∧ i = .int .i64 k ∧ Below w.heap.size w wr ∧ Hid (allOk ns ds k = true)) (fun i _ => len - (intOf i).toNat)
  case atStart => exact ⟨0, by omega, rfl, Below.refl _ _, rfl⟩
  case round =>
    obtain ⟨k, hk, rfl, hb, ha⟩ := hrel
    by_cases hlt : k < len
    · obtain ⟨c1, c2⟩ := (HF.out k hlt).below hb
      have hW := hide (HW.out k hlt)
      have HB := hide hb; clear hb
      cases hv : M.okB (ns k) (ds k)
      · have HV := hide hv; clear hv
        go_wp2_with (go_at_call 20; refine (valid_is _ _ false _ hW.out.1 hW.out.2 HV).mono ?_; rintro e w' ⟨rfl, hbw⟩)
        go_ret
        exact ⟨ret_bool (allOk_false hlt HV.out).symm, bt (ba HB.out _) hbw⟩
      · have HV := hide hv; clear hv
        go_wp2_with (go_at_call 20; refine (valid_is _ _ true _ hW.out.1 hW.out.2 HV).mono ?_; rintro e w' ⟨rfl, hbw⟩)
        go_roundw
        case rel => exact ⟨k + 1, by omega, by go_num, bt (ba HB.out _) hbw, hide (by rw [allOk_succ, ha.out, HV.out]; rfl)⟩
        case measure => simp [intOf]; omega
    · go_wp2
      go_ret
      exact ⟨ret_bool (by rw [show len = k by omega]; exact ha.out.symm), hb⟩
end Go.Proofs.Ytpgnbjlpkpmpcaa
