import Derived.Test.YtpgnbjlpkpmpcaaP
namespace Go.Proofs.Ytpgnbjlpkpmpcaa.R
open Go.RowKit Go.Proofs.Ytpgnbjlpkpmpcaa.N
theorem ret_int {k : IntKind} {a b : Int} (h : a = b) : Ending.returned (.int k a) = .returned (.int k b) := by rw [h]
/-- digits, with or without zeros at the end -/
def RD (w : World) (v : Value) (l : List Nat) : Prop := ∃ ao cap, v = .slice ao l.length cap ∧ Dig l ∧ Dg w ao l ∧ l.length ≤ cap
def Tail0 (l : List Nat) (k : Nat) : Prop := k ≤ l.length ∧ ∀ i, k ≤ i → i < l.length → l.getD i 0 = 0
theorem canon_take {l : List Nat} {k : Nat} (hd : Dig l) (hk : k ≤ l.length) (h : ∀ j, k = j + 1 → l.getD j 0 ≠ 0) : Canon (l.take k) := by
  refine ⟨hd.take k, fun x hx => ?_⟩
  cases k with
  | zero => simp at hx
  | succ j =>
    rw [take_succ_getD (by omega)] at hx
    simp only [List.getLast?_append, List.getLast?_singleton, Option.some_or, Option.some.injEq] at hx
    rw [← hx]; exact h j rfl
theorem rn_take {w : World} {b off cap k : Nat} {l : List Nat} (hd : Dig l) (hc : ∀ i, i < l.length → w.cell? ⟨b, off + i, none⟩ = some (.int .u32 (l.getD i 0 : Nat))) (ht : Tail0 l k) (h : ∀ j, k = j + 1 → l.getD j 0 ≠ 0) (hcap : l.length ≤ cap) :
    RN w (.slice (some ⟨b, off, none⟩) k cap) (val l) := by
  have hl : (l.take k).length = k := by rw [List.length_take, Nat.min_eq_left ht.1]
  refine ⟨l.take k, some ⟨b, off, none⟩, cap, by rw [hl], canon_take hd ht.1 h, val_trim ht.1 ht.2, .inr ⟨b, off, rfl, fun i hi => ?_⟩, by have := ht.1; omega⟩
  rw [hl] at hi
  rw [hc i (by have := ht.1; omega)]
  congr 3
  rw [List.getD_eq_getElem?_getD, List.getD_eq_getElem?_getD, List.getElem?_take_of_lt hi]
theorem below_drewN {B : Nat} {w w' : World} (h : Below B w w') (n : Nat) : Below B w (w'.drewN n) := ⟨h.os, h.tape, h.output, h.size, h.block⟩
/-- trimmed's answer lies where its argument lies -/
def RetT (w : World) (v0 : Value) (n : Nat) (e : Ending) (w' : World) : Prop := ∃ v, e = .returned v ∧ RN w' v n ∧ Below w.heap.size w w' ∧ ∀ k, v.ownBlock = some k → v0.ownBlock = some k
/-- a number in new memory -/
def RetF (w : World) (n : Nat) (e : Ending) (w' : World) : Prop := ∃ v, e = .returned v ∧ RN w' v n ∧ Below w.heap.size w w' ∧ ∀ k, v.ownBlock = some k → w.heap.size ≤ k
set_option maxHeartbeats 400000 in
theorem trimmed_some (l : List Nat) (b off cap : Nat) (w : World) (hd : Dig l) (hl : l.length ≤ 1000000) (hcap : l.length ≤ cap) (hc : ∀ i, i < l.length → w.cell? ⟨b, off + i, none⟩ = some (.int .u32 (l.getD i 0 : Nat))) :
    Calls Try.prog 119 #[.slice (some ⟨b, off, none⟩) l.length cap] w (RetT w (.slice (some ⟨b, off, none⟩) l.length cap) (val l)) := by
  have HC := hide hc; clear hc
  have HD := hide hd; clear hd
  go_enter Try.func119, Try.ntmps119
  go_wp2
  go_loop [0] (fun v => ∃ k, v = .slice (some ⟨b, off, none⟩) k cap ∧ Hid (Tail0 l k)) (fun v => match v with | .slice _ k _ => k | _ => 0)
  case atStart => exact ⟨l.length, rfl, hide ⟨Nat.le_refl _, fun i h1 h2 => by omega⟩⟩
  case round =>
    obtain ⟨k, rfl, ht⟩ := hrel
    have hk := ht.out.1
    cases k with
    | zero =>
      go_wp2
      go_ret
      exact ⟨_, rfl, rn_take HD.out HC.out ht.out (fun j h => by omega) hcap, Below.refl _ _, fun _ h => h⟩
    | succ j =>
      have c0 := HC.out j (by omega)
      obtain ⟨x, hx⟩ : ∃ x, x = l.getD j 0 := ⟨_, rfl⟩
      rw [← hx] at c0
      have HX := hide hx; clear hx
      by_cases hz : x = 0
      · subst hz
        go_wp2
        go_round
        case rel => exact ⟨j, rfl, hide ⟨by omega, fun i h1 h2 => by
          rcases Nat.eq_or_lt_of_le h1 with c | c
          · subst c; exact HX.out.symm
          · exact ht.out.2 i c h2⟩⟩
        case measure => simp
      · have hz' : ((x : Int) == 0) = false := by rw [beq_eq_false_iff_ne]; omega
        go_wp2
        go_ret
        exact ⟨_, rfl, rn_take HD.out HC.out ht.out (fun i h => by obtain rfl : j = i := by omega
                                                                   rw [← HX.out]; exact hz) hcap, Below.refl _ _, fun _ h => h⟩
set_option maxHeartbeats 400000 in
theorem trimmed_nil (ao : Option Addr) (cap : Nat) (w : World) : Calls Try.prog 119 #[.slice ao 0 cap] w (RetT w (.slice ao 0 cap) 0) := by
  go_enter Try.func119, Try.ntmps119
  go_wp2
  go_rounds 1
  go_ret
  exact ⟨_, rfl, ⟨[], ao, cap, rfl, can_nil, rfl, .inl rfl, by simp⟩, Below.refl _ _, fun _ h => h⟩
theorem trimmed_any (l : List Nat) (v : Value) (w : World) (h : RD w v l) (hl : l.length ≤ 1000000) : Calls Try.prog 119 #[v] w (RetT w v (val l)) := by
  obtain ⟨ao, cap, rfl, hd, h, hcap⟩ := h
  rcases h with rfl | ⟨b, off, rfl, hc⟩
  · exact trimmed_nil ao cap w
  · exact trimmed_some l b off cap w hd hl hcap hc
theorem RN.rd {w : World} {v : Value} {n : Nat} (h : RN w v n) : ∃ l, RD w v l ∧ Canon l ∧ val l = n := by
  obtain ⟨l, ao, cap, h1, h2, h3, h4, h5⟩ := h
  exact ⟨l, ⟨ao, cap, h1, h2.1, h4, h5⟩, h2, h3⟩
theorem rd_of_owns {w : World} {base e : Nat} {v : Value} {D : List Nat} (h : w.ownsRow base e 1 v D.length (u32s D)) (hc : Dig D) : RD w v D := by
  have hex : ∃ ao k cap, v = .slice ao k cap := by
    obtain ⟨_, ⟨h, _⟩ | ⟨g, c, cur, h, _⟩⟩ := h
    · exact ⟨_, _, _, h⟩
    · exact ⟨_, _, _, h⟩
  obtain ⟨ao, k, cap, rfl⟩ := hex
  obtain ⟨rfl, hd, hl⟩ := dg_of_owns h
  exact ⟨ao, cap, rfl, hc, hd, hl⟩

set_option maxHeartbeats 400000 in
theorem compare_len (a c : Option Addr) (la ca lb cb : Nat) (w : World) (h : la ≠ lb) (s : Int) (hs : Hid (s = if la < lb then -1 else 1)) :
    Calls Try.prog 95 #[.slice a la ca, .slice c lb cb] w fun e w' => e = .returned (.int .i64 s) ∧ ∃ m, w' = w.drewN m := by
  have h' : ((la : Int) != (lb : Int)) = true := by simp; omega
  by_cases hlt : la < lb
  · obtain rfl : s = -1 := by rw [hs.out, if_pos hlt]
    have h2 : (la : Int) < (lb : Int) := by omega
    clear hs hlt h
    go_enter Try.func95, Try.ntmps95
    go_wp2
    go_ret
    exact ⟨rfl, 0, rfl⟩
  · obtain rfl : s = 1 := by rw [hs.out, if_neg hlt]
    have h2 : (lb : Int) < (la : Int) := by omega
    clear hs hlt h
    go_enter Try.func95, Try.ntmps95
    go_wp2
    go_ret
    exact ⟨rfl, 0, rfl⟩
set_option maxHeartbeats 400000 in
theorem compare_nil (a c : Option Addr) (ca cb : Nat) (w : World) :
    Calls Try.prog 95 #[.slice a 0 ca, .slice c 0 cb] w fun e w' => e = .returned (.int .i64 0) ∧ ∃ m, w' = w.drewN m := by
  go_enter Try.func95, Try.ntmps95
  go_wp2
  go_rounds 1
  go_ret
  exact ⟨rfl, 0, rfl⟩
set_option maxHeartbeats 400000 in
theorem compare_same (l m : List Nat) (b off ca c off' cb : Nat) (w : World) (hl : l.length ≤ 1000000) (e : l.length = m.length) (hdl : Dig l) (hdm : Dig m)
    (hc : ∀ i, i < l.length → w.cell? ⟨b, off + i, none⟩ = some (.int .u32 (l.getD i 0 : Nat))) (hc' : ∀ i, i < m.length → w.cell? ⟨c, off' + i, none⟩ = some (.int .u32 (m.getD i 0 : Nat)))
    (s : Int) (hs : Hid (s = Int.sign ((val l : Int) - val m))) :
    Calls Try.prog 95 #[.slice (some ⟨b, off, none⟩) l.length ca, .slice (some ⟨c, off', none⟩) m.length cb] w fun e w' => e = .returned (.int .i64 s) ∧ ∃ m, w' = w.drewN m := by
  have HC := hide hc; clear hc
  have HC' := hide hc'; clear hc'
  have HD := hide (And.intro hdl hdm); clear hdl hdm
  rw [← e]
  have HE := hide e; clear e
  go_enter Try.func95, Try.ntmps95
  go_wp2
  go_loopw [5] (fun i wr => ∃ k : Nat, k ≤ l.length ∧ i = .int .i64 ((k : Int) - 1) ∧ Hid (l.drop k = m.drop k) ∧ ∃ n, wr = w.drewN n) (fun i _ => (intOf i + 1).toNat)
  case atStart => exact ⟨l.length, Nat.le_refl _, by go_num, hide (by rw [List.drop_length, HE.out, List.drop_length]), 0, rfl⟩
  case round =>
    obtain ⟨k, hk, rfl, hd, n, rfl⟩ := hrel
    cases k with
    | zero =>
      go_wp2
      go_ret
      have h0 := hd.out
      simp at h0
      exact ⟨by rw [hs.out, h0]; simp, n, rfl⟩
    | succ j =>
      obtain ⟨x, hx⟩ : ∃ x, x = l.getD j 0 := ⟨_, rfl⟩
      obtain ⟨y, hy⟩ : ∃ y, y = m.getD j 0 := ⟨_, rfl⟩
      have c0 := HC.out j (by omega)
      have c1 := HC'.out j (by rw [← HE.out]; omega)
      rw [← hx] at c0
      rw [← hy] at c1
      have HX := hide hx; clear hx
      have HY := hide hy; clear hy
      have hj : (j : Int) < (l.length : Int) := by omega
      have hj0 : (0 : Int) ≤ (j : Int) := by omega
      rw [show (((j + 1 : Nat) : Int) - 1) = (j : Int) by omega]
      by_cases hne : x = y
      · subst hne
        go_wp2
        go_quiet (fail)
        go_wp2
        go_roundw
        case rel => exact ⟨j, by omega, by go_num, hide (by rw [drop_getD (l := l) (by omega), drop_getD (l := m) (by rw [← HE.out]; omega), hd.out, ← HX.out, ← HY.out]), _, rfl⟩
        case measure => simp [intOf]
      · have hne' : ((x : Int) != (y : Int)) = true := by simp; omega
        by_cases hlt : (x : Int) < (y : Int)
        · have HF : Hid (s = -1) := by
            rw [hs.out]
            have := top_lt HD.out.1 HD.out.2 HE.out (show j < l.length by omega) hd.out (by rw [← HX.out, ← HY.out]; omega)
            exact hide (Int.sign_eq_neg_one_of_neg (by omega))
          go_wp2
          go_quiet (fail)
          go_wp2
          go_quiet (fail)
          go_wp2
          go_ret
          exact ⟨ret_int HF.out.symm, by simp only [World.drewN_drewN]; exact ⟨_, rfl⟩⟩
        · have HF : Hid (s = 1) := by
            rw [hs.out]
            have := top_lt HD.out.2 HD.out.1 HE.out.symm (show j < m.length by rw [← HE.out]; omega) hd.out.symm (by rw [← HX.out, ← HY.out]; omega)
            exact hide (Int.sign_eq_one_of_pos (by omega))
          have hlt' : decide ((x : Int) < (y : Int)) = false := by simpa using hlt
          go_wp2
          go_quiet (fail)
          go_wp2
          go_quiet (fail)
          go_wp2
          go_ret
          exact ⟨ret_int HF.out.symm, by simp only [World.drewN_drewN]; exact ⟨_, rfl⟩⟩
theorem compare_any (a b : Nat) (va vb : Value) (w : World) (ha : RN w va a) (hb : RN w vb b) (sa : Sm a) (s : Int) (hs : Hid (s = Int.sign ((a : Int) - b))) :
    Calls Try.prog 95 #[va, vb] w fun e w' => e = .returned (.int .i64 s) ∧ ∃ m, w' = w.drewN m := by
  obtain ⟨l, ao, ca, rfl, hl, rfl, da, _⟩ := ha
  obtain ⟨m, bo, cb, rfl, hm, rfl, db, _⟩ := hb
  have hl1 := sm_len hl sa
  by_cases e : l.length = m.length
  · rcases da with rfl | ⟨b, off, rfl, da⟩
    · obtain rfl : m = [] := List.length_eq_zero_iff.1 (by simpa using e.symm)
      obtain rfl : s = 0 := by rw [hs.out]; simp
      exact compare_nil ao bo ca cb w
    · rcases db with rfl | ⟨c, off', rfl, db⟩
      · obtain rfl : l = [] := List.length_eq_zero_iff.1 (by simpa using e)
        obtain rfl : s = 0 := by rw [hs.out]; simp
        exact compare_nil _ bo ca cb w
      · exact compare_same l m b off ca c off' cb w (by unfold K at hl1; omega) e hl.1 hm.1 da db s hs
  · refine compare_len ao bo _ ca _ cb w e s (hide ?_)
    rw [hs.out]
    rcases Nat.lt_or_gt_of_ne e with c | c
    · have := len_lt hl.1 hm c; rw [if_pos c, Int.sign_eq_neg_one_of_neg (by omega)]
    · have := len_lt hm.1 hl c; rw [if_neg (by omega), Int.sign_eq_one_of_pos (by omega)]
end Go.Proofs.Ytpgnbjlpkpmpcaa.R
