import Derived.Test.YtpgnbjlpkpmpcaaE
import Derived.Test.YtpgnbjlpkpmpcaaShelf
import Derived.Deep.RegionHeld3
namespace Go.Proofs.Ytpgnbjlpkpmpcaa
open Go.RowKit
theorem sign_pos {x y : Int} (h : y < x) : Int.sign (x - y) = 1 := Int.sign_eq_one_of_pos (by omega)
theorem sign_neg {x y : Int} (h : x < y) : Int.sign (x - y) = -1 := Int.sign_eq_neg_one_of_neg (by omega)
set_option maxHeartbeats 400000 in
theorem cmpi_any (x y s : Int) (w : World) (hs : Hid (s = Int.sign (x - y))) :
    Calls Try.prog 113 #[.int .i64 x, .int .i64 y] w fun e w' => e = .returned (.int .i64 s) ∧ w = w' := by
  rcases Int.lt_trichotomy x y with h | h | h
  · have HS := hide (sign_neg h)
    go_enter Try.func113, Try.ntmps113
    go_wp2_with go_in
    go_ret
    exact ⟨ret_int (by rw [hs.out, HS.out]), rfl⟩
  · subst h
    go_enter Try.func113, Try.ntmps113
    go_wp2_with go_in
    go_ret
    exact ⟨ret_int (by rw [hs.out]; simp), rfl⟩
  · have HS := hide (sign_pos h)
    go_enter Try.func113, Try.ntmps113
    go_wp2_with go_in
    go_ret
    exact ⟨ret_int (by rw [hs.out, HS.out]), rfl⟩
set_option maxHeartbeats 400000 in
theorem cmpu_any (x y : Nat) (s : Int) (w : World) (hs : Hid (s = Int.sign ((x : Int) - y))) :
    Calls Try.prog 126 #[.int .u64 x, .int .u64 y] w fun e w' => e = .returned (.int .i64 s) ∧ w = w' := by
  rcases Int.lt_trichotomy (x : Int) y with h | h | h
  · have HS := hide (sign_neg h)
    go_enter Try.func126, Try.ntmps126
    go_wp2_with go_in
    go_ret
    exact ⟨ret_int (by rw [hs.out, HS.out]), rfl⟩
  · obtain rfl : x = y := by omega
    clear h
    go_enter Try.func126, Try.ntmps126
    go_wp2_with go_in
    go_ret
    exact ⟨ret_int (by rw [hs.out]; simp), rfl⟩
  · have HS := hide (sign_pos h)
    go_enter Try.func126, Try.ntmps126
    go_wp2_with go_in
    go_ret
    exact ⟨ret_int (by rw [hs.out, HS.out]), rfl⟩
set_option maxHeartbeats 400000 in
theorem or2_any (x y s : Int) (b : Nat) (w : World) (h1 : w.cell? ⟨b, 0, none⟩ = some (.int .i64 x)) (h2 : w.cell? ⟨b, 1, none⟩ = some (.int .i64 y)) (hs : Hid (s = if x = 0 then y else x)) :
    Calls Try.prog 125 #[.slice (some ⟨b, 0, none⟩) 2 2] w fun e w' => e = .returned (.int .i64 s) ∧ Below w.heap.size w w' := by
  by_cases hx : x = 0
  · by_cases hy : y = 0
    · obtain rfl : s = 0 := by rw [hs.out, if_pos hx, hy]
      subst hx
      subst hy
      go_enter Try.func125, Try.ntmps125
      go_wp2_with go_in
      go_rounds 3
      all_goals go_ret
      all_goals exact ⟨rfl, by repeat (first | exact Below.refl _ _ | refine ba ?_ _)⟩
    · obtain rfl : s = y := by rw [hs.out, if_pos hx]
      subst hx
      have hb : (s == 0) = false := by simpa using hy
      go_enter Try.func125, Try.ntmps125
      go_wp2_with go_in
      go_rounds 3
      all_goals go_ret
      all_goals exact ⟨rfl, by repeat (first | exact Below.refl _ _ | refine ba ?_ _)⟩
  · obtain rfl : s = x := by rw [hs.out, if_neg hx]
    have hb : (s == 0) = false := by simpa using hx
    go_enter Try.func125, Try.ntmps125
    go_wp2_with go_in
    go_rounds 3
    all_goals go_ret
    all_goals exact ⟨rfl, by repeat (first | exact Below.refl _ _ | refine ba ?_ _)⟩
/-- two to the 64th -/
def B64 : Nat := 18446744073709551616
theorem mul_b (x y h l : Nat) (w : World) (hx : Hid (x < B64)) (hy : Hid (y < B64)) (hh : Hid (h = x * y / B64)) (hl : Hid (l = x * y % B64)) :
    Calls Try.prog 124 #[.int .u64 x, .int .u64 y] w fun e w' => e = .returned (.tuple #[.int .u64 h, .int .u64 l]) ∧ w = w' := by
  have := Try.bits_Mul x y hx.out hy.out w
  rw [hh.out, hl.out]
  exact this.mono fun _ _ ⟨a, b⟩ => ⟨a, b.symm⟩
theorem prod_sign {a b c d h1 l1 h2 l2 : Nat} (e1 : h1 = a * b / B64) (e2 : l1 = a * b % B64) (e3 : h2 = c * d / B64) (e4 : l2 = c * d % B64) :
    (if Int.sign ((h1 : Int) - h2) = 0 then Int.sign ((l1 : Int) - l2) else Int.sign ((h1 : Int) - h2)) = Int.sign (((a * b : Nat) : Int) - ((c * d : Nat) : Int)) := by
  generalize a * b = p at *
  generalize c * d = q at *
  have f1 : p = B64 * h1 + l1 := by rw [e1, e2]; exact (Nat.div_add_mod p B64).symm
  have f2 : q = B64 * h2 + l2 := by rw [e3, e4]; exact (Nat.div_add_mod q B64).symm
  have g1 : l1 < B64 := by rw [e2]; exact Nat.mod_lt _ (by decide)
  have g2 : l2 < B64 := by rw [e4]; exact Nat.mod_lt _ (by decide)
  clear e1 e2 e3 e4
  unfold B64 at *
  rcases Nat.lt_trichotomy h1 h2 with h | h | h
  · rw [sign_neg (show (h1 : Int) < h2 by omega), if_neg (by decide), sign_neg]; omega
  · subst h
    simp only [Int.sub_self, Int.sign_zero, if_true]
    rw [f1, f2]; congr 1; omega
  · rw [sign_pos (show (h2 : Int) < h1 by omega), if_neg (by decide), sign_pos]; omega
set_option maxHeartbeats 400000 in
theorem cmpp_any (a b c d : Nat) (w : World) (ha : Hid (a < B64)) (hb : Hid (b < B64)) (hc : Hid (c < B64)) (hd : Hid (d < B64)) (s : Int) (hs : Hid (s = Int.sign (((a * b : Nat) : Int) - ((c * d : Nat) : Int)))) :
    Calls Try.prog 114 #[.int .u64 a, .int .u64 b, .int .u64 c, .int .u64 d] w fun e w' => e = .returned (.int .i64 s) ∧ Below w.heap.size w w' := by
  obtain ⟨h1, e1⟩ : ∃ h1, Hid (h1 = a * b / B64) := ⟨_, rfl⟩
  obtain ⟨l1, e2⟩ : ∃ h1, Hid (h1 = a * b % B64) := ⟨_, rfl⟩
  obtain ⟨h2, e3⟩ : ∃ h1, Hid (h1 = c * d / B64) := ⟨_, rfl⟩
  obtain ⟨l2, e4⟩ : ∃ h1, Hid (h1 = c * d % B64) := ⟨_, rfl⟩
  obtain ⟨s1, g1⟩ : ∃ s1, Hid (s1 = Int.sign ((h1 : Int) - h2)) := ⟨_, rfl⟩
  obtain ⟨s2, g2⟩ : ∃ s1, Hid (s1 = Int.sign ((l1 : Int) - l2)) := ⟨_, rfl⟩
  have g3 : Hid (s = if s1 = 0 then s2 else s1) := by rw [hs.out, g1.out, g2.out]; exact (prod_sign e1.out e2.out e3.out e4.out).symm
  go_enter Try.func114, Try.ntmps114
  go_wp2_with fail
  refine (mul_b a b h1 l1 _ ha hb e1 e2).mono ?_
  rintro e w' ⟨rfl, rfl⟩
  go_wp2_with fail
  refine (mul_b c d h2 l2 _ hc hd e3 e4).mono ?_
  rintro e w' ⟨rfl, rfl⟩
  go_wp2_with fail
  refine (cmpu_any h1 h2 s1 _ g1).mono ?_
  rintro e w' ⟨rfl, rfl⟩
  go_wp2_with fail
  refine (cmpu_any l1 l2 s2 _ g2).mono ?_
  rintro e w' ⟨rfl, rfl⟩
  go_wp2_with fail
  refine (or2_any s1 s2 s _ _ (by simp [go_sem]) (by simp [go_sem]) g3).mono ?_
  rintro e w' ⟨rfl, hb⟩
  go_wp2_with fail
  go_ret
  exact ⟨rfl, bt (ba (Below.refl _ _) _) hb⟩
/-- the two boxes of a method of two ratios -/
theorem sign_cross {n d m q : Int} (hd : 0 < d) (hq : 0 < q) : (if Int.sign n = Int.sign m then Int.sign n * Int.sign (((n.natAbs * q.natAbs : Nat) : Int) - ((m.natAbs * d.natAbs : Nat) : Int)) else Int.sign (Int.sign n - Int.sign m)) = Int.sign (n * q - m * d) := by
  have hq' : ((q.natAbs : Nat) : Int) = q := by omega
  have hd' : ((d.natAbs : Nat) : Int) = d := by omega
  have key : ∀ z : Int, 0 < z → Int.sign z = 1 := fun z h => Int.sign_eq_one_of_pos h
  have keyn : ∀ z : Int, z < 0 → Int.sign z = -1 := fun z h => Int.sign_eq_neg_one_of_neg h
  have pq : ∀ z : Int, 0 < z → 0 < z * q := fun z h => Int.mul_pos h hq
  have pd : ∀ z : Int, 0 < z → 0 < z * d := fun z h => Int.mul_pos h hd
  have nq : ∀ z : Int, z < 0 → z * q < 0 := fun z h => Int.mul_neg_of_neg_of_pos h hq
  have nd : ∀ z : Int, z < 0 → z * d < 0 := fun z h => Int.mul_neg_of_neg_of_pos h hd
  rw [Int.natCast_mul, Int.natCast_mul, hq', hd']
  rcases Int.lt_trichotomy n 0 with hn | hn | hn <;> rcases Int.lt_trichotomy m 0 with hm | hm | hm
  · rw [keyn n hn, keyn m hm, if_pos rfl, show ((n.natAbs : Nat) : Int) = -n by omega, show ((m.natAbs : Nat) : Int) = -m by omega, ← Int.sign_neg_one, ← Int.sign_mul]
    congr 1; have := Int.neg_mul n q; have := Int.neg_mul m d; have := Int.neg_one_mul (-n * q - -m * d); omega
  · subst hm; simp [keyn n hn, key q hq]
  · rw [keyn n hn, key m hm, if_neg (by decide), keyn (n * q - m * d) (by have := nq n hn; have := pd m hm; omega)]; rfl
  · subst hn; simp [keyn m hm, key d hd]
  · subst hn; subst hm; simp
  · subst hn; simp [key m hm, key d hd]
  · rw [key n hn, keyn m hm, if_neg (by decide), key (n * q - m * d) (by have := pq n hn; have := nd m hm; omega)]; rfl
  · subst hm; simp [key n hn, key q hq]
  · rw [key n hn, key m hm, if_pos rfl, show ((n.natAbs : Nat) : Int) = n by omega, show ((m.natAbs : Nat) : Int) = m by omega]; simp
theorem natAbs_b64 {n : Int} (h : In64 n) : Hid (n.natAbs < B64) := hide (by unfold In64 at h; unfold B64; omega)
theorem kb {a b c : World} (h : Hid (Below a.heap.size a b)) (k : Below b.heap.size b c) : Hid (Below a.heap.size a c) := hide (bt h.out k)
theorem kbd {a b : World} (h : Hid (Below a.heap.size a b)) : Hid (Below a.heap.size a b.drew) := hide h.out.drew
set_option maxHeartbeats 1000000 in
theorem compare_any (n d m q : Int) (w : World) (hn : In64 n) (hd : In64 d) (hm : In64 m) (hq : In64 q) (hd0 : 0 < d) (hq0 : 0 < q) (s : Int) (hs : Hid (s = Int.sign (n * q - m * d))) :
    Calls Try.prog 80 #[.agg #[.int .i64 n, .int .i64 d], .agg #[.int .i64 m, .int .i64 q]] w fun e w' => e = .returned (.int .i64 s) ∧ Below w.heap.size w w' := by
  have HX := hide (sign_cross (n := n) (m := m) hd0 hq0)
  have G : Hid ((In64 n ∧ In64 d) ∧ (In64 m ∧ In64 q)) := hide ⟨⟨hn, hd⟩, ⟨hm, hq⟩⟩
  clear hn hd hm hq hd0 hq0
  obtain ⟨s1, g1⟩ : ∃ s1, Hid (s1 = Int.sign n) := ⟨_, rfl⟩
  obtain ⟨s2, g2⟩ : ∃ s1, Hid (s1 = Int.sign m) := ⟨_, rfl⟩
  obtain ⟨s3, g3⟩ : ∃ s1, Hid (s1 = Int.sign (((n.natAbs * q.natAbs : Nat) : Int) - ((m.natAbs * d.natAbs : Nat) : Int))) := ⟨_, rfl⟩
  have g1' : Hid (s1 = Int.sign (n - 0)) := by rw [Int.sub_zero]; exact g1
  have g2' : Hid (s2 = Int.sign (m - 0)) := by rw [Int.sub_zero]; exact g2
  have hK : Hid (Below w.heap.size w ((w.alloc (Obj.cells #[Value.int IntKind.i64 n, Value.int IntKind.i64 d] 78)).alloc (Obj.cells #[Value.int IntKind.i64 m, Value.int IntKind.i64 q] 78))) := hide (ba (ba (Below.refl _ _) _) _)
  have b1 : -1 ≤ s1 ∧ s1 ≤ 1 := by rw [g1.out]; rcases Int.lt_trichotomy n 0 with h | h | h <;> simp [Int.sign_eq_neg_one_of_neg, Int.sign_eq_one_of_pos, h]
  have b3 : -1 ≤ s3 ∧ s3 ≤ 1 := by rw [g3.out]; generalize (((n.natAbs * q.natAbs : Nat) : Int) - ((m.natAbs * d.natAbs : Nat) : Int)) = z; rcases Int.lt_trichotomy z 0 with h | h | h <;> simp [Int.sign_eq_neg_one_of_neg, Int.sign_eq_one_of_pos, h]
  by_cases he : s1 = s2
  · have b4 : -1 ≤ s1 * s3 ∧ s1 * s3 ≤ 1 := by
      rcases (show s1 = -1 ∨ s1 = 0 ∨ s1 = 1 by omega) with h | h | h <;> rw [h] <;> omega
    obtain ⟨b5, b6⟩ := b4
    have HF : Hid (s1 * s3 = s) := by rw [hs.out, ← HX.out, if_pos (by rw [← g1.out, ← g2.out, he]), ← g1.out, ← g3.out]; exact rfl
    subst he
    clear HX hs b1 b3
    go_enter Try.func80, Try.ntmps80
    go_wp2_with fail
    go_quiet ((first | (go_at_call_of 113 n; exact qs (cmpi_any n 0 s1 _ g1')) | (go_at_call_of 113 m; exact qs (cmpi_any m 0 s1 _ g2'))))
    go_wp2_with fail
    have c1 : (((w.alloc (Obj.cells #[Value.int IntKind.i64 n, Value.int IntKind.i64 d] 78)).alloc (Obj.cells #[Value.int IntKind.i64 m, Value.int IntKind.i64 q] 78)).drewN nq).cell? ⟨w.heap.size, 0, none⟩ = some (.int .i64 n) := by simp [go_sem]
    have c2 : (((w.alloc (Obj.cells #[Value.int IntKind.i64 n, Value.int IntKind.i64 d] 78)).alloc (Obj.cells #[Value.int IntKind.i64 m, Value.int IntKind.i64 q] 78)).drewN nq).cell? ⟨w.heap.size, 1, none⟩ = some (.int .i64 d) := by simp [go_sem]
    have c3 : (((w.alloc (Obj.cells #[Value.int IntKind.i64 n, Value.int IntKind.i64 d] 78)).alloc (Obj.cells #[Value.int IntKind.i64 m, Value.int IntKind.i64 q] 78)).drewN nq).cell? ⟨w.heap.size + 1, 0, none⟩ = some (.int .i64 m) := by simp [go_sem]
    have c4 : (((w.alloc (Obj.cells #[Value.int IntKind.i64 n, Value.int IntKind.i64 d] 78)).alloc (Obj.cells #[Value.int IntKind.i64 m, Value.int IntKind.i64 q] 78)).drewN nq).cell? ⟨w.heap.size + 1, 1, none⟩ = some (.int .i64 q) := by simp [go_sem]
    have hK2 := hide (below_drewN hK.out nq)
    generalize ((w.alloc (Obj.cells #[Value.int IntKind.i64 n, Value.int IntKind.i64 d] 78)).alloc (Obj.cells #[Value.int IntKind.i64 m, Value.int IntKind.i64 q] 78)).drewN nq = w2 at *
    clear hK
    go_region_held3 (fun w' => w'.cell? ⟨w.heap.size, 0, none⟩ = some (.int .i64 n) ∧ w'.cell? ⟨w.heap.size, 1, none⟩ = some (.int .i64 d) ∧ w'.cell? ⟨w.heap.size + 1, 0, none⟩ = some (.int .i64 m) ∧ w'.cell? ⟨w.heap.size + 1, 1, none⟩ = some (.int .i64 q) ∧ Hid (Below w.heap.size w w'))
      ((go_split_ands; (first | dsimp only | skip); refine ⟨?_, ?_, ?_, ?_, ?_⟩ <;> first | assumption | (simp only [World.cell?_drew]; assumption) | exact kc hbw ‹_› | exact kbd ‹_› | exact kb ‹_› hbw))
      (first | (go_at_call_of 74 n; refine (size_any n _ G.out.1.1.1 G.out.1.1.2).mono ?_; rintro e w' ⟨rfl, rfl⟩) | (go_at_call_of 74 d; refine (size_any d _ G.out.1.2.1 G.out.1.2.2).mono ?_; rintro e w' ⟨rfl, rfl⟩) | (go_at_call_of 74 m; refine (size_any m _ G.out.2.1.1 G.out.2.1.2).mono ?_; rintro e w' ⟨rfl, rfl⟩) | (go_at_call_of 74 q; refine (size_any q _ G.out.2.2.1 G.out.2.2.2).mono ?_; rintro e w' ⟨rfl, rfl⟩) | (go_at_call 114; refine (cmpp_any _ _ _ _ _ (natAbs_b64 G.out.1.1) (natAbs_b64 G.out.2.2) (natAbs_b64 G.out.2.1) (natAbs_b64 G.out.1.2) s3 g3).mono ?_; rintro e w' ⟨rfl, hbw⟩))
    go_wp2_with fail
    go_ret
    exact ⟨ret_int (by rw [← HF.out]; first | rfl | (rw [IntKind.wrap_i64]; omega)), bt hK2.out.drew hbw⟩
  · have HF : Hid (s = Int.sign (s1 - s2)) := by rw [hs.out, ← HX.out, if_neg (by rw [← g1.out, ← g2.out]; exact he), ← g1.out, ← g2.out]; exact rfl
    clear HX hs b1 b3 g3
    have he' : (s1 != s2) = true := by simpa using he
    go_enter Try.func80, Try.ntmps80
    go_wp2_with fail
    go_quiet ((first | (go_at_call_of 113 n; exact qs (cmpi_any n 0 s1 _ g1')) | (go_at_call_of 113 m; exact qs (cmpi_any m 0 s2 _ g2'))))
    go_wp2_with fail
    refine (cmpi_any s1 s2 s _ HF).mono ?_
    rintro e w' ⟨rfl, rfl⟩
    go_wp2_with fail
    go_ret
    exact ⟨rfl, below_drewN hK.out _⟩
end Go.Proofs.Ytpgnbjlpkpmpcaa
