/- The reference's morphed. -/
import Derived.Test.YtkajcbjacjfhnaaIq
import Derived.Deep.DeepCutAuto
set_option linter.unusedVariables false
namespace Go.Proofs.Ytkajcbjacjfhnaa
open Go.RowKit Go.Ab
/-- the first number -/
def Fst0 (mn : Bool) (f : Nat → Nat → UInt8) (n l k x y b0 : Nat) : Prop := (mn = true ∧ stick n l k x y ∧ b0 = 48) ∨ (¬ (mn = true ∧ stick n l k x y) ∧ b0 = (f x y).toNat)
def inW (n k x u : Nat) : Prop := u < n ∧ u ≤ x + k ∧ x ≤ u + k
/-- looked at before row r; and in row r before column u -/
def PR (f : Nat → Nat → UInt8) (n l k x y b0 r z : Nat) : Prop := z = b0 ∨ ∃ c r', inW n k x c ∧ inW l k y r' ∧ r' < r ∧ z = (f c r').toNat
def PC (f : Nat → Nat → UInt8) (n l k x y b0 r u z : Nat) : Prop := PR f n l k x y b0 r z ∨ ∃ c, inW n k x c ∧ c < u ∧ z = (f c r).toNat
theorem pr_start (mn : Bool) (f : Nat → Nat → UInt8) (n l k x y b0 : Nat) : Best mn (PR f n l k x y b0 (y - k)) b0 :=
  ⟨.inl rfl, fun z hz => by
    rcases hz with rfl | ⟨c, r', _, hr, hl, _⟩
    · exact le'_refl _ _
    · unfold inW at hr; omega⟩
theorem pc_start {mn : Bool} {f : Nat → Nat → UInt8} {n l k x y b0 r b : Nat} (h : Best mn (PR f n l k x y b0 r) b) : Best mn (PC f n l k x y b0 r (x - k)) b :=
  best_congr h fun z => ⟨fun h => .inl h, fun h => by
    rcases h with h | ⟨c, hc, hl, _⟩
    · exact h
    · unfold inW at hc; omega⟩
theorem pc_step {mn : Bool} {f : Nat → Nat → UInt8} {n l k x y b0 r u b : Nat} (h : Best mn (PC f n l k x y b0 r u) b) (hu : inW n k x u) : Best mn (PC f n l k x y b0 r (u + 1)) (pkN mn b (f u r).toNat) :=
  best_congr (best_more h _) fun z => ⟨fun h => by
    rcases h with (h | ⟨c, hc, hl, e⟩) | e
    · exact .inl h
    · exact .inr ⟨c, hc, by omega, e⟩
    · exact .inr ⟨u, hu, by omega, e⟩, fun h => by
    rcases h with h | ⟨c, hc, hl, e⟩
    · exact .inl (.inl h)
    · by_cases e2 : c = u
      · subst e2; exact .inr e
      · exact .inl (.inr ⟨c, hc, by omega, e⟩)⟩
theorem pc_end {mn : Bool} {f : Nat → Nat → UInt8} {n l k x y b0 r b : Nat} (h : Best mn (PC f n l k x y b0 r (min (n - 1) (x + k) + 1)) b) (hr : inW l k y r) (hn : 1 ≤ n) : Best mn (PR f n l k x y b0 (r + 1)) b :=
  best_congr h fun z => ⟨fun h => by
    rcases h with (h | ⟨c, r', hc, hr', hl, e⟩) | ⟨c, hc, hl, e⟩
    · exact .inl h
    · exact .inr ⟨c, r', hc, hr', by omega, e⟩
    · exact .inr ⟨c, r, hc, hr, by omega, e⟩, fun h => by
    rcases h with h | ⟨c, r', hc, hr', hl, e⟩
    · exact .inl (.inl h)
    · by_cases e2 : r' = r
      · subst e2; exact .inr ⟨c, hc, by unfold inW at hc; omega, e⟩
      · exact .inl (.inr ⟨c, r', hc, hr', by omega, e⟩)⟩
theorem pr_end {mn : Bool} {f : Nat → Nat → UInt8} {n l k x y b0 b : Nat} (h : Best mn (PR f n l k x y b0 (min (l - 1) (y + k) + 1)) b) (h0 : Fst0 mn f n l k x y b0) (hx : x < n) (hy : y < l) : Best mn (RefP mn f n l k x y) b := by
  have hself : WinP f n l k x y (f x y).toNat := ⟨x, y, ⟨hx, by omega, by omega⟩, ⟨hy, by omega, by omega⟩, rfl⟩
  refine best_congr h fun z => ⟨fun h => ?_, fun h => ?_⟩
  · rcases h with rfl | ⟨c, r', hc, hr', hl, e⟩
    · rcases h0 with ⟨h1, h2, h3⟩ | ⟨_, h3⟩
      · exact .inr ⟨h1, h3, h2⟩
      · rw [h3]; exact .inl hself
    · exact .inl ⟨c, r', hc, hr', e⟩
  · rcases h with ⟨c, r', hc, hr', e⟩ | ⟨h1, h2, h3⟩
    · exact .inr ⟨c, r', hc, hr', by have := hr'; omega, e⟩
    · rcases h0 with ⟨_, _, h4⟩ | ⟨h4, _⟩
      · exact .inl (by rw [h2, h4])
      · exact absurd ⟨h1, h3⟩ h4
theorem news1 (w : World) (v : Value) (t : TypeId) : ∀ j u, ([v] : List Value)[j]? = some u → (w.alloc (.cells #[v] t)).cell? ((⟨w.heap.size, 0, none⟩ : Addr).add j) = some u := by
  intro j u hj
  match j, hj with
  | 0, hj => simp at hj; subst hj; simp [Addr.add]
theorem one1 (v : Value) (h : v.oneCell' = true) : ∀ u ∈ ([v] : List Value), u.oneCell' = true := by
  intro u hu; simp at hu; subst hu; exact h
set_option maxRecDepth 20000 in
set_option maxHeartbeats 16000000 in
theorem rmorphed_is (bb off c n l k : Nat) (mn : Bool) (f F : Nat → Nat → UInt8) (w : World) (hz : ZsAt w bb off l (rowS f n)) (hd : Dim (n, l, f)) (hg : Dg (n, l, f)) (hk : k ≤ 48)
    (hF : ∀ x y, x < n → y < l → Best mn (RefP mn f n l k x y) (F x y).toNat) (hgF : Dg (n, l, F)) :
    Calls Try.prog 91 #[.slice (some ⟨bb, off, none⟩) l c, .int .i64 k, .bool mn] w fun e w' => ∃ v, e = .returned v ∧ Sp w' v (n, l, F) ∧ Below w.heap.size w w' := by
  obtain ⟨i3, hi3, hz3, hs3, hb3⟩ := info_parts Try.info3
  have HZ := hide hz
  have HN : Hid ((1 ≤ n ∧ 1 ≤ l) ∧ n ≤ 48 ∧ l ≤ 48 ∧ k ≤ 48) := hide ⟨⟨hd.1.1, hd.2.1⟩, hd.1.2, hd.2.2, hk⟩
  have hsz : (rowS f n 0).size = n := rowS_size f n 0
  have h1n : 0 < l := hd.2.1
  have h1i : (0 : Int) < (l : Int) := by omega
  have hn48 : (n : Int) ≤ 48 := by have := HN.out; omega
  have hl48 : (l : Int) ≤ 48 := by have := HN.out; omega
  have hk48 : (k : Int) ≤ 48 := by have := HN.out; omega
  have hn1 : (1 : Int) ≤ (n : Int) := by have := HN.out; omega
  have c0 := (hz 0 h1n).1
  rw [Nat.add_zero] at c0
  have HD := hide hd
  have HG := hide hg
  have HF := hide hF
  have HGF := hide hgF
  have O0 : Hid (w.ownsRow w.heap.size 3 1 (.slice none 0 0) 0 (i64s (nums (n, l, F)) 0)) := hide ⟨rfl, .inl ⟨rfl, rfl⟩⟩
  clear hz hd hg hF hgF hk
  go_enter Try.func91, Try.ntmps91
  go_wp2_with fail
  go_loopw [9, 23] (fun v i wr => ∃ (v5 : Value) (wq : World) (q : Nat), v5 = v ∧ wq = wr ∧ q ≤ l ∧ i = .int .i64 q ∧ wr.ownsRow w.heap.size 3 1 v (q * n) (i64s (nums (n, l, F)) (q * n)) ∧ Below w.heap.size w wr) (fun _ i _ => l - (intOf i).toNat)
  case atStart => exact ⟨_, _, 0, rfl, rfl, Nat.zero_le _, rfl, by rw [Nat.zero_mul]; exact O0.out, Below.refl _ _⟩
  case round =>
    clear O0 c0
    obtain ⟨v5, wr, q, rfl, rfl, hk, rfl, ho, hbel⟩ := hrel
    have HO := hide ho; clear ho
    have HB := hide hbel; clear hbel
    by_cases hlt : q < l
    · obtain ⟨m0, hm0⟩ : ∃ m0, Hid (m0 = q * n) := ⟨_, rfl⟩
      rw [← hm0.out] at HO
      have HM : Hid (m0 + n ≤ 48 * 48) := hide (by
        rw [hm0.out]
        have h5 := Nat.mul_le_mul (show q + 1 ≤ 48 by have := HN.out; omega) HN.out.2.1
        rw [Nat.add_mul, Nat.one_mul] at h5; exact h5)
      go_wp2_with fail
      go_loopw [9, 27] (fun v i wx => ∃ (v5' : Value) (wq : World) (j : Nat), v5' = v ∧ wq = wx ∧ j ≤ n ∧ i = .int .i64 j ∧ wx.ownsRow w.heap.size 3 1 v (m0 + j) (i64s (nums (n, l, F)) (m0 + j)) ∧ Below w.heap.size w wx) (fun _ i _ => n - (intOf i).toNat)
      case atStart => exact ⟨_, _, 0, rfl, rfl, Nat.zero_le _, rfl, HO.out, HB.out⟩
      case round =>
        clear HO HB
        obtain ⟨v9, wx, j, rfl, rfl, hj, rfl, ho, hbel⟩ := hrel
        have HO := hide ho; clear ho
        have HB := hide hbel; clear hbel
        by_cases hlj : j < n
        · obtain ⟨D, hD⟩ : ∃ D : Int, Hid (D = ((f j q).toNat : Int) - 48) := ⟨_, rfl⟩
          have HGr : Hid (∀ u r (E : Int), u < n → r < l → E = ((f u r).toNat : Int) - 48 → Calls Try.prog 63 #[.slice (some ⟨bb, off, none⟩) l c, .int .i64 u, .int .i64 r] wx fun e w' => e = .returned (.int .i64 E) ∧ wx = w') := hide (fun u r E hu hr e => by
            rw [e]; exact grade_sp _ (n, l, f) u r wx ⟨bb, off, c, rfl, HZ.out.below HB.out⟩ HD.out HG.out hu hr)
          have HC := hide (HGr.out j q D hlj hlt hD.out)
          have hbs : Hid (w.heap.size ≤ wx.heap.size) := hide HB.out.size
          obtain ⟨v0, ev0⟩ : ∃ v0 : Nat, Hid (v0 = q - k) := ⟨_, hide rfl⟩
          obtain ⟨vE, evE⟩ : ∃ vE : Nat, Hid (vE = min (l - 1) (q + k)) := ⟨_, hide rfl⟩
          obtain ⟨u0, eu0⟩ : ∃ v0 : Nat, Hid (v0 = j - k) := ⟨_, hide rfl⟩
          obtain ⟨uE, euE⟩ : ∃ vE : Nat, Hid (vE = min (n - 1) (j + k)) := ⟨_, hide rfl⟩
          have m1 : (if k < q then (q : Int) - (k : Int) else 0) = (v0 : Int) := by have := ev0.out; split <;> omega
          have m2 : (if (q : Int) + (k : Int) < (l : Int) - 1 then (q : Int) + (k : Int) else (l : Int) - 1) = (vE : Int) := by have := evE.out; split <;> omega
          have m3 : (if k < j then (j : Int) - (k : Int) else 0) = (u0 : Int) := by have := eu0.out; split <;> omega
          have m4 : (if (j : Int) + (k : Int) < (n : Int) - 1 then (j : Int) + (k : Int) else (n : Int) - 1) = (uE : Int) := by have := euE.out; split <;> omega
          obtain ⟨b0, HB0, H6⟩ : ∃ b0 : Nat, Hid (Fst0 mn f n l k j q b0) ∧ ((mn = false ∧ D = (b0 : Int) - 48) ∨ (mn = true ∧ (j : Int) < (k : Int) ∧ 0 = (b0 : Int) - 48) ∨ (mn = true ∧ ¬ (j : Int) < (k : Int) ∧ (q : Int) < (k : Int) ∧ 0 = (b0 : Int) - 48) ∨
              (mn = true ∧ ¬ (j : Int) < (k : Int) ∧ ¬ (q : Int) < (k : Int) ∧ (n : Int) ≤ (j : Int) + (k : Int) ∧ 0 = (b0 : Int) - 48) ∨ (mn = true ∧ ¬ (j : Int) < (k : Int) ∧ ¬ (q : Int) < (k : Int) ∧ ¬ (n : Int) ≤ (j : Int) + (k : Int) ∧ (l : Int) ≤ (q : Int) + (k : Int) ∧ 0 = (b0 : Int) - 48) ∨
              (mn = true ∧ ¬ (j : Int) < (k : Int) ∧ ¬ (q : Int) < (k : Int) ∧ ¬ (n : Int) ≤ (j : Int) + (k : Int) ∧ ¬ (l : Int) ≤ (q : Int) + (k : Int) ∧ D = (b0 : Int) - 48)) := by
            by_cases hmn : mn = true ∧ stick n l k j q
            · refine ⟨48, hide (.inl ⟨hmn.1, hmn.2, rfl⟩), ?_⟩
              obtain ⟨h1, h2⟩ := hmn
              unfold stick at h2
              simp only [h1, true_and]
              omega
            · refine ⟨(f j q).toNat, hide (.inr ⟨hmn, rfl⟩), ?_⟩
              have e := hD.out
              cases mn with
              | false => exact .inl ⟨rfl, e⟩
              | true =>
                unfold stick at hmn
                simp only [true_and] at hmn ⊢
                omega
          clear HZ
          obtain ⟨mq, hmq⟩ : ∃ mq : Bool, Hid (mq = mn) := ⟨_, hide rfl⟩
          rw [← hmq.out] at HF HB0
          obtain ⟨sb, H7⟩ : ∃ sb : Bool, Hid ((sb = true ∧ 0 = (b0 : Int) - 48) ∨ (sb = false ∧ D = (b0 : Int) - 48)) ∧ ((mn = false ∧ sb = false) ∨ (mn = true ∧ (j : Int) < (k : Int) ∧ sb = true) ∨ (mn = true ∧ ¬ (j : Int) < (k : Int) ∧ (q : Int) < (k : Int) ∧ sb = true) ∨
              (mn = true ∧ ¬ (j : Int) < (k : Int) ∧ ¬ (q : Int) < (k : Int) ∧ (n : Int) ≤ (j : Int) + (k : Int) ∧ sb = true) ∨ (mn = true ∧ ¬ (j : Int) < (k : Int) ∧ ¬ (q : Int) < (k : Int) ∧ ¬ (n : Int) ≤ (j : Int) + (k : Int) ∧ (l : Int) ≤ (q : Int) + (k : Int) ∧ sb = true) ∨
              (mn = true ∧ ¬ (j : Int) < (k : Int) ∧ ¬ (q : Int) < (k : Int) ∧ ¬ (n : Int) ≤ (j : Int) + (k : Int) ∧ ¬ (l : Int) ≤ (q : Int) + (k : Int) ∧ sb = false)) := by
            rcases H6 with ⟨h, e0⟩ | ⟨h, c1, e0⟩ | ⟨h, c1, c2, e0⟩ | ⟨h, c1, c2, c3, e0⟩ | ⟨h, c1, c2, c3, c4, e0⟩ | ⟨h, c1, c2, c3, c4, e0⟩
            · exact ⟨false, hide (.inr ⟨rfl, e0⟩), .inl ⟨h, rfl⟩⟩
            · exact ⟨true, hide (.inl ⟨rfl, e0⟩), .inr (.inl ⟨h, c1, rfl⟩)⟩
            · exact ⟨true, hide (.inl ⟨rfl, e0⟩), .inr (.inr (.inl ⟨h, c1, c2, rfl⟩))⟩
            · exact ⟨true, hide (.inl ⟨rfl, e0⟩), .inr (.inr (.inr (.inl ⟨h, c1, c2, c3, rfl⟩)))⟩
            · exact ⟨true, hide (.inl ⟨rfl, e0⟩), .inr (.inr (.inr (.inr (.inl ⟨h, c1, c2, c3, c4, rfl⟩))))⟩
            · exact ⟨false, hide (.inr ⟨rfl, e0⟩), .inr (.inr (.inr (.inr (.inr ⟨h, c1, c2, c3, c4, rfl⟩))))⟩
          clear H6
          have H8 := hide H7.2
          have H9 := H7.1
          clear H7
          go_upto_region 10 with (go_at_call 63; refine HC.out.mono ?_; rintro e w' ⟨rfl, rfl⟩)
          go_cut [58] (fun s wc => s = .bool sb ∧ wc = wx)
          case first =>
            rcases H8.out with ⟨h, rfl⟩ | ⟨h, c1, rfl⟩ | ⟨h, c1, c2, rfl⟩ | ⟨h, c1, c2, c3, rfl⟩ | ⟨h, c1, c2, c3, c4, rfl⟩ | ⟨h, c1, c2, c3, c4, rfl⟩
            all_goals
              clear H8
              subst h
              go_wp2_with fail
              go_meet
              first | exact ⟨rfl, rfl⟩ | exact ⟨by congr 1; simp only [Bool.or_eq_false_iff, decide_eq_false_iff_not]; omega, rfl⟩
          case rest =>
            obtain ⟨rfl, hwc⟩ := hcut
            obtain rfl : wx = wc := hwc.symm
            clear H8
            rcases H9.out with ⟨rfl, e0⟩ | ⟨rfl, e0⟩
            all_goals
              have E0 := hide e0
              clear e0 H9
              go_wp2_with fail
              go_loop [12, 13] (fun s i => ∃ (r b : Nat) (Bv : Int), s = .int .i64 Bv ∧ i = .int .i64 r ∧ Hid (Bv = (b : Int) - 48) ∧ Hid (v0 ≤ r ∧ r ≤ vE + 1) ∧ Hid (Best mq (PR f n l k j q b0 r) b)) (fun _ i => (vE + 1 - intOf i).toNat)
              case atStart => exact ⟨v0, b0, _, rfl, rfl, E0, hide ⟨Nat.le_refl _, by have := ev0.out; have := evE.out; omega⟩, hide (by rw [ev0.out]; exact pr_start _ f n l k j q b0)⟩
              case round =>
                obtain ⟨r, b, Bv, rfl, rfl, hBv, hr, hBst⟩ := hrel
                by_cases hrE : r ≤ vE
                · have hrl : Hid (r < l ∧ inW l k q r) := hide (by have := ev0.out; have := evE.out; have := hr.out; unfold inW; omega)
                  have hrEi : (r : Int) ≤ (vE : Int) := by omega
                  have hr0 := hr
                  go_wp2_with fail
                  go_loop [12, 14] (fun s i => ∃ (u b : Nat) (Bv : Int), s = .int .i64 Bv ∧ i = .int .i64 u ∧ Hid (Bv = (b : Int) - 48) ∧ Hid (u0 ≤ u ∧ u ≤ uE + 1) ∧ Hid (Best mq (PC f n l k j q b0 r u) b)) (fun _ i => (uE + 1 - intOf i).toNat)
                  case atStart => exact ⟨u0, b, _, rfl, rfl, hBv, hide ⟨Nat.le_refl _, by have := eu0.out; have := euE.out; omega⟩, hide (by rw [eu0.out]; exact pc_start hBst.out)⟩
                  case round =>
                    clear hBv hBst hr
                    obtain ⟨u, b, Bv, rfl, rfl, hBv, hu, hBst⟩ := hrel
                    by_cases huE : u ≤ uE
                    · have hul : Hid (u < n ∧ inW n k j u) := hide (by have := eu0.out; have := euE.out; have := hu.out; unfold inW; omega)
                      have huEi : (u : Int) ≤ (uE : Int) := by omega
                      obtain ⟨E, hE⟩ : ∃ E : Int, Hid (E = ((f u r).toNat : Int) - 48) := ⟨_, hide rfl⟩
                      have HC2 := hide (HGr.out u r E hul.out.1 hrl.out.1 hE.out)
                      have HSt := hide (pc_step hBst.out hul.out.2)
                      rcases Int.lt_trichotomy E Bv with h | h | h
                      · have hd : decide (E < Bv) = true := by simp; omega
                        have hne : (E != Bv) = true := by simp; omega
                        cases mn
                        all_goals
                          go_wp2_with (go_at_call 63; refine HC2.out.mono ?_; rintro e w' ⟨rfl, rfl⟩)
                          go_round
                          case rel => exact ⟨u + 1, _, _, rfl, by go_num, hide (by have := hBv.out; have := hE.out; have := hmq.out; subst this; unfold pkN; simp; omega), hide (by have := hu.out; omega), HSt⟩
                          case measure => simp [intOf]; omega
                      · subst h
                        have hd : decide (E < E) = false := by simp
                        have hne : (E != E) = false := by simp
                        cases mn
                        all_goals
                          go_wp2_with (go_at_call 63; refine HC2.out.mono ?_; rintro e w' ⟨rfl, rfl⟩)
                          go_round
                          case rel => exact ⟨u + 1, _, _, rfl, by go_num, hide (by have := hBv.out; have := hE.out; have := hmq.out; subst this; unfold pkN; simp; omega), hide (by have := hu.out; omega), HSt⟩
                          case measure => simp [intOf]; omega
                      · have hd : decide (E < Bv) = false := by simp; omega
                        have hne : (E != Bv) = true := by simp; omega
                        cases mn
                        all_goals
                          go_wp2_with (go_at_call 63; refine HC2.out.mono ?_; rintro e w' ⟨rfl, rfl⟩)
                          go_round
                          case rel => exact ⟨u + 1, _, _, rfl, by go_num, hide (by have := hBv.out; have := hE.out; have := hmq.out; subst this; unfold pkN; simp; omega), hide (by have := hu.out; omega), HSt⟩
                          case measure => simp [intOf]; omega
                    · have huEi : ¬ (u : Int) ≤ (uE : Int) := by omega
                      have HEnd := hide (pc_end (r := r) (by
                        have e : u = min (n - 1) (j + k) + 1 := by have := euE.out; have := hu.out; omega
                        have := hBst.out
                        rw [e] at this; exact this) hrl.out.2 HN.out.1.1)
                      go_wp2_with fail
                      go_round
                      case rel => exact ⟨r + 1, b, _, rfl, by go_num, hBv, hide (by have := hr0.out; omega), HEnd⟩
                      case measure => simp [intOf]; omega
                · have hrEi : ¬ (r : Int) ≤ (vE : Int) := by omega
                  have hr0 := hr
                  have HEq : Hid (Bv = nums (n, l, F) (m0 + j)) := hide (by
                    have e : r = min (l - 1) (q + k) + 1 := by have := evE.out; have := hr.out; omega
                    have h1 := hBst.out
                    rw [e] at h1
                    have h2 := best_unique (pr_end h1 HB0.out hlj hlt) (HF.out j q hlj hlt)
                    rw [hBv.out, h2, hm0.out]
                    exact (nums_at (n, l, F) j q hlj).symm)
                  have hmj : m0 + j + 1 ≤ 2304 := by have := HM.out; omega
                  have hA : Hid (m0 + j + 1 ≤ maxLen ∧ (m0 + j + 1) * 8 ≤ 140737488355328 ∧ w.heap.size ≤ (wx.alloc (.cells #[.int .i64 Bv] 3)).heap.size) := hide ⟨by unfold maxLen; omega, by omega, by simp; have := hbs.out; omega⟩
                  go_wp2_with (at_builtin; refine wpList_append_own _ rfl _ _ 23 rfl w.heap.size 3 i3 (.int .i64 0) 1 8 Try.underlying23 hi3 hz3 hs3 hb3 rfl (by decide) _ _ _ rfl (HO.out.alloc _) ⟨wx.heap.size, 0, none⟩ 1 1 [.int .i64 Bv] rfl rfl (news1 _ _ _) (one1 _ rfl) hA.out.1 hA.out.2.1 hA.out.2.2 ?_)
                  intro v' w7 hown' hgrow _
                  have HO2 : Hid (w7.ownsRow w.heap.size 3 1 v' (m0 + (j + 1)) (i64s (nums (n, l, F)) (m0 + (j + 1)))) := hide (by rw [← Nat.add_assoc, i64s_succ, ← HEq.out]; exact hown')
                  have HB2 := hide ((HB.out.alloc hbs.out (.cells #[.int .i64 Bv] 3)).grown hgrow (by simp; have := hbs.out; omega) (fun q hq => (HO.out.lt q hq).1))
                  clear hown' hgrow
                  go_wp2_with fail
                  go_roundw
                  case rel => exact ⟨_, _, j + 1, rfl, rfl, by omega, by go_num, HO2.out, HB2.out⟩
                  case measure => simp [intOf]; omega
        · obtain rfl : j = n := by omega
          go_wp2_with fail
          go_roundw
          case rel => exact ⟨_, _, q + 1, rfl, rfl, by omega, by go_num, by rw [Nat.add_mul, Nat.one_mul, ← hm0.out]; exact HO.out, HB.out⟩
          case measure => simp [intOf]; omega
    · obtain rfl : q = l := by omega
      have hm : 1 ≤ q * n := Nat.mul_pos HN.out.1.2 HN.out.1.1
      obtain ⟨cb, cc, rfl, hps⟩ := ps_of_owns HO.out hm
      have HPS := hide hps; clear hps
      obtain ⟨L, hL⟩ : ∃ L, Hid (L = q * n) := ⟨_, rfl⟩
      rw [← hL.out] at HPS ⊢
      have HDm : Hid (Dim (n, q, F)) := HD
      clear HO
      go_wp2_with fail
      refine (rdrawn_is cb 0 cc L (n, q, F) _ HDm.out HGF.out (by rw [hL.out, Nat.mul_comm]) HPS.out).mono ?_
      rintro e w2 ⟨v2, rfl, hs2, hb2⟩
      have HS2 := hide hs2; clear hs2
      have HB2 := hide (bt HB.out hb2); clear hb2
      go_wp2_with fail
      go_ret
      exact ⟨v2, rfl, HS2.out, HB2.out⟩
end Go.Proofs.Ytkajcbjacjfhnaa
