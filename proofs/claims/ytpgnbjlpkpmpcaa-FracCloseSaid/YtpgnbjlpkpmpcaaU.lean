import Derived.Test.YtpgnbjlpkpmpcaaT
import Derived.Deep.LoopGhost
namespace Go.Proofs.Ytpgnbjlpkpmpcaa.R
open Go.RowKit Go.Proofs.Ytpgnbjlpkpmpcaa.N
theorem len2 {l : List Nat} (hc : Canon l) (hn : val l < B * B) : l.length ≤ 2 := by
  rcases Nat.lt_or_ge 2 l.length with c | c
  · have h1 := can_ge hc (by omega)
    have h2 : B ^ 2 ≤ B ^ (l.length - 1) := Nat.pow_le_pow_right (by decide) (by omega)
    rw [Nat.pow_two] at h2; omega
  · exact c
def Ret2 (w : World) (n m : Nat) (e : Ending) (w' : World) : Prop := ∃ u v, e = .returned (.tuple #[u, v]) ∧ RN w' u n ∧ RN w' v m ∧ Below w.heap.size w w'
theorem short_is (v : Value) (n : Nat) (w : World) (h : RN w v n) (hn : Hid (n < B * B)) : Calls Try.prog 116 #[v] w fun e w' => e = .returned (.int .u64 n) ∧ w = w' := short_any v n w h hn.out
theorem natural_is (n : Nat) (w : World) (hn : Hid (n < B * B)) : Calls Try.prog 112 #[.int .u64 n] w (RetN w n) := natural_any n w (by have := hn.out; unfold B at this; omega)
set_option maxRecDepth 20000 in
set_option maxHeartbeats 1000000 in
theorem divided_short (a b : Nat) (va vb : Value) (w : World) (ha : RN w va a) (hb : RN w vb b) (sa : Hid (a < B * B)) (sb : Hid (b < B * B)) (hb0 : ¬ b = 0) : Calls Try.prog 118 #[va, vb] w (Ret2 w (a / b) (a % b)) := by
  obtain ⟨l, ao, ca, rfl, hl, hva, da⟩ := ha
  obtain ⟨m, bo, cb, rfl, hm, hvb, db⟩ := hb
  have l1 : (l.length : Int) ≤ 2 := by have := len2 hl (by rw [hva]; exact sa.out); omega
  have l2 : (m.length : Int) ≤ 2 := by have := len2 hm (by rw [hvb]; exact sb.out); omega
  have HA : Hid (RN w (.slice ao l.length ca) a) := hide ⟨l, ao, ca, rfl, hl, hva, da⟩
  have HB : Hid (RN w (.slice bo m.length cb) b) := hide ⟨m, bo, cb, rfl, hm, hvb, db⟩
  clear hl hm hva hvb da db
  obtain ⟨q, hq⟩ : ∃ q, Hid (q = a / b) := ⟨_, rfl⟩
  obtain ⟨r, hr⟩ : ∃ q, Hid (q = a % b) := ⟨_, rfl⟩
  have hbi : (1 : Int) ≤ (b : Int) := by omega
  have eq1 : IntKind.u64.wrap ((a : Int) / (b : Int)) = (q : Int) := by
    have h1 := Nat.div_le_self a b
    have h2 := sa.out
    rw [IntKind.wrap_u64, hq.out, ← Int.natCast_ediv]; unfold B at h2; generalize a / b = z at *; omega
  have eq2 : ((a : Int) % (b : Int)) = (r : Int) := by rw [hr.out, Int.natCast_emod]
  have sq : Hid (q < B * B) := hide (by have := Nat.div_le_self a b; have := sa.out; have := hq.out; omega)
  have sr : Hid (r < B * B) := hide (by have := Nat.mod_le a b; have := sa.out; have := hr.out; omega)
  rw [← hq.out, ← hr.out]
  go_enter Try.func118, Try.ntmps118
  go_wp2_with fail
  refine (short_is _ a _ HA.out sa).mono ?_
  rintro e w' ⟨rfl, rfl⟩
  go_wp2_with fail
  refine (short_is _ b _ HB.out sb).mono ?_
  rintro e w' ⟨rfl, rfl⟩
  go_wp2_with fail
  refine (natural_is q _ sq).mono ?_
  rintro e w1 ⟨v1, rfl, hv1, hb1⟩
  have HV1 := hide hv1; clear hv1
  have HB1 := hide hb1; clear hb1
  go_wp2_with fail
  refine (short_is _ a _ (HA.out.below HB1.out) sa).mono ?_
  rintro e w' ⟨rfl, rfl⟩
  go_wp2_with fail
  refine (short_is _ b _ (HB.out.below HB1.out) sb).mono ?_
  rintro e w' ⟨rfl, rfl⟩
  go_wp2_with fail
  refine (natural_is r _ sr).mono ?_
  rintro e w2 ⟨v2, rfl, hv2, hb2⟩
  have HV2 := hide hv2; clear hv2
  have HB2 := hide hb2; clear hb2
  go_wp2_with fail
  go_ret2
  exact ⟨_, _, rfl, HV1.out.below HB2.out, HV2.out, bt HB1.out HB2.out⟩
theorem mod_small {a b : Nat} (h : Hid (a < B * B)) : Hid (a % b < B * B) := hide (by have := Nat.mod_le a b; have := h.out; omega)
/-- the relation of divisor's loop -/
def DivRel (w : World) (a b j : Nat) (x y : Value) (wr : World) : Prop := ∃ i : Nat, RN wr x i ∧ RN wr y j ∧ i < B * B ∧ j < B * B ∧ Nat.gcd i j = Nat.gcd a b ∧ Below w.heap.size w wr
set_option maxRecDepth 20000 in
set_option maxHeartbeats 1000000 in
theorem divisor_short (a b : Nat) (va vb : Value) (w : World) (ha : RN w va a) (hb : RN w vb b) (sa : Hid (a < B * B)) (sb : Hid (b < B * B)) : Calls Try.prog 117 #[va, vb] w (RetN w (Nat.gcd a b)) := by
  have HA := hide ha; clear ha
  have HB := hide hb; clear hb
  go_enter Try.func117, Try.ntmps117
  go_wp2
  go_loopg [0, 1] b (fun j x y wr => DivRel w a b j x y wr)
  case atStart => exact ⟨a, HA.out, HB.out, sa.out, sb.out, rfl, Below.refl _ _⟩
  case round =>
    obtain ⟨i, hx, hy, hi, hj, hg, hbel⟩ := hrel
    obtain ⟨m, bo, cb, rfl, hm, hvm, db⟩ := hy
    by_cases hz : m = []
    · subst hz
      have hgk : gk = 0 := by rw [← hvm]; rfl
      have hx' := hx
      rw [show i = Nat.gcd a b by rw [← hg, hgk, Nat.gcd_zero_right]] at hx'
      have HX := hide hx'
      clear hx hx' hg hvm hgk
      go_wp2
      go_ret
      exact ⟨_, rfl, HX.out, hbel⟩
    · have hmp : (0 : Int) < (m.length : Int) := by have := List.length_pos_iff.2 hz; omega
      have hgk : ¬ gk = 0 := by have := val_pos hm hz; omega
      have hY : Hid (RN wr (.slice bo m.length cb) gk) := hide ⟨m, bo, cb, rfl, hm, hvm, db⟩
      have hX := hide hx
      have HI := hide hi
      have HJ := hide hj
      have HG := hide hg
      have HBel := hide hbel
      have HGK := hide hgk
      clear hx hi hj hg hbel hm hvm db hz hgk
      go_wp2_with fail
      refine (divided_short i gk _ _ _ hX.out hY.out HI HJ HGK.out).mono ?_
      rintro e w1 ⟨u, v, rfl, hu, hv, hb1⟩
      have HU := hide hv; clear hu hv
      have HB1 := hide hb1; clear hb1
      go_wp2_with fail
      go_roundg (i % gk)
      case measure => exact Nat.mod_lt _ (Nat.pos_of_ne_zero HGK.out)
      case rel => exact ⟨gk, hY.out.below HB1.out, HU.out, HJ.out, (mod_small HI).out, by rw [← HG.out, Nat.gcd_comm gk, ← Nat.gcd_rec, Nat.gcd_comm], bt HBel.out HB1.out⟩
end Go.Proofs.Ytpgnbjlpkpmpcaa.R
