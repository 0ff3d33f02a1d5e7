import Derived.Test.YtpgnbjlpkpmpcaaRows
import Derived.Test.YtpgnbjlpkpmpcaaN
import Derived.WalkKit
import Derived.WalkSpells
import Derived.WalkLawsBesides
import Derived.Handy
import Derived.BigQuiet
import Derived.Laws.BitsAllLaws
import Derived.Deep.QuietTactic
namespace Go.Proofs.Ytpgnbjlpkpmpcaa.R
open Go.RowKit Go.Proofs.Ytpgnbjlpkpmpcaa.N
theorem hide {p : Prop} (h : p) : Hid p := h
/-- the digits l lie at ao -/
def Dg (w : World) (ao : Option Addr) (l : List Nat) : Prop := l = [] ∨ ∃ b off, ao = some ⟨b, off, none⟩ ∧ ∀ i, i < l.length → w.cell? ⟨b, off + i, none⟩ = some (.int .u32 (l.getD i 0 : Nat))
/-- a slice of digits that reads as n, in its shortest form -/
def RN (w : World) (v : Value) (n : Nat) : Prop := ∃ l ao cap, v = .slice ao l.length cap ∧ Canon l ∧ val l = n ∧ Dg w ao l ∧ l.length ≤ cap
/-- the most digits of the numbers that we follow -/
def K : Nat := 1000
def Sm (n : Nat) : Prop := n < B ^ K
theorem sm_len {l : List Nat} (h : Canon l) (hs : Sm (val l)) : l.length ≤ K := by
  rcases Nat.lt_or_ge K l.length with c | c
  · exfalso
    have h1 := can_ge h (by omega)
    have h2 : B ^ K ≤ B ^ (l.length - 1) := Nat.pow_le_pow_right (by decide) (by omega)
    have h3 : val l < B ^ K := hs
    exact absurd h3 (Nat.not_lt.2 (Nat.le_trans h2 h1))
  · exact c
theorem or0 (x : Nat) (hx : (x : Int) < 4294967296) : bits .or .u64 0 (x : Int) = (x : Int) := by
  have := u64_or_nat 0 x (by decide) (by omega); simpa using this
theorem or_join (x y : Nat) (hx : (x : Int) < 4294967296) (hy : (y : Int) < 4294967296) : bits .or .u64 (IntKind.u64.wrap ((y : Int) * 4294967296)) (x : Int) = ((x + 4294967296 * y : Nat) : Int) := by
  rw [show IntKind.u64.wrap ((y : Int) * 4294967296) = ((y * 4294967296 : Nat) : Int) by rw [IntKind.wrap_u64]; omega]
  rw [u64_or_nat _ _ (by omega) (by omega), nat_join 32 _ _ (by omega) (by omega)]; omega
set_option maxHeartbeats 400000 in
theorem short_nil (ao : Option Addr) (cap : Nat) (w : World) :
    Calls Try.prog 116 #[.slice ao 0 cap] w fun e w' => e = .returned (.int .u64 0) ∧ w = w' := by
  go_enter Try.func116, Try.ntmps116
  go_wp2
  go_rounds 1
  go_ret
  exact ⟨rfl, rfl⟩
set_option maxHeartbeats 400000 in
theorem short_one (w : World) (b off cap x : Nat) (hx : (x : Int) < 4294967296) (h : w.cell? ⟨b, off, none⟩ = some (.int .u32 x)) :
    Calls Try.prog 116 #[.slice (some ⟨b, off, none⟩) 1 cap] w fun e w' => e = .returned (.int .u64 x) ∧ w = w' := by
  go_enter Try.func116, Try.ntmps116
  go_wp2
  go_rounds 2
  go_ret
  exact ⟨by simp [or0 x hx], rfl⟩
set_option maxHeartbeats 400000 in
theorem short_two (w : World) (b off cap x y : Nat) (hx : (x : Int) < 4294967296) (hy : (y : Int) < 4294967296) (h : w.cell? ⟨b, off, none⟩ = some (.int .u32 x)) (h2 : w.cell? ⟨b, off + 1, none⟩ = some (.int .u32 y)) :
    Calls Try.prog 116 #[.slice (some ⟨b, off, none⟩) 2 cap] w fun e w' => e = .returned (.int .u64 (x + 4294967296 * y : Nat)) ∧ w = w' := by
  go_enter Try.func116, Try.ntmps116
  go_wp2
  go_rounds 3
  go_ret
  exact ⟨by simp [or0 y hy, or_join x y hx hy], rfl⟩
theorem short_any (v : Value) (n : Nat) (w : World) (h : RN w v n) (hn : n < B * B) :
    Calls Try.prog 116 #[v] w fun e w' => e = .returned (.int .u64 n) ∧ w = w' := by
  obtain ⟨l, ao, cap, rfl, hc, rfl, hd, _⟩ := h
  have hl : l.length ≤ 2 := by
    rcases Nat.lt_or_ge 2 l.length with c | c
    · have h1 := can_ge hc (by omega)
      have h2 : B ^ 2 ≤ B ^ (l.length - 1) := Nat.pow_le_pow_right (by decide) (by omega)
      rw [Nat.pow_two] at h2; omega
    · exact c
  match l, hl with
  | [], _ => exact short_nil ao cap w
  | [x], _ =>
    rcases hd with hd | ⟨b, off, rfl, hd⟩
    · simp at hd
    have hx := hc.1 x (by simp)
    have := hd 0 (by simp)
    have h1 := short_one w b off cap x (by unfold B at hx; omega) (by simpa using this)
    simpa [val] using h1
  | [x, y], _ =>
    rcases hd with hd | ⟨b, off, rfl, hd⟩
    · simp at hd
    have hx := hc.1 x (by simp)
    have hy := hc.1 y (by simp)
    have h1 := hd 0 (by simp)
    have h2 := hd 1 (by simp)
    have h3 := short_two w b off cap x y (by unfold B at hx; omega) (by unfold B at hy; omega) (by simpa using h1) (by simpa using h2)
    have e : val [x, y] = x + 4294967296 * y := by simp [val, B]
    rw [e]; exact h3
/-- numbers read on in later worlds -/
theorem cell_lt {w : World} {a : Addr} {v : Value} (h : w.cell? a = some v) : a.block < w.heap.size := by
  rcases Nat.lt_or_ge a.block w.heap.size with h1 | h1
  · exact h1
  · have e : w.heap[a.block]? = none := by simp [h1]
    simp [World.cell?, e] at h
theorem Dg.below {w w' : World} {ao : Option Addr} {l : List Nat} (h : Dg w ao l) (hb : Below w.heap.size w w') : Dg w' ao l := by
  rcases h with h | ⟨b, off, h1, h2⟩
  · exact .inl h
  · exact .inr ⟨b, off, h1, fun i hi => (hb.cell (cell_lt (h2 i hi))).trans (h2 i hi)⟩
theorem RN.below {w w' : World} {v : Value} {n : Nat} (h : RN w v n) (hb : Below w.heap.size w w') : RN w' v n := by
  obtain ⟨l, ao, cap, h1, h2, h3, h4, h5⟩ := h
  exact ⟨l, ao, cap, h1, h2, h3, h4.below hb, h5⟩
theorem bt {a b c : World} (h : Below a.heap.size a b) (k : Below b.heap.size b c) : Below a.heap.size a c := h.trans (k.mono h.size)
theorem ba {a b : World} (h : Below a.heap.size a b) (o : Obj) : Below a.heap.size a (b.alloc o) := h.alloc h.size o
theorem bs {a b : World} (h : Below a.heap.size a b) {p : Addr} (hp : a.heap.size ≤ p.block) (u : Value) : Below a.heap.size a (b.setCell p u) := h.setCell hp u
/-- digits as cells -/
def u32s (l : List Nat) : List Value := l.map fun x => Value.int .u32 (x : Nat)
theorem u32s_get (l : List Nat) (i : Nat) (h : i < l.length) : (u32s l)[i]? = some (.int .u32 (l.getD i 0 : Nat)) := by
  unfold u32s; rw [List.getElem?_map, List.getD_eq_getElem?_getD, List.getElem?_eq_getElem h]; rfl
theorem dg_of_owns {w : World} {base e n cap : Nat} {ao : Option Addr} {D : List Nat} (h : w.ownsRow base e 1 (.slice ao n cap) D.length (u32s D)) : n = D.length ∧ Dg w ao D ∧ D.length ≤ cap := by
  obtain ⟨_, h | ⟨g, c, cur, hv, _⟩⟩ := h
  · obtain ⟨hv, hn⟩ := h
    simp at hv
    exact ⟨by omega, .inl (List.length_eq_zero_iff.1 hn), by omega⟩
  · simp at hv
    obtain ⟨rfl, rfl, rfl⟩ := hv
    refine ⟨rfl, .inr ⟨g, 0, rfl, fun i hi => ?_⟩, by simp_all⟩
    have h' : w.ownsRow base e 1 (.slice (some ⟨g, 0, none⟩) D.length cap) D.length (u32s D) := ⟨by assumption, .inr ⟨g, cap, cur, rfl, by simp_all⟩⟩
    rw [Nat.zero_add, h'.cellAt i (by omega), u32s_get D i hi]
theorem rn_of_owns {w : World} {base e : Nat} {v : Value} {D : List Nat} {n : Nat} (h : w.ownsRow base e 1 v D.length (u32s D)) (hc : Canon D) (hv : val D = n) : RN w v n := by
  have hex : ∃ ao k cap, v = .slice ao k cap := by
    obtain ⟨_, ⟨h, _⟩ | ⟨g, c, cur, h, _⟩⟩ := h
    · exact ⟨_, _, _, h⟩
    · exact ⟨_, _, _, h⟩
  obtain ⟨ao, k, cap, rfl⟩ := hex
  obtain ⟨rfl, hd, hl⟩ := dg_of_owns h
  exact ⟨D, ao, cap, rfl, hc, hv, hd, hl⟩
/-- a call that hands back a number in new memory -/
def RetN (w : World) (n : Nat) (e : Ending) (w' : World) : Prop := ∃ v, e = .returned v ∧ RN w' v n ∧ Below w.heap.size w w'
theorem Try.info88 : (Try.prog.info? 88).map (fun i => (i.zero, i.size, i.bytes)) = some (some (.int .u32 0), 1, 4) := by kernel_rfl
/-- the relation of natural's loop -/
def NatRel (w : World) (n : Nat) (v u : Value) (wr : World) : Prop := ∃ (D : List Nat) (m : Nat), u = .int .u64 m ∧ (m : Int) < 18446744073709551616 ∧ Hid (n = val D + B ^ D.length * m ∧ Dig D ∧ (m = 0 → Canon D)) ∧ D.length ≤ 2 ∧ (D.length = 1 → (m : Int) < 4294967296) ∧ (D.length = 2 → m = 0) ∧ wr.ownsRow w.heap.size 88 1 v D.length (u32s D) ∧ Below w.heap.size w wr
set_option maxHeartbeats 400000 in
set_option maxRecDepth 20000 in
theorem natural_any (n : Nat) (w : World) (hn : (n : Int) < 18446744073709551616) : Calls Try.prog 112 #[.int .u64 n] w (RetN w n) := by
  obtain ⟨i0, hi, hz0, hz1, hz2⟩ := info_parts Try.info88
  go_enter Try.func112, Try.ntmps112
  go_wp2
  go_loopw [3, 0] (fun v u wr => NatRel w n v u wr) (fun _ u _ => (intOf u).toNat)
  case atStart => exact ⟨[], n, rfl, hn, hide ⟨by simp [val], fun _ h => by simp at h, fun _ => can_nil⟩, by simp, by simp, by simp, World.ownsRow_nil _ _ _ _, Below.refl _ _⟩
  case round =>
    obtain ⟨D, m, rfl, hm, hD, hl, hl1, hl2, hown, hb⟩ := hrel
    by_cases hz : m = 0
    · subst hz
      go_wp2
      go_ret
      refine ⟨_, rfl, rn_of_owns hown (hD.out.2.2 trivial) ?_, hb⟩
      have := hD.out.1; omega
    · obtain ⟨x, hx⟩ : ∃ x, x = m % B := ⟨_, rfl⟩
      have hx1 : IntKind.u32.wrap (m : Int) = (x : Int) := by rw [IntKind.wrap_u32, hx]; unfold B; omega
      have HX := hide hx; clear hx
      have hmz : (0 : Int) < (m : Int) := by omega
      have hsz := hb.size
      have hll : D.length ≤ 1 := by
        rcases Nat.lt_or_ge D.length 2 with c | c
        · omega
        · exact absurd (hl2 (by omega)) hz
      have HM := hide (And.intro (And.intro hl1 hl2) hm)
      clear hl1 hl2 hl hn hm
      go_wp2_with (at_builtin; refine wpList_append_own _ rfl _ _ 41 rfl w.heap.size 88 i0 (.int .u32 0) 1 4 Try.underlying41 hi hz0 hz1 hz2 rfl (by decide) _ _ _ rfl (hown.alloc _) ⟨wr.heap.size, 0, none⟩ 1 1 [.int .u32 x] rfl rfl ?c1 ?c2 ?c3 ?c4 ?c5 ?_)
      case c1 =>
        intro j u hj
        match j, hj with
        | 0, hj => simp at hj; subst hj; simp [Addr.add]
      case c2 => intro u hu; simp at hu; subst hu; rfl
      case c3 => unfold maxLen; omega
      case c4 => omega
      case c5 => simp; omega
      · intro v' w1 hown' hgrow _
        have hb' : Below w.heap.size w w1 := (ba hb (Obj.cells #[.int .u32 x] 88)).grown hgrow (by simp; omega) (fun k hk => (hown.lt k hk).1)
        clear hgrow hown hb
        go_wp2
        go_roundw
        case rel =>
          have e1 := hD.out.1
          have e2 := HX.out
          have e3 := HM.out
          have e5 : x < B := by rw [e2]; exact Nat.mod_lt _ B_pos
          have e6 : m = B * (m / B) + x := by rw [e2]; exact (Nat.div_add_mod m B).symm
          refine ⟨D ++ [x], m / B, by simp [B], by unfold B; omega, hide ⟨?_, hD.out.2.1.snoc e5, ?_⟩, by simp; omega, ?_, ?_, ?_, hb'⟩
          · rw [val_append, List.length_append, e1, List.length_singleton, Nat.pow_succ]
            simp only [val, Nat.mul_zero, Nat.add_zero]
            conv => lhs; rw [e6]
            rw [Nat.mul_add, Nat.mul_assoc]; omega
          · intro c
            refine ⟨hD.out.2.1.snoc e5, fun y hy => ?_⟩
            simp at hy; subst hy; rw [c] at e6; omega
          · intro c; simp at c; unfold B; omega
          · intro c; simp at c; have := e3.1.1 c; unfold B; omega
          · simpa [u32s] using hown'
        case measure => simp [intOf]; omega
end Go.Proofs.Ytpgnbjlpkpmpcaa.R
