/- The shapes; the visit of greatest. -/
import Derived.Test.YtkajcbjacjfhnaaJa
set_option linter.unusedVariables false
namespace Go.Proofs.Ytkajcbjacjfhnaa
open Go.RowKit Go.Ab
def rkV (r : Rk) : Array Value := #[.int .i64 r.x, .int .i64 r.y, .int .i64 r.w, .int .i64 r.h]
def Shape (gs : Nat) (sq : Bool) : Prop := (∀ args w, (callFunc gs args).run Try.prog w = .ok (.enter gs args) w) ∧ ∀ W (r : Rk), Calls Try.prog gs #[.agg (rkV r)] W fun e w' => e = .returned (.agg (rkV (shp sq r))) ∧ Below W.heap.size W w'
theorem shape_id : Shape 99 false := ⟨fun args w => enters_of Try.func99 (by kernel_rfl) rfl args w, fun W r => by
  obtain ⟨x, y, b, h⟩ := r
  show Calls Try.prog 99 #[.agg #[.int .i64 x, .int .i64 y, .int .i64 b, .int .i64 h]] W fun e w' => e = .returned (.agg #[.int .i64 x, .int .i64 y, .int .i64 b, .int .i64 h]) ∧ Below W.heap.size W w'
  go_enter Try.func99, Try.ntmps99
  go_wp2
  refine bodyPost_ret (v := .agg #[.int .i64 x, .int .i64 y, .int .i64 b, .int .i64 h]) (by simp [results, Try.results99, go_sem]) rfl ⟨rfl, ?_⟩
  exact ((Below.refl _ _).alloc (Nat.le_refl _) _).alloc (by simp) _⟩
theorem shape_sq : Shape 102 true := ⟨fun args w => enters_of Try.func102 (by kernel_rfl) rfl args w, fun W r => by
  obtain ⟨x, y, b, h⟩ := r
  obtain ⟨m, hm⟩ : ∃ m : Nat, Hid (m = min b h) := ⟨_, hide rfl⟩
  have m1 : (if h < b then (h : Int) else (b : Int)) = (m : Int) := by have := hm.out; split <;> omega
  have HM : Hid (rkV (shp true ⟨x, y, b, h⟩) = #[.int .i64 x, .int .i64 y, .int .i64 m, .int .i64 m]) := hide (by rw [hm.out]; rfl)
  rw [HM.out]
  show Calls Try.prog 102 #[.agg #[.int .i64 x, .int .i64 y, .int .i64 b, .int .i64 h]] W fun e w' => e = .returned (.agg #[.int .i64 x, .int .i64 y, .int .i64 m, .int .i64 m]) ∧ Below W.heap.size W w'
  go_enter Try.func102, Try.ntmps102
  go_wp2
  refine bodyPost_ret (v := .agg #[.int .i64 x, .int .i64 y, .int .i64 m, .int .i64 m]) (by simp [results, Try.results102, go_sem]) rfl ⟨rfl, ?_⟩
  exact ((Below.refl _ _).alloc (Nat.le_refl _) _).alloc (by simp) _⟩
set_option maxRecDepth 20000 in
set_option maxHeartbeats 4000000 in
theorem greatest1_is (gs b5 q : Nat) (sq : Bool) (b r : Rk) (w : World) (hs : Shape gs sq) (hc : w.cell? ⟨b5, 0, none⟩ = some (.func (.func gs) #[] #[])) (hq : Blk w q (rkV b) 39) (hb : b.w ≤ 48 ∧ b.h ≤ 48) (hr : r.w ≤ 48 ∧ r.h ≤ 48) :
    Calls Try.prog 131 #[.agg (rkV r), .pointer (some ⟨b5, 0, none⟩), .pointer (some ⟨q, 0, none⟩)] w fun e w' => e = .returned (.tuple #[]) ∧ Blk w' q (rkV (if b.w * b.h < (shp sq r).w * (shp sq r).h then shp sq r else b)) 39 ∧ w.grownBy w' (some q) := by
  have hb0 : Below w.heap.size w (w.alloc (.cells (rkV r) 39)) := (Below.refl _ _).alloc (Nat.le_refl _) _
  have HB0 := hide hb0
  have c1 := kc hb0 hc
  have Q0 := hide (hq.below hb0)
  have HS := hide (hs.2 (w.alloc (.cells (rkV r) 39)) r)
  have heg := hs.1
  obtain ⟨s, es⟩ : ∃ s : Rk, Hid (s = shp sq r) := ⟨_, hide rfl⟩
  rw [← es.out] at HS ⊢
  have hsb : s.w ≤ 48 ∧ s.h ≤ 48 := by rw [es.out]; cases sq <;> simp [shp] <;> omega
  obtain ⟨A, eA⟩ : ∃ A : Nat, Hid (A = s.w * s.h) := ⟨_, hide rfl⟩
  obtain ⟨P, eP⟩ : ∃ P : Nat, Hid (P = b.w * b.h) := ⟨_, hide rfl⟩
  have bA : A ≤ 48 * 48 := by rw [eA.out]; exact Nat.mul_le_mul hsb.1 hsb.2
  have bP : P ≤ 48 * 48 := by rw [eP.out]; exact Nat.mul_le_mul hb.1 hb.2
  have iA : (s.w : Int) * (s.h : Int) = (A : Int) := by rw [eA.out, Int.natCast_mul]
  have iP : (b.w : Int) * (b.h : Int) = (P : Int) := by rw [eP.out, Int.natCast_mul]
  have bA1 : (A : Int) ≤ 2304 := by omega
  have bP1 : (P : Int) ≤ 2304 := by omega
  have HI := hide (And.intro iA iP)
  clear hc hq hb0 hs hb hr hsb
  obtain ⟨rx, ry, rw', rh⟩ := r
  unfold rkV at HS c1 HB0 Q0
  show Calls Try.prog 131 #[.agg #[.int .i64 rx, .int .i64 ry, .int .i64 rw', .int .i64 rh], .pointer (some ⟨b5, 0, none⟩), .pointer (some ⟨q, 0, none⟩)] w _
  go_enter Try.func131, Try.ntmps131
  go_wp2_with fail
  refine HS.out.mono ?_
  rintro e w1 ⟨rfl, hb⟩
  have hb1 : Below w1.heap.size w1 (w1.alloc (.cells (rkV s) 39)) := (Below.refl _ _).alloc (Nat.le_refl _) _
  have HB1 := hide (bt (bt HB0.out hb) hb1)
  have Q1 := hide ((Q0.out.below hb).below hb1)
  have S1 := hide (Blk.new w1 (rkV s) 39)
  have k0 := Q1.out.cell 0 (v := .int .i64 b.x) rfl
  have k1 := Q1.out.cell 1 (v := .int .i64 b.y) rfl
  have k2 := Q1.out.cell 2 (v := .int .i64 b.w) rfl
  have k3 := Q1.out.cell 3 (v := .int .i64 b.h) rfl
  have f0 := Q1.out.free 0
  have f1 := Q1.out.free 1
  have f2 := Q1.out.free 2
  have f3 := Q1.out.free 3
  clear hb hb1 HS HB0 Q0 c1
  unfold rkV at HB1 Q1 S1 k0 k1 k2 k3 f0 f1 f2 f3
  by_cases hlt : P < A
  · have ht : b.w * b.h < s.w * s.h := by rw [← eA.out, ← eP.out]; exact hlt
    go_wp2_with fail
    go_end0
    refine ⟨rfl, ?_, ?_⟩
    · exact Q1.out.set4 _ _ _ _
    · exact gb_trans (gb_below HB1.out) (gb_set4 _ _ _ _ _ _)
  · have ht : ¬ b.w * b.h < s.w * s.h := by rw [← eA.out, ← eP.out]; exact hlt
    go_wp2_with fail
    go_end0
    exact ⟨rfl, Q1.out, gb_below HB1.out⟩
end Go.Proofs.Ytkajcbjacjfhnaa
