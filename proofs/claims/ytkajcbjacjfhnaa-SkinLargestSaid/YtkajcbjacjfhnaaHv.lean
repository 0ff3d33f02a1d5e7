/- Usable cells, and the least rectangle round them: plain mathematics. each: the cells of a rectangle are visited in order, whatever the visit does. usableAt and its closure. grown. Whole blocks; Trim's closure. -/
import Derived.Test.YtkajcbjacjfhnaaHu
import Derived.OneCell
namespace Go.Proofs.Ytkajcbjacjfhnaa
/-- is cell (x, y) usable at g? -/
def usB (f : Nat → Nat → UInt8) (g x y : Nat) : Bool := decide (48 + g ≤ (f x y).toNat)
/-- the usable ones of the first k cells, row by row -/
def usL (f : Nat → Nat → UInt8) (n g k : Nat) : List (Nat × Nat) := ((List.range k).map fun i => (i % n, i / n)).filter fun c => usB f g c.1 c.2
theorem usL_zero (f : Nat → Nat → UInt8) (n g : Nat) : usL f n g 0 = [] := rfl
theorem usL_succ (f : Nat → Nat → UInt8) (n g x y : Nat) (h : x < n) : usL f n g (y * n + x + 1) = usL f n g (y * n + x) ++ if usB f g x y then [(x, y)] else [] := by
  have e1 : (y * n + x) % n = x := by rw [Nat.mul_comm, Nat.mul_add_mod, Nat.mod_eq_of_lt h]
  have e2 : (y * n + x) / n = y := by rw [Nat.mul_comm, Nat.mul_add_div (by omega), Nat.div_eq_of_lt h, Nat.add_zero]
  unfold usL
  rw [List.range_succ, List.map_append, List.filter_append]
  simp only [List.map_cons, List.map_nil, List.filter_cons, List.filter_nil, e1, e2]
theorem usL_yes {f : Nat → Nat → UInt8} {n g x y : Nat} (h : x < n) (hu : usB f g x y = true) : usL f n g (y * n + x + 1) = usL f n g (y * n + x) ++ [(x, y)] := by rw [usL_succ f n g x y h, hu]; rfl
theorem usL_no {f : Nat → Nat → UInt8} {n g x y : Nat} (h : x < n) (hu : usB f g x y = false) : usL f n g (y * n + x + 1) = usL f n g (y * n + x) := by rw [usL_succ f n g x y h, hu]; simp
theorem usL_le (f : Nat → Nat → UInt8) (n g k : Nat) : (usL f n g k).length ≤ k := by
  unfold usL; exact Nat.le_trans (List.length_filter_le _ _) (by simp)
theorem usL_in {f : Nat → Nat → UInt8} {n g k l : Nat} (hn : 0 < n) (hk : k ≤ l * n) : ∀ c ∈ usL f n g k, c.1 < n ∧ c.2 < l := by
  intro c hc
  unfold usL at hc
  rw [List.mem_filter, List.mem_map] at hc
  obtain ⟨⟨i, hi, rfl⟩, _⟩ := hc
  rw [List.mem_range] at hi
  exact ⟨Nat.mod_lt _ hn, Nat.div_lt_of_lt_mul (by rw [Nat.mul_comm]; omega)⟩
/-- a box: first and last column, first and last row -/
structure Bx where
  x0 : Nat
  y0 : Nat
  x1 : Nat
  y1 : Nat
def Bx.more (b : Bx) (c : Nat × Nat) : Bx := ⟨min b.x0 c.1, min b.y0 c.2, max b.x1 c.1, max b.y1 c.2⟩
def boxL : List (Nat × Nat) → Bx
  | [] => ⟨0, 0, 0, 0⟩
  | c :: t => t.foldl Bx.more ⟨c.1, c.2, c.1, c.2⟩
theorem boxL_one (c : Nat × Nat) : boxL [c] = ⟨c.1, c.2, c.1, c.2⟩ := rfl
theorem boxL_more {l : List (Nat × Nat)} (h : l ≠ []) (c : Nat × Nat) : boxL (l ++ [c]) = (boxL l).more c := by
  cases l with
  | nil => exact absurd rfl h
  | cons a t => simp [boxL, List.foldl_append]
theorem foldl_lt {N L : Nat} (t : List (Nat × Nat)) : ∀ b : Bx, (b.x0 ≤ b.x1 ∧ b.y0 ≤ b.y1 ∧ b.x1 < N ∧ b.y1 < L) → (∀ c ∈ t, c.1 < N ∧ c.2 < L) → ((t.foldl Bx.more b).x0 ≤ (t.foldl Bx.more b).x1 ∧ (t.foldl Bx.more b).y0 ≤ (t.foldl Bx.more b).y1 ∧ (t.foldl Bx.more b).x1 < N ∧ (t.foldl Bx.more b).y1 < L) := by
  induction t with
  | nil => intro b h _; exact h
  | cons c t ih =>
    intro b h hc
    refine ih (b.more c) ?_ (fun d hd => hc d (List.mem_cons_of_mem _ hd))
    have := hc c List.mem_cons_self
    show min b.x0 c.1 ≤ max b.x1 c.1 ∧ min b.y0 c.2 ≤ max b.y1 c.2 ∧ max b.x1 c.1 < N ∧ max b.y1 c.2 < L
    omega
theorem boxL_lt {N L : Nat} {l : List (Nat × Nat)} (h : l ≠ []) (hc : ∀ c ∈ l, c.1 < N ∧ c.2 < L) : (boxL l).x0 ≤ (boxL l).x1 ∧ (boxL l).y0 ≤ (boxL l).y1 ∧ (boxL l).x1 < N ∧ (boxL l).y1 < L := by
  cases l with
  | nil => exact absurd rfl h
  | cons a t =>
    refine foldl_lt t _ ?_ (fun d hd => hc d (List.mem_cons_of_mem _ hd))
    have := hc a List.mem_cons_self
    exact ⟨Nat.le_refl _, Nat.le_refl _, this.1, this.2⟩
end Go.Proofs.Ytkajcbjacjfhnaa
set_option linter.unusedVariables false
namespace Go.Proofs.Ytkajcbjacjfhnaa
open Go.RowKit Go.Ab
/-- what lies from block B on is as it was -/
structure Over (B : Nat) (w w' : World) : Prop where
  size : w.heap.size ≤ w'.heap.size
  block : ∀ k, B ≤ k → k < w.heap.size → w'.heap[k]? = w.heap[k]?
theorem Over.of_below {B : Nat} {w w' : World} (h : Below w.heap.size w w') : Over B w w' := ⟨h.size, fun k _ hk => h.block k hk⟩
theorem Over.trans {B : Nat} {a b c : World} (h : Over B a b) (k : Over B b c) : Over B a c := ⟨Nat.le_trans h.size k.size, fun i hi hk => (k.block i hi (Nat.lt_of_lt_of_le hk h.size)).trans (h.block i hi hk)⟩
theorem Over.cell {B : Nat} {w w' : World} (h : Over B w w') {p : Addr} (hp : B ≤ p.block) {v : Value} (hc : w.cell? p = some v) : w'.cell? p = some v :=
  (World.cell?_of_block (w := w) (h.block p.block hp (World.block_lt_of_cell? _ _ hc))).trans hc
theorem r4_over {w W W' : World} {x y b h : Int} (H : R4 w W x y b h) (ho : Over w.heap.size W W') : R4 w W' x y b h :=
  ⟨⟨ho.cell (Nat.le_refl _) H.1.1, ho.cell (Nat.le_refl _) H.1.2⟩, ho.cell (Nat.le_refl _) H.2.1, ho.cell (Nat.le_refl _) H.2.2⟩
set_option maxRecDepth 20000 in
set_option maxHeartbeats 2000000 in
theorem each_any (g : Nat) (caps : Array Value) (X Y : Int) (B H : Nat) (Inv : Nat → World → Prop) (w : World) (hX : -100 ≤ X ∧ X ≤ 100) (hY : -100 ≤ Y ∧ Y ≤ 100) (hB : B ≤ 100) (hH : H ≤ 100)
    (eg : ∀ args w, (callFunc g args).run Try.prog w = .ok (.enter g args) w)
    (h0 : Hid (Inv 0 w)) (hst : Hid (∀ k W W', Inv k W → Below W.heap.size W W' → Inv k W'))
    (hc : Hid (∀ W x y, w.heap.size ≤ W.heap.size → x < B → y < H → Inv (y * B + x) W → Calls Try.prog g (#[.agg #[.int .i64 (X + (x : Int)), .int .i64 (Y + (y : Int))]] ++ caps) W fun e w' => e = .returned (.tuple #[]) ∧ Inv (y * B + x + 1) w' ∧ Over w.heap.size W w')) :
    Calls Try.prog 83 #[.agg #[.int .i64 X, .int .i64 Y, .int .i64 B, .int .i64 H], .func (.func g) #[] caps] w fun e w' => e = .returned (.tuple #[]) ∧ Inv (H * B) w' := by
  have hb0 : Below w.heap.size w (w.alloc (.cells #[.int .i64 X, .int .i64 Y, .int .i64 B, .int .i64 H] 39)) := (Below.refl _ _).alloc (Nat.le_refl _) _
  have R0 := hide (rx_new w X Y B H)
  have I0 := hide (hst.out 0 _ _ h0.out hb0)
  have S0 : Hid (w.heap.size < (w.alloc (.cells #[.int .i64 X, .int .i64 Y, .int .i64 B, .int .i64 H] 39)).heap.size) := hide (by simp)
  clear hb0 h0 hst
  obtain ⟨hX1, hX2⟩ := hX
  obtain ⟨hY1, hY2⟩ := hY
  have hBi : (B : Int) ≤ 100 := by omega
  have hHi : (H : Int) ≤ 100 := by omega
  clear hB hH
  obtain ⟨⟨q1, q2⟩, q3, q4⟩ := R0.out
  go_enter Try.func83, Try.ntmps83
  go_wp2_with fail
  go_loopw [4, 5] (fun i _ wr => ∃ (wq : World) (k : Nat), wq = wr ∧ k ≤ H ∧ i = .int .i64 (Y + (k : Int)) ∧ Inv (k * B) wr ∧ R4 w wr X Y B H ∧ w.heap.size < wr.heap.size) (fun i _ _ => (Y + H - intOf i).toNat)
  case atStart => exact ⟨_, 0, rfl, Nat.zero_le _, by simp, by rw [Nat.zero_mul]; exact I0.out, R0.out, S0.out⟩
  case round =>
    clear I0 R0 S0 q1 q2 q3 q4
    obtain ⟨wr, k, rfl, hk, rfl, hi, hr, hs⟩ := hrel
    have HR := hide hr
    obtain ⟨⟨q1, q2⟩, q3, q4⟩ := hr
    have HI := hide hi; clear hi
    have HS := hide hs; clear hs
    by_cases hlt : k < H
    · have t1 : Y + (k : Int) < Y + (H : Int) := by omega
      obtain ⟨m0, hm0⟩ : ∃ m0, Hid (m0 = k * B) := ⟨_, rfl⟩
      rw [← hm0.out] at HI
      go_wp2_with fail
      go_loopw [5] (fun i wx => ∃ (wq : World) (j : Nat), wq = wx ∧ j ≤ B ∧ i = .int .i64 (X + (j : Int)) ∧ Inv (m0 + j) wx ∧ R4 w wx X Y B H ∧ w.heap.size < wx.heap.size) (fun i _ => (X + B - intOf i).toNat)
      case atStart => exact ⟨_, 0, rfl, Nat.zero_le _, by simp, HI.out, HR.out, HS.out⟩
      case round =>
        clear HI HR HS q1 q2 q3 q4
        obtain ⟨wx, j, rfl, hj, rfl, hi, hr, hs⟩ := hrel
        have HR := hide hr
        obtain ⟨⟨q1, q2⟩, q3, q4⟩ := hr
        have HI := hide hi; clear hi
        have HS := hide hs; clear hs
        by_cases hlj : j < B
        · have t2 : X + (j : Int) < X + (B : Int) := by omega
          have HC := hide (hc.out wx j k (Nat.le_of_lt HS.out) hlj hlt (by rw [← hm0.out]; exact HI.out))
          clear hc
          go_wp2_with fail
          refine HC.out.mono ?_
          rintro e w4 ⟨rfl, hi, ho⟩
          have HI4 : Hid (Inv (m0 + (j + 1)) w4) := hide (by rw [hm0.out, ← Nat.add_assoc]; exact hi)
          have HR4 := hide (r4_over HR.out ho)
          have HS4 : Hid (w.heap.size < w4.heap.size) := hide (Nat.lt_of_lt_of_le HS.out ho.size)
          clear hi ho HI HR HS HC q1 q2 q3 q4
          go_wp2_with fail
          go_roundw
          case rel => exact ⟨_, j + 1, rfl, by omega, by congr 1; omega, HI4.out, HR4.out, HS4.out⟩
          case measure => simp [intOf]; omega
        · obtain rfl : j = B := by omega
          clear hc
          go_wp2_with fail
          go_roundw
          case rel => exact ⟨_, k + 1, rfl, by omega, by congr 1; omega, by rw [Nat.add_mul, Nat.one_mul, ← hm0.out]; exact HI.out, HR.out, HS.out⟩
          case measure => simp [intOf]; omega
    · obtain rfl : k = H := by omega
      clear hc
      go_wp2_with fail
      go_end0
      exact ⟨rfl, HI.out⟩
end Go.Proofs.Ytkajcbjacjfhnaa
set_option linter.unusedVariables false
namespace Go.Proofs.Ytkajcbjacjfhnaa
open Go.RowKit Go.Ab
/-- what the closure of usableAt has captured: the rectangle of all cells, the skin, the least byte -/
def Us (W : World) (b1 b2 b3 bb off l c n g : Nat) (f : Nat → Nat → UInt8) : Prop :=
  ((W.cell? ⟨b1, 0, none⟩ = some (.int .i64 0) ∧ W.cell? ⟨b1, 1, none⟩ = some (.int .i64 0)) ∧ (W.cell? ⟨b1, 2, none⟩ = some (.int .i64 n) ∧ W.cell? ⟨b1, 3, none⟩ = some (.int .i64 l))) ∧
  (W.cell? ⟨b2, 0, none⟩ = some (.slice (some ⟨bb, off, none⟩) l c) ∧ W.cell? ⟨b3, 0, none⟩ = some (.int .u8 (48 + (g : Int)))) ∧ ZsAt W bb off l (rowS f n)
theorem us_step {W W' : World} {b1 b2 b3 bb off l c n g : Nat} {f : Nat → Nat → UInt8} (H : Us W b1 b2 b3 bb off l c n g f) (hb : Below W.heap.size W W') : Us W' b1 b2 b3 bb off l c n g f :=
  ⟨⟨⟨kc hb H.1.1.1, kc hb H.1.1.2⟩, kc hb H.1.2.1, kc hb H.1.2.2⟩, ⟨kc hb H.2.1.1, kc hb H.2.1.2⟩, H.2.2.below hb⟩
theorem has_in (n l x y : Nat) (w : World) (hn : n ≤ 48) (hl : l ≤ 48) (hx : x < n) (hy : y < l) :
    Calls Try.prog 81 #[.agg #[.int .i64 0, .int .i64 0, .int .i64 n, .int .i64 l], .agg #[.int .i64 x, .int .i64 y]] w fun e w' => e = .returned (.bool true) ∧ Below w.heap.size w w' := by
  refine (has_any 0 0 n l x y w).mono fun e w' ⟨h, hb⟩ => ⟨?_, hb⟩
  rw [h, IntWalk.wrap64_in _ (by omega), IntWalk.wrap64_in _ (by omega)]
  congr 2
  simp; omega
theorem has_out (n l : Nat) (x y : Int) (w : World) (hn : n ≤ 48) (hl : l ≤ 48) (h : ¬ (0 ≤ x ∧ x < n ∧ 0 ≤ y ∧ y < l)) :
    Calls Try.prog 81 #[.agg #[.int .i64 0, .int .i64 0, .int .i64 n, .int .i64 l], .agg #[.int .i64 x, .int .i64 y]] w fun e w' => e = .returned (.bool false) ∧ Below w.heap.size w w' := by
  refine (has_any 0 0 n l x y w).mono fun e w' ⟨h1, hb⟩ => ⟨?_, hb⟩
  rw [h1, IntWalk.wrap64_in _ (by omega), IntWalk.wrap64_in _ (by omega)]
  congr 2
  cases e : (decide (0 ≤ x) && decide (x < 0 + (n : Int)) && decide (0 ≤ y) && decide (y < 0 + (l : Int))) with
  | false => rfl
  | true =>
    simp only [Bool.and_eq_true, decide_eq_true_eq] at e
    exact absurd ⟨e.1.1.1, by omega, e.1.2, by omega⟩ h
/-- the bundle of a call of the closure: the captured, and its own cell -/
def Uc (w W : World) (b1 b2 b3 bb off l c n g : Nat) (f : Nat → Nat → UInt8) (x y : Int) : Prop :=
  Us W b1 b2 b3 bb off l c n g f ∧ (W.cell? ⟨w.heap.size, 0, none⟩ = some (.int .i64 x) ∧ W.cell? ⟨w.heap.size, 1, none⟩ = some (.int .i64 y)) ∧ Below w.heap.size w W
theorem uc_step {w W W' : World} {b1 b2 b3 bb off l c n g : Nat} {f : Nat → Nat → UInt8} {x y : Int} (H : Hid (Uc w W b1 b2 b3 bb off l c n g f x y)) (hb : Below W.heap.size W W') : Hid (Uc w W' b1 b2 b3 bb off l c n g f x y) :=
  hide ⟨us_step H.out.1 hb, ⟨kc hb H.out.2.1.1, kc hb H.out.2.1.2⟩, bt H.out.2.2 hb⟩
theorem uc_get {w W : World} {b1 b2 b3 bb off l c n g : Nat} {f : Nat → Nat → UInt8} {x y : Nat} (H : Hid (Uc w W b1 b2 b3 bb off l c n g f x y)) (h1 : y < l) :
    ((W.cell? ⟨b1, 0, none⟩ = some (.int .i64 0) ∧ W.cell? ⟨b1, 1, none⟩ = some (.int .i64 0)) ∧ (W.cell? ⟨b1, 2, none⟩ = some (.int .i64 n) ∧ W.cell? ⟨b1, 3, none⟩ = some (.int .i64 l))) ∧
    (W.cell? ⟨b2, 0, none⟩ = some (.slice (some ⟨bb, off, none⟩) l c) ∧ W.cell? ⟨b3, 0, none⟩ = some (.int .u8 (48 + (g : Int)))) ∧ (W.cell? ⟨w.heap.size, 0, none⟩ = some (.int .i64 x) ∧ W.cell? ⟨w.heap.size, 1, none⟩ = some (.int .i64 y)) ∧
    W.cell? ⟨bb, off + y, none⟩ = some (.string (rowS f n y)) ∧ Hid (Uc w W b1 b2 b3 bb off l c n g f x y) :=
  ⟨H.out.1.1, H.out.1.2.1, H.out.2.1, (H.out.1.2.2 y h1).1, H⟩
theorem uc_getx {w W : World} {b1 b2 b3 bb off l c n g : Nat} {f : Nat → Nat → UInt8} {x y : Int} (H : Hid (Uc w W b1 b2 b3 bb off l c n g f x y)) :
    ((W.cell? ⟨b1, 0, none⟩ = some (.int .i64 0) ∧ W.cell? ⟨b1, 1, none⟩ = some (.int .i64 0)) ∧ (W.cell? ⟨b1, 2, none⟩ = some (.int .i64 n) ∧ W.cell? ⟨b1, 3, none⟩ = some (.int .i64 l))) ∧
    (W.cell? ⟨w.heap.size, 0, none⟩ = some (.int .i64 x) ∧ W.cell? ⟨w.heap.size, 1, none⟩ = some (.int .i64 y)) ∧ Hid (Uc w W b1 b2 b3 bb off l c n g f x y) :=
  ⟨H.out.1.1, H.out.2.1, H⟩
theorem uc_new {w : World} {b1 b2 b3 bb off l c n g : Nat} {f : Nat → Nat → UInt8} (x y : Int) (H : Us w b1 b2 b3 bb off l c n g f) : Hid (Uc w (w.alloc (.cells #[.int .i64 x, .int .i64 y] 87)) b1 b2 b3 bb off l c n g f x y) :=
  have hb : Below w.heap.size w (w.alloc (.cells #[.int .i64 x, .int .i64 y] 87)) := (Below.refl _ _).alloc (Nat.le_refl _) _
  hide ⟨us_step H hb, ⟨by simp [go_sem], by simp [go_sem]⟩, hb⟩
set_option maxRecDepth 20000 in
set_option maxHeartbeats 2000000 in
theorem us_in (b1 b2 b3 bb off l c n g x y : Nat) (f : Nat → Nat → UInt8) (w : World) (hu : Us w b1 b2 b3 bb off l c n g f) (hn : n ≤ 48) (hl : l ≤ 48) (hx : x < n) (hy : y < l) :
    Calls Try.prog 123 #[.agg #[.int .i64 x, .int .i64 y], .pointer (some ⟨b1, 0, none⟩), .pointer (some ⟨b2, 0, none⟩), .pointer (some ⟨b3, 0, none⟩)] w fun e w' => e = .returned (.bool (usB f g x y)) ∧ Below w.heap.size w w' := by
  have HU := uc_new x y hu
  have HN := hide (And.intro (And.intro hn hl) (And.intro hx hy))
  have hyi : (y : Int) < (l : Int) := by omega
  have hlt : x < (rowS f n y).size := by rw [rowS_size]; exact hx
  have HE : Hid (decide ((48 + (g : Int)) ≤ ((rowS f n y)[x].toNat : Int)) = usB f g x y) := hide (by
    rw [get_in hlt, get_row f n _ y hx]; unfold usB
    rw [decide_eq_decide]; omega)
  obtain ⟨sz, hsz⟩ : ∃ sz, Hid (sz = (rowS f n y).size) := ⟨_, rfl⟩
  clear hu hn hl
  go_enter Try.func123, Try.ntmps123
  go_wp2_with fail
  have HUd : Hid (Uc w (w.alloc (.cells #[.int .i64 x, .int .i64 y] 87)).drew b1 b2 b3 bb off l c n g f x y) := uc_step HU (Below.refl _ _).drew
  go_region_held3 (fun W => ((W.cell? ⟨b1, 0, none⟩ = some (.int .i64 0) ∧ W.cell? ⟨b1, 1, none⟩ = some (.int .i64 0)) ∧ (W.cell? ⟨b1, 2, none⟩ = some (.int .i64 n) ∧ W.cell? ⟨b1, 3, none⟩ = some (.int .i64 l))) ∧
    (W.cell? ⟨b2, 0, none⟩ = some (.slice (some ⟨bb, off, none⟩) l c) ∧ W.cell? ⟨b3, 0, none⟩ = some (.int .u8 (48 + (g : Int)))) ∧ (W.cell? ⟨w.heap.size, 0, none⟩ = some (.int .i64 x) ∧ W.cell? ⟨w.heap.size, 1, none⟩ = some (.int .i64 y)) ∧
    W.cell? ⟨bb, off + y, none⟩ = some (.string (rowS f n y)) ∧ Hid (Uc w W b1 b2 b3 bb off l c n g f x y))
    ((go_split_ands; refine uc_get ?_ HN.out.2.2; first | (with_reducible exact HU) | (with_reducible exact HUd) | (with_reducible exact uc_step ‹_› hbw)))
    ((go_at_call 81; (with_reducible refine (has_in n l x y _ HN.out.1.1 HN.out.1.2 HN.out.2.1 HN.out.2.2).mono ?_); rintro e w' ⟨rfl, hbw⟩))
  go_wp2_with fail
  go_ret
  go_split_ands
  exact ⟨by rw [HE.out]; rfl, (Hid.out (p := Uc _ _ _ _ _ _ _ _ _ _ _ _ _ _) ‹_›).2.2⟩
set_option maxRecDepth 20000 in
set_option maxHeartbeats 2000000 in
theorem usableAt_is (bb off l c n g : Nat) (f : Nat → Nat → UInt8) (w : World) (hz : ZsAt w bb off l (rowS f n)) (h1 : 1 ≤ l) (hg : g ≤ 9) :
    Calls Try.prog 70 #[.slice (some ⟨bb, off, none⟩) l c, .int .i64 g] w fun e w' => ∃ b1 b2 b3, e = .returned (.func (.func 123) #[] #[.pointer (some ⟨b1, 0, none⟩), .pointer (some ⟨b2, 0, none⟩), .pointer (some ⟨b3, 0, none⟩)]) ∧ Us w' b1 b2 b3 bb off l c n g f ∧ (b1 < w'.heap.size ∧ b2 < w'.heap.size ∧ b3 < w'.heap.size) ∧ Below w.heap.size w w' := by
  have hb0 : Below w.heap.size w (w.alloc (.cells #[.slice (some ⟨bb, off, none⟩) l c] 22)) := (Below.refl _ _).alloc (Nat.le_refl _) _
  have HZ := hide (hz.below hb0)
  have HB0 := hide hb0
  have H1 := hide h1
  have hgi : (g : Int) ≤ 9 := by omega
  have hw8 : IntKind.u8.wrap (48 + (g : Int)) = 48 + (g : Int) := by simp [IntKind.wrap, IntKind.bits, IntKind.signed]; omega
  have hmf : ∀ (fn : Fn) (first cap : Array Value) (w : World), (Instr.makeFunc fn first cap).run Try.prog w = .ok (.func fn first cap) w := fun _ _ _ _ => rfl
  have d1 : (w.alloc (.cells #[.slice (some ⟨bb, off, none⟩) l c] 22)).cell? ⟨w.heap.size, 0, none⟩ = some (.slice (some ⟨bb, off, none⟩) l c) := by simp [go_sem]
  have D1 := hide d1
  clear hz hb0 h1 hg d1
  go_enter Try.func70, Try.ntmps70
  go_wp2_with fail
  refine (extent_is bb off l c n f _ HZ.out H1.out).mono ?_
  rintro e w1 ⟨rfl, hb⟩
  have HZ1 := hide (HZ.out.below hb)
  have HB1 := hide (bt HB0.out hb)
  have D2 := hide (kc hb D1.out)
  have HS1 : Hid (w.heap.size < w1.heap.size) := hide (by have := hb.size; simp at this; omega)
  clear hb
  go_wp2_with fail
  go_ret
  have hbA : Below w1.heap.size w1 ((w1.alloc (.cells #[.int .i64 0, .int .i64 0, .int .i64 n, .int .i64 l] 39)).alloc (.cells #[.int .u8 (48 + (g : Int))] 5)) := ((Below.refl _ _).alloc (Nat.le_refl _) _).alloc (by simp) _
  have hsz := HS1.out
  exact ⟨w1.heap.size, w.heap.size, w1.heap.size + 1, rfl, ⟨⟨⟨by simp [go_sem], by simp [go_sem]⟩, by simp [go_sem], by simp [go_sem]⟩, ⟨kc hbA D2.out, by simp [go_sem]⟩, HZ1.out.below hbA⟩, ⟨by simp; omega, by simp; omega, by simp⟩, bt HB1.out hbA⟩
end Go.Proofs.Ytkajcbjacjfhnaa
set_option linter.unusedVariables false
namespace Go.Proofs.Ytkajcbjacjfhnaa
open Go.RowKit Go.Ab
theorem bdn (B : Nat) (w : World) (n : Nat) : Below B w (w.drewN n) := ⟨rfl, rfl, rfl, Nat.le_refl _, fun _ _ => rfl⟩
set_option maxHeartbeats 1000000 in
theorem grown_one (x0 y0 h0 x y : Int) (w : World) :
    Calls Try.prog 86 #[.agg #[.int .i64 x0, .int .i64 y0, .int .i64 0, .int .i64 h0], .agg #[.int .i64 x, .int .i64 y]] w fun e w' => e = .returned (.agg #[.int .i64 x, .int .i64 y, .int .i64 1, .int .i64 1]) ∧ Below w.heap.size w w' := by
  go_enter Try.func86, Try.ntmps86
  go_wp2
  refine bodyPost_ret (v := .agg #[.int .i64 x, .int .i64 y, .int .i64 1, .int .i64 1]) (by simp [results, Try.results86, go_sem]) rfl ⟨rfl, ?_⟩
  exact (((Below.refl _ _).alloc (Nat.le_refl _) _).alloc (by simp) _).alloc (by simp; omega) _
set_option maxHeartbeats 2000000 in
theorem grown_more (x0 y0 B H x y x0' y0' B' H' : Nat) (w : World) (hB : 1 ≤ B) (hx0 : x0 + B ≤ 48) (hy0 : y0 + H ≤ 48) (hx : x < 48) (hy : y < 48) (ex : x0' = min x0 x) (ey : y0' = min y0 y) (eB : B' + x0' = max (x0 + B) (x + 1)) (eH : H' + y0' = max (y0 + H) (y + 1)) :
    Calls Try.prog 86 #[.agg #[.int .i64 x0, .int .i64 y0, .int .i64 B, .int .i64 H], .agg #[.int .i64 x, .int .i64 y]] w fun e w' => e = .returned (.agg #[.int .i64 x0', .int .i64 y0', .int .i64 B', .int .i64 H']) ∧ Below w.heap.size w w' := by
  have hB0 : ((B : Int) == 0) = false := by simp; omega
  have m1 : (if x < x0 then (x : Int) else (x0 : Int)) = (x0' : Int) := by split <;> omega
  have m2 : (if y < y0 then (y : Int) else (y0 : Int)) = (y0' : Int) := by split <;> omega
  obtain ⟨r, hr⟩ : ∃ r : Nat, Hid (r = B' + x0') := ⟨_, rfl⟩
  obtain ⟨t, ht⟩ : ∃ t : Nat, Hid (t = H' + y0') := ⟨_, rfl⟩
  have m3 : (if (x0 : Int) + (B : Int) < (x : Int) + 1 then (x : Int) + 1 else (x0 : Int) + (B : Int)) = (r : Int) := by have := hr.out; split <;> omega
  have m4 : (if (y0 : Int) + (H : Int) < (y : Int) + 1 then (y : Int) + 1 else (y0 : Int) + (H : Int)) = (t : Int) := by have := ht.out; split <;> omega
  have m5 : (r : Int) - (x0' : Int) = (B' : Int) := by have := hr.out; omega
  have m6 : (t : Int) - (y0' : Int) = (H' : Int) := by have := ht.out; omega
  have w1 : IntKind.i64.wrap ((x0 : Int) + (B : Int)) = (x0 : Int) + (B : Int) := IntWalk.i64_in _ (by omega)
  have w2 : IntKind.i64.wrap ((y0 : Int) + (H : Int)) = (y0 : Int) + (H : Int) := IntWalk.i64_in _ (by omega)
  have w3 : IntKind.i64.wrap ((x : Int) + 1) = (x : Int) + 1 := IntWalk.i64_in _ (by omega)
  have w4 : IntKind.i64.wrap ((y : Int) + 1) = (y : Int) + 1 := IntWalk.i64_in _ (by omega)
  have b1 : (r : Int) ≤ 48 := by have := hr.out; omega
  have b2 : (t : Int) ≤ 48 := by have := ht.out; omega
  have b3 : (x0' : Int) ≤ 48 := by omega
  have b4 : (y0' : Int) ≤ 48 := by omega
  clear hB hx0 hy0 hx hy ex ey eB eH
  go_enter Try.func86, Try.ntmps86
  go_wp2_with fail
  go_quiet (fail)
  go_wp2_with fail
  go_quiet (fail)
  go_wp2_with fail
  refine bodyPost_ret (v := .agg #[.int .i64 x0', .int .i64 y0', .int .i64 B', .int .i64 H']) (by simp [results, Try.results86, go_sem]) rfl ⟨rfl, ?_⟩
  exact ((((((((Below.refl _ _).alloc (Nat.le_refl _) _).alloc (by simp) _).alloc (by simp; omega) _).trans (bdn _ _ _)).setCell (by simp; omega) _).setCell (by simp; omega) _).setCell (by simp; omega) _).setCell (by simp; omega) _
end Go.Proofs.Ytkajcbjacjfhnaa
set_option linter.unusedVariables false
namespace Go.Proofs.Ytkajcbjacjfhnaa
open Go.RowKit Go.Ab
/-- block q holds these cells -/
def Blk (w : World) (q : Nat) (vs : Array Value) (t : TypeId) : Prop := w.heap[q]? = some (.cells vs t (0, 0))
theorem Blk.cell {w : World} {q : Nat} {vs : Array Value} {t : TypeId} (h : Blk w q vs t) (i : Nat) {v : Value} (e : vs[i]? = some v) : w.cell? ⟨q, i, none⟩ = some v := (cell_of_row w q i vs t (0, 0) h).trans e
theorem Blk.free {w : World} {q : Nat} {vs : Array Value} {t : TypeId} (h : Blk w q vs t) (i : Nat) : w.frozen? ⟨q, i, none⟩ = false := frozen_of_row w q i vs t h
theorem Blk.lt {w : World} {q : Nat} {vs : Array Value} {t : TypeId} (h : Blk w q vs t) : q < w.heap.size := lt_of_block h
theorem Blk.new (w : World) (vs : Array Value) (t : TypeId) : Blk (w.alloc (.cells vs t)) w.heap.size vs t := heap_alloc_new w _
theorem Blk.below {w w' : World} {q : Nat} {vs : Array Value} {t : TypeId} (h : Blk w q vs t) (hb : Below w.heap.size w w') : Blk w' q vs t := (hb.block q h.lt).trans h
theorem Blk.other {w w' : World} {q r : Nat} {vs : Array Value} {t : TypeId} (h : Blk w q vs t) (hg : w.grownBy w' (some r)) (hn : q ≠ r) : Blk w' q vs t := (hg.block q h.lt (by intro e; exact hn (by injection e))).trans h
theorem Blk.set {w : World} {q : Nat} {vs : Array Value} {t : TypeId} (h : Blk w q vs t) (i : Nat) (u : Value) : Blk (w.setCell ⟨q, i, none⟩ u) q (vs.setIfInBounds i u) t := heap_setCell_same w q i vs t u h
theorem Blk.set4 {w : World} {q : Nat} {a b c d : Value} {t : TypeId} (h : Blk w q #[a, b, c, d] t) (a' b' c' d' : Value) :
    Blk ((((w.setCell ⟨q, 0, none⟩ a').setCell ⟨q, 1, none⟩ b').setCell ⟨q, 2, none⟩ c').setCell ⟨q, 3, none⟩ d') q #[a', b', c', d'] t := (((h.set 0 a').set 1 b').set 2 c').set 3 d'
theorem gb_trans {q : Nat} {a b c : World} (h : a.grownBy b (some q)) (k : b.grownBy c (some q)) : a.grownBy c (some q) :=
  ⟨k.os.trans h.os, k.tape.trans h.tape, k.output.trans h.output, Nat.le_trans h.size k.size, fun i hi hn => (k.block i (Nat.lt_of_lt_of_le hi h.size) hn).trans (h.block i hi hn)⟩
theorem gb_below {r : Option Nat} {a b : World} (h : Below a.heap.size a b) : a.grownBy b r := ⟨h.os, h.tape, h.output, h.size, fun k hk _ => h.block k hk⟩
theorem gb_set4 (w : World) (q : Nat) (a b c d : Value) : w.grownBy ((((w.setCell ⟨q, 0, none⟩ a).setCell ⟨q, 1, none⟩ b).setCell ⟨q, 2, none⟩ c).setCell ⟨q, 3, none⟩ d) (some q) :=
  gb_trans (gb_trans (gb_trans (grown_set w q 0 a) (grown_set _ q 1 b)) (grown_set _ q 2 c)) (grown_set _ q 3 d)
theorem gb_cell {w w' : World} {q : Nat} {p : Addr} {v : Value} (h : w.grownBy w' (some q)) (hc : w.cell? p = some v) (hn : p.block ≠ q) : w'.cell? p = some v :=
  h.cell hc (by intro e; exact hn (by injection e))
theorem gb_over {w w' : World} {q B : Nat} (h : w.grownBy w' (some q)) (hq : q < B) : Over B w w' := ⟨h.size, fun k hk hl => h.block k hl (by intro e; injection e with e; omega)⟩
theorem gb_low {w w' : World} {q B : Nat} (h : w.grownBy w' (some q)) (hq : B ≤ q) (hB : B ≤ w.heap.size) : Below B w w' := ⟨h.os, h.tape, h.output, h.size, fun k hk => h.block k (by omega) (by intro e; injection e with e; omega)⟩
theorem zs_gb {w w' : World} {b off l q : Nat} {ss : Nat → ByteArray} (hz : ZsAt w b off l ss) (h : w.grownBy w' (some q)) (hn : b ≠ q) : ZsAt w' b off l ss := fun i hi => ⟨gb_cell h (hz i hi).1 hn, (hz i hi).2⟩
theorem us_gb {W W' : World} {b1 b2 b3 bb off l c n g q : Nat} {f : Nat → Nat → UInt8} (H : Us W b1 b2 b3 bb off l c n g f) (h : W.grownBy W' (some q)) (h1 : b1 ≠ q) (h2 : b2 ≠ q) (h3 : b3 ≠ q) (h4 : bb ≠ q) : Us W' b1 b2 b3 bb off l c n g f :=
  ⟨⟨⟨gb_cell h H.1.1.1 h1, gb_cell h H.1.1.2 h1⟩, gb_cell h H.1.2.1 h1, gb_cell h H.1.2.2 h1⟩, ⟨gb_cell h H.2.1.1 h2, gb_cell h H.2.1.2 h3⟩, zs_gb H.2.2 h h4⟩
/-- the box of some cells, as its variable holds it -/
def bW (cs : List (Nat × Nat)) : Nat := match cs with | [] => 0 | _ => (boxL cs).x1 - (boxL cs).x0 + 1
def bH (cs : List (Nat × Nat)) : Nat := match cs with | [] => 0 | _ => (boxL cs).y1 - (boxL cs).y0 + 1
def bv (cs : List (Nat × Nat)) : Array Value := #[.int .i64 (boxL cs).x0, .int .i64 (boxL cs).y0, .int .i64 (bW cs), .int .i64 (bH cs)]
theorem bW_cons {cs : List (Nat × Nat)} (h : cs ≠ []) : bW cs = (boxL cs).x1 - (boxL cs).x0 + 1 := by cases cs with | nil => exact absurd rfl h | cons a t => rfl
theorem bH_cons {cs : List (Nat × Nat)} (h : cs ≠ []) : bH cs = (boxL cs).y1 - (boxL cs).y0 + 1 := by cases cs with | nil => exact absurd rfl h | cons a t => rfl
theorem grown_box (cs : List (Nat × Nat)) (n l x y : Nat) (w : World) (hn : n ≤ 48) (hl : l ≤ 48) (hcs : ∀ c ∈ cs, c.1 < n ∧ c.2 < l) (hx : x < n) (hy : y < l) :
    Calls Try.prog 86 #[.agg (bv cs), .agg #[.int .i64 x, .int .i64 y]] w fun e w' => e = .returned (.agg (bv (cs ++ [(x, y)]))) ∧ Below w.heap.size w w' := by
  cases cs with
  | nil =>
    refine (grown_one 0 0 0 x y w).mono fun e w' ⟨h, hb⟩ => ⟨?_, hb⟩
    rw [h]
    show _ = Ending.returned (.agg #[.int .i64 (x : Int), .int .i64 (y : Int), .int .i64 ((x - x + 1 : Nat) : Int), .int .i64 ((y - y + 1 : Nat) : Int)])
    rw [Nat.sub_self, Nat.sub_self]; rfl
  | cons a t =>
    have hne : a :: t ≠ [] := by simp
    obtain ⟨h1, h2, h3, h4⟩ := boxL_lt (N := n) (L := l) hne hcs
    have e := boxL_more hne (x, y)
    have hne2 : a :: t ++ [(x, y)] ≠ [] := by simp
    unfold bv
    rw [bW_cons hne, bH_cons hne, bW_cons hne2, bH_cons hne2, e]
    show Calls _ _ _ _ fun e w' => e = .returned (.agg #[.int .i64 ((min (boxL (a :: t)).x0 x : Nat) : Int), .int .i64 ((min (boxL (a :: t)).y0 y : Nat) : Int), .int .i64 ((max (boxL (a :: t)).x1 x - min (boxL (a :: t)).x0 x + 1 : Nat) : Int), .int .i64 ((max (boxL (a :: t)).y1 y - min (boxL (a :: t)).y0 y + 1 : Nat) : Int)]) ∧ _
    exact grown_more _ _ _ _ x y _ _ _ _ w (by omega) (by omega) (by omega) (by omega) (by omega) rfl rfl (by omega) (by omega)
/-- one more cell, if it is usable -/
def usM (f : Nat → Nat → UInt8) (g x y : Nat) (cs : List (Nat × Nat)) : List (Nat × Nat) := cs ++ if usB f g x y then [(x, y)] else []
set_option maxRecDepth 20000 in
set_option maxHeartbeats 2000000 in
theorem trim1_is (bl q b1 b2 b3 bb off l c n g x y : Nat) (f : Nat → Nat → UInt8) (cs : List (Nat × Nat)) (w : World) (hu : Us w b1 b2 b3 bb off l c n g f) (hc : w.cell? ⟨bl, 0, none⟩ = some (.func (.func 123) #[] #[.pointer (some ⟨b1, 0, none⟩), .pointer (some ⟨b2, 0, none⟩), .pointer (some ⟨b3, 0, none⟩)])) (hq : Blk w q (bv cs) 39)
    (hn : n ≤ 48) (hl : l ≤ 48) (hcs : ∀ c ∈ cs, c.1 < n ∧ c.2 < l) (hx : x < n) (hy : y < l) :
    Calls Try.prog 85 #[.agg #[.int .i64 x, .int .i64 y], .pointer (some ⟨bl, 0, none⟩), .pointer (some ⟨q, 0, none⟩)] w fun e w' => e = .returned (.tuple #[]) ∧ Blk w' q (bv (usM f g x y cs)) 39 ∧ w.grownBy w' (some q) := by
  have hb0 : Below w.heap.size w (w.alloc (.cells #[.int .i64 x, .int .i64 y] 87)) := (Below.refl _ _).alloc (Nat.le_refl _) _
  have HB0 := hide hb0
  have HU := hide (us_in b1 b2 b3 bb off l c n g x y f _ (us_step hu hb0) hn hl hx hy)
  have c1 := kc hb0 hc
  have d1 : (w.alloc (.cells #[.int .i64 x, .int .i64 y] 87)).cell? ⟨w.heap.size, 0, none⟩ = some (.int .i64 x) := by simp [go_sem]
  have d2 : (w.alloc (.cells #[.int .i64 x, .int .i64 y] 87)).cell? ⟨w.heap.size, 1, none⟩ = some (.int .i64 y) := by simp [go_sem]
  have D1 := hide d1
  have D2 := hide d2
  have Q0 := hide (hq.below hb0)
  have HN := hide (And.intro (And.intro hn hl) (And.intro hx hy))
  have HC := hide hcs
  have ent : ∀ args w, (callFunc 123 args).run Try.prog w = .ok (.enter 123 args) w := fun args w => enters_of Try.func123 (by kernel_rfl) rfl args w
  clear hu hc hq hn hl hcs hx hy hb0 d1 d2
  go_enter Try.func85, Try.ntmps85
  go_wp2_with fail
  refine HU.out.mono ?_
  rintro e w1 ⟨rfl, hb⟩
  have HB1 := hide (bt HB0.out hb)
  have Q1 := hide (Q0.out.below hb)
  have D11 := hide (kc hb D1.out)
  have D21 := hide (kc hb D2.out)
  clear hb HU HB0 Q0 D1 D2 c1
  cases hus : usB f g x y with
  | false =>
    have HM : Hid (usM f g x y cs = cs) := hide (by unfold usM; rw [hus]; simp)
    clear hus
    go_wp2_with fail
    go_end0
    exact ⟨rfl, by rw [HM.out]; exact Q1.out, gb_below HB1.out⟩
  | true =>
    have HM : Hid (usM f g x y cs = cs ++ [(x, y)]) := hide (by unfold usM; rw [hus]; rfl)
    have k1 := Q1.out.cell 0 (v := .int .i64 (boxL cs).x0) rfl
    have k2 := Q1.out.cell 1 (v := .int .i64 (boxL cs).y0) rfl
    have k3 := Q1.out.cell 2 (v := .int .i64 (bW cs)) rfl
    have k4 := Q1.out.cell 3 (v := .int .i64 (bH cs)) rfl
    have d1 := D11.out
    have d2 := D21.out
    clear hus
    go_wp2_with fail
    refine (grown_box cs n l x y _ HN.out.1.1 HN.out.1.2 HC.out HN.out.2.1 HN.out.2.2).mono ?_
    rintro e w2 ⟨rfl, hb⟩
    have HB2 := hide (bt HB1.out hb)
    have Q2 := hide (Q1.out.below hb)
    have k1 := Q2.out.cell 0 (v := .int .i64 (boxL cs).x0) rfl
    have k2 := Q2.out.cell 1 (v := .int .i64 (boxL cs).y0) rfl
    have k3 := Q2.out.cell 2 (v := .int .i64 (bW cs)) rfl
    have k4 := Q2.out.cell 3 (v := .int .i64 (bH cs)) rfl
    have f0 := Q2.out.free 0
    have f1 := Q2.out.free 1
    have f2 := Q2.out.free 2
    have f3 := Q2.out.free 3
    clear hb
    unfold bv
    go_wp2_with fail
    go_end0
    refine ⟨rfl, ?_, ?_⟩
    · rw [HM.out]; exact Q2.out.set4 _ _ _ _
    · exact gb_trans (gb_below HB2.out) (gb_set4 _ _ _ _ _ _)
end Go.Proofs.Ytkajcbjacjfhnaa
