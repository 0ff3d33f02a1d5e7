/- sweptRows, swept. -/
import Derived.Test.YtkajcbjacjfhnaaIo
set_option linter.unusedVariables false
namespace Go.Proofs.Ytkajcbjacjfhnaa
open Go.RowKit Go.Ab
theorem ent149 : ∀ args w, (callFunc 149 args).run Try.prog w = .ok (.enter 149 args) w := fun args w => enters_of Try.func149 (by kernel_rfl) rfl args w
set_option maxRecDepth 20000 in
set_option maxHeartbeats 2000000 in
theorem sweptRows_is (bb off c n l k gk : Nat) (mn : Bool) (f : Nat → Nat → UInt8) (w : World) (hz : ZsAt w bb off l (rowS f n)) (hd : Dim (n, l, f)) (hp : Pick gk mn) (hk : k ≤ 48) :
    Calls Try.prog 125 #[.slice (some ⟨bb, off, none⟩) l c, .int .i64 k, .func (.func gk) #[] #[]] w fun e w' => ∃ v, e = .returned v ∧ Sp w' v (n, l, sw mn f n k) ∧ Below w.heap.size w w' := by
  have hbA : Below w.heap.size w ((((w.alloc (.cells #[.slice (some ⟨bb, off, none⟩) l c] 22)).alloc (.cells #[.int .i64 k] 3)).alloc (.cells #[.func (.func gk) #[] #[]] 103)).alloc (.cells #[.int .i64 n] 3)) := ((((Below.refl _ _).alloc (Nat.le_refl _) _).alloc (by simp) _).alloc (by simp; omega) _).alloc (by simp; omega) _
  have HBA := hide hbA
  have HS : Hid (Sc ((((w.alloc (.cells #[.slice (some ⟨bb, off, none⟩) l c] 22)).alloc (.cells #[.int .i64 k] 3)).alloc (.cells #[.func (.func gk) #[] #[]] 103)).alloc (.cells #[.int .i64 n] 3)) w.heap.size (w.heap.size + 1) (w.heap.size + 1 + 1 + 1) (w.heap.size + 1 + 1) bb off l c n k gk f) := hide
    ⟨⟨by simp [go_sem], by simp [go_sem]⟩, ⟨by simp [go_sem], by simp [go_sem]⟩, hz.below hbA⟩
  have c0 := (hz 0 hd.2.1).1
  rw [Nat.add_zero] at c0
  have hbw : bb < w.heap.size := World.block_lt_of_cell? _ _ c0
  have hb3 : Below w.heap.size w (((w.alloc (.cells #[.slice (some ⟨bb, off, none⟩) l c] 22)).alloc (.cells #[.int .i64 k] 3)).alloc (.cells #[.func (.func gk) #[] #[]] 103)) := (((Below.refl _ _).alloc (Nat.le_refl _) _).alloc (by simp) _).alloc (by simp; omega) _
  have c3 := kc hb3 c0
  have h1n : 0 < l := hd.2.1
  have h1i : (0 : Int) < (l : Int) := by omega
  have hsz : (rowS f n 0).size = n := rowS_size f n 0
  have HN : Hid (1 ≤ l ∧ n ≤ 48 ∧ l ≤ 48 ∧ k ≤ 48) := hide ⟨hd.2.1, hd.1.2, hd.2.2, hk⟩
  have HP := hide hp
  have hmf : ∀ (fn : Fn) (first cap : Array Value) (w : World), (Instr.makeFunc fn first cap).run Try.prog w = .ok (.func fn first cap) w := fun _ _ _ _ => rfl
  clear hz hd hp hk hbA hb3
  go_enter Try.func125, Try.ntmps125
  go_wp2_with fail
  refine (drawn_any 149 #[.pointer (some ⟨w.heap.size, 0, none⟩), .pointer (some ⟨w.heap.size + 1, 0, none⟩), .pointer (some ⟨w.heap.size + 1 + 1 + 1, 0, none⟩), .pointer (some ⟨w.heap.size + 1 + 1, 0, none⟩)] n l (sw mn f n k) _ HN.out.2.1 HN.out.2.2.1 ent149
    (hide fun W x y hb hx hy => swept1_is _ _ _ _ bb off l c n k gk x y mn f W (sc_step HS.out hb) HP.out hx hy HN.out.2.1 HN.out.2.2.1 HN.out.2.2.2)).mono ?_
  rintro e w2 ⟨v2, rfl, hown, hb⟩
  have HSp : Hid (Sp w2 v2 (n, l, sw mn f n k)) := hide (sk_of_owns hown HN.out.1 HN.out.2.1)
  have HB := hide (bt HBA.out hb)
  clear hown hb
  go_wp2_with fail
  go_ret
  exact ⟨v2, rfl, HSp.out, HB.out⟩
theorem valid_dg {p : Nat × Nat × (Nat → Nat → UInt8)} (hd : Dim p) (hg : Dg p) : validB p.2.1 (rowS p.2.2 p.1) = true := by
  have hs : ∀ y, (rowS p.2.2 p.1 y).size = p.1 := fun y => rowS_size _ _ _
  rw [validB_rows hd.2.1 hd.2.2 (by rw [hs]; exact hd.1.1) (by rw [hs]; exact hd.1.2), hs]
  unfold rowsB
  rw [List.all_eq_true]
  intro i hi
  have hil : i < p.2.1 := by simpa using hi
  unfold rowB gradesB
  rw [hs]
  simp only [decide_true, Bool.true_and]
  rw [List.all_eq_true]
  intro b hb
  have hb' : b ∈ rowL p.2.2 i p.1 := by
    have hb2 : b ∈ (rowL p.2.2 i p.1).toArray.toList := hb
    simpa using hb2
  unfold rowL at hb'
  rw [List.mem_map] at hb'
  obtain ⟨x, hx, rfl⟩ := hb'
  have := hg x i (by simpa using hx) hil
  unfold okB
  simp; omega
theorem rowS_congr {f f' : Nat → Nat → UInt8} {n y : Nat} (h : ∀ x, x < n → f x y = f' x y) : rowS f n y = rowS f' n y := by
  unfold rowS rowL
  have : (List.range n).map (fun x => f x y) = (List.range n).map (fun x => f' x y) := List.map_congr_left (fun x hx => h x (by simpa using hx))
  first | rw [this] | (congr 1; simpa using this)
theorem sp_congr {w : World} {v : Value} {n l : Nat} {f f' : Nat → Nat → UInt8} (h : Sp w v (n, l, f)) (e : ∀ x y, x < n → y < l → f x y = f' x y) : Sp w v (n, l, f') := by
  obtain ⟨b, off, c, hv, hz⟩ := h
  refine ⟨b, off, c, hv, fun i hi => ?_⟩
  have := hz i hi
  have e2 : rowS f n i = rowS f' n i := rowS_congr fun x hx => e x i hx hi
  show w.cell? ⟨b, off + i, none⟩ = some (.string (rowS f' n i)) ∧ (rowS f' n i).size ≤ maxLen
  rw [← e2]; exact this
def mor (mn : Bool) (f : Nat → Nat → UInt8) (n l k x y : Nat) : UInt8 := sw mn (tur l (sw mn f n k)) l k (l - 1 - y) x
theorem dg_sw {mn : Bool} {f : Nat → Nat → UInt8} {n l k : Nat} (hg : Dg (n, l, f)) : Dg (n, l, sw mn f n k) := fun x y hx hy => by
  have hx' : x < n := hx
  have hy' : y < l := hy
  show 48 ≤ (sw mn f n k x y).toNat ∧ (sw mn f n k x y).toNat ≤ 57
  rcases (sw_best mn f n k x y hx').1 with ⟨u, hu, _, _, e⟩ | ⟨e, _⟩
  · rw [e]; exact hg u y hu hy'
  · rw [e]; omega
theorem dg_mor {mn : Bool} {f : Nat → Nat → UInt8} {n l k : Nat} (hg : Dg (n, l, f)) : Dg (n, l, mor mn f n l k) := fun x y hx hy => by
  have hx' : x < n := hx
  have hy' : y < l := hy
  show 48 ≤ (mor mn f n l k x y).toNat ∧ (mor mn f n l k x y).toNat ≤ 57
  rcases (sq_best mn f n l k x y hx' hy').1 with ⟨u, r, ⟨hu, _⟩, ⟨hr, _⟩, e⟩ | ⟨e, _⟩
  · rw [show (mor mn f n l k x y).toNat = _ from e]; exact hg u r hu hr
  · rw [show (mor mn f n l k x y).toNat = _ from e]; omega
set_option maxRecDepth 20000 in
set_option maxHeartbeats 2000000 in
theorem swept_is (v : Value) (n l k gk : Nat) (mn : Bool) (f : Nat → Nat → UInt8) (w : World) (hs : Sp w v (n, l, f)) (hd : Dim (n, l, f)) (hg : Dg (n, l, f)) (hp : Pick gk mn) (hk : k ≤ 48) :
    Calls Try.prog 89 #[v, .int .i64 k, .func (.func gk) #[] #[]] w fun e w' => ∃ v, e = .returned (.tuple #[v, .int .i64 0]) ∧ Sp w' v (n, l, mor mn f n l k) ∧ Below w.heap.size w w' := by
  have HV := hide (valid_dg hd hg)
  have HS := hide hs
  have hdt : Dim (l, n, tur l (sw mn f n k)) := ⟨hd.2, hd.1⟩
  have hgt : Dg (l, n, tur l (sw mn f n k)) := fun x y hx hy => (dg_sw (mn := mn) (k := k) hg) y (l - 1 - x) hy (by have hx' : x < l := hx; show l - 1 - x < l; omega)
  have HW : Hid (validB n (rowS (sw mn (tur l (sw mn f n k)) l k) l) = true) := hide (valid_dg (p := (l, n, sw mn (tur l (sw mn f n k)) l k)) hdt (dg_sw hgt))
  have HD := hide (And.intro hd hdt)
  have HP := hide hp
  have HK := hide hk
  have bk : (k : Int) ≤ 48 := by omega
  clear hs hd hg hdt hgt hp hk
  go_enter Try.func89, Try.ntmps89
  go_wp2_with (go_at_call 22; refine (valid_sp v (n, l, f) _ HS.out HV.out).mono ?_; rintro e w' ⟨rfl, rfl⟩)
  obtain ⟨bb, off, c, rfl, hz⟩ := HS.out
  refine (sweptRows_is bb off c n l k gk mn f _ hz HD.out.1 HP.out HK.out).mono ?_
  rintro e w1 ⟨v1, rfl, hs1, hb⟩
  have HB1 := hide hb
  have HS1 := hide hs1
  clear hb hs1 hz
  go_wp2_with fail
  refine (turned_sp v1 (n, l, sw mn f n k) _ HS1.out HD.out.1).mono ?_
  rintro e w2 ⟨v2, rfl, hs2, hb⟩
  have HB2 := hide (bt HB1.out hb)
  have HS2 : Hid (Sp w2 v2 (l, n, tur l (sw mn f n k))) := hide hs2
  clear hb hs2
  obtain ⟨b2, off2, c2, rfl, hz2⟩ := HS2.out
  go_wp2_with fail
  refine (sweptRows_is b2 off2 c2 l n k gk mn (tur l (sw mn f n k)) _ hz2 HD.out.2 HP.out HK.out).mono ?_
  rintro e w3 ⟨v3, rfl, hs3, hb⟩
  have HB3 := hide (bt HB2.out hb)
  have HS3 := hide hs3
  clear hb hs3 hz2
  go_wp2_with fail
  refine (turn_is v3 (l, n, sw mn (tur l (sw mn f n k)) l k) (-1) 3 _ (Nat.le_refl _) (by rw [IntWalk.wrap64_in _ (by decide)]; rfl) HS3.out HD.out.2 HW.out).mono ?_
  rintro e w4 ⟨v4, rfl, hs4, hb⟩
  have HB4 := hide (bt HB3.out hb)
  have HS4 : Hid (Sp w4 v4 (n, l, mor mn f n l k)) := hide (sp_congr (n := n) (l := l) hs4 (fun x y hx hy => by
    show sw mn (tur l (sw mn f n k)) l k (l - 1 - y) (n - 1 - (n - 1 - x)) = sw mn (tur l (sw mn f n k)) l k (l - 1 - y) x
    rw [show n - 1 - (n - 1 - x) = x by omega]))
  clear hb hs4
  go_wp2_with fail
  go_ret2
  exact ⟨v4, rfl, HS4.out, HB4.out⟩
end Go.Proofs.Ytkajcbjacjfhnaa
