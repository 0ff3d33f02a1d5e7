import Derived.Test.YtpgnbjlpkpmpcaaZo
namespace Go.Proofs.Ytpgnbjlpkpmpcaa.R
open Go.RowKit Go.Proofs.Ytpgnbjlpkpmpcaa.N
set_option maxRecDepth 100000 in
set_option maxHeartbeats 4000000 in
theorem law_reckons (n d m q : Int) (w : World) (i1 : In64 n) (i2 : In64 d) (i3 : In64 m) (i4 : In64 q) : Calls Try.prog 5 #[.agg #[.int .i64 n, .int .i64 d], .agg #[.int .i64 m, .int .i64 q]] w fun e w' => e = .returned (.bool true) ∧ Below w.heap.size w w' := by
  have G : Hid (Ins n d m q) := hide ⟨⟨i1, i2⟩, ⟨i3, i4⟩⟩; clear i1 i2 i3 i4
  have G1 : Hid (In64 n ∧ In64 d) := hide G.out.1
  obtain ⟨x0, z0, H0⟩ := duo_ex (M.okB n d && M.okB m q) (Int.sign (n * q - m * d))
  obtain ⟨x1, y1, z1, H1⟩ := ans_ex n d m q (Rat.divInt n d + Rat.divInt m q)
  obtain ⟨x2, y2, z2, H2⟩ := ans_ex n d m q (Rat.divInt n d - Rat.divInt m q)
  obtain ⟨x3, y3, z3, H3⟩ := ans_ex n d m q (Rat.divInt n d * Rat.divInt m q)
  obtain ⟨x4, y4, z4, H4⟩ := div_ex n d m q
  obtain ⟨x5, y5, z5, H5⟩ := tri_ex (M.okB n d) (-n) d 0
  obtain ⟨x6, y6, z6, H6⟩ := tri_ex (M.okB n d) (n.natAbs : Int) d 0
  have HL := l2_start (w := w) (n := n) (d := d) (m := m) (q := q)
  go_enter Try.func5, Try.ntmps5
  go_wp2_with fail
  refine (cmp_is n d m q x0 z0 _ G H0).mono ?_
  rintro e w1 ⟨rfl, hb⟩
  have HL1 := l2_step HL hb; clear hb HL
  obtain ⟨⟨r1, r2, r3, r4⟩, ⟨_, _⟩, _⟩ := HL1.out
  go_wp2_with fail
  refine (rcmp_is n d m q x0 z0 _ H0).mono ?_
  rintro e w2 ⟨rfl, hb⟩
  have HL2 := l2_step HL1 hb; clear hb HL1 r1 r2 r3 r4
  obtain ⟨⟨r1, r2, r3, r4⟩, ⟨_, _⟩, _⟩ := HL2.out
  go_wp2_with fail
  refine (awake_any _).mono ?_
  rintro e w3 ⟨rfl, hb⟩
  have HL3 := l2_step HL2 hb; clear hb HL2 r1 r2 r3 r4
  obtain ⟨⟨r1, r2, r3, r4⟩, ⟨_, _⟩, _⟩ := HL3.out
  go_wp2_with fail
  refine (add_is n d m q x1 y1 z1 _ G H1).mono ?_
  rintro e w4 ⟨rfl, hb⟩
  have HL4 := l2_step HL3 hb; clear hb HL3 r1 r2 r3 r4
  have HL4' := l2_step HL4 (ba (Below.refl _ _) (Obj.cells #[.int .i64 x1, .int .i64 y1] 23))
  have HF := fx_new w4 x1 y1
  obtain ⟨⟨r1, r2, r3, r4⟩, ⟨_, _⟩, _⟩ := HL4.out
  go_wp2_with fail
  refine (radd_is n d m q x1 y1 z1 _ H1).mono ?_
  rintro e w5 ⟨rfl, hb⟩
  obtain ⟨f, hf⟩ : ∃ f, f = w4.heap.size := ⟨_, rfl⟩
  have HR5 := rk_new (c := x1) (e := y1) HL4 hf hb
  have HF5 := fx_step HF hb
  rw [← hf] at HF5 ⊢
  have HL5 := l2_step HL4' hb
  clear hb HF HL4 HL4' r1 r2 r3 r4 hf
  obtain ⟨⟨r1, r2, r3, r4⟩, ⟨_, _⟩, _⟩ := HL5.out
  obtain ⟨a1, a2, a3⟩ := HF5.out
  go_wp2_with fail
  refine (sub_is n d m q x2 y2 z2 _ G H2).mono ?_
  rintro e w6 ⟨rfl, hb⟩
  obtain ⟨g, hg⟩ : ∃ g, g = w5.heap.size := ⟨_, rfl⟩
  have HR6 := rk_step HR5 hb
  rw [← hg] at HR6 ⊢
  clear hb HF5 HL5 HR5 r1 r2 r3 r4 a1 a2 a3 hg
  obtain ⟨⟨⟨r1, r2, r3, r4⟩, ⟨_, _⟩, _⟩, ⟨⟨c1, c2⟩, ⟨c3, c4⟩⟩, ⟨⟨f1, f2⟩, ⟨f3, f4⟩⟩, hz1, hz2⟩ := HR6.out
  have hne1 : f ≠ g := by omega
  have hne2 : g ≠ f := by omega
  go_wp2_with fail
  refine (rsub_is n d m q x2 y2 z2 _ H2).mono ?_
  rintro e w7 ⟨rfl, hb⟩
  have HR7 := rk_step (rk_setf HR6 x2 y2) hb; clear hb r1 r2 r3 r4 c1 c2 c3 c4 f1 f2 f3 f4 HR6
  obtain ⟨⟨⟨r1, r2, r3, r4⟩, ⟨_, _⟩, _⟩, ⟨⟨c1, c2⟩, ⟨c3, c4⟩⟩, ⟨⟨f1, f2⟩, ⟨f3, f4⟩⟩, _, _⟩ := HR7.out
  go_wp2_with fail
  refine (mul_is n d m q x3 y3 z3 _ G H3).mono ?_
  rintro e w8 ⟨rfl, hb⟩
  have HR8 := rk_step (rk_setg HR7 x2 y2) hb; clear hb r1 r2 r3 r4 c1 c2 c3 c4 f1 f2 f3 f4 HR7
  obtain ⟨⟨⟨r1, r2, r3, r4⟩, ⟨_, _⟩, _⟩, ⟨⟨c1, c2⟩, ⟨c3, c4⟩⟩, ⟨⟨f1, f2⟩, ⟨f3, f4⟩⟩, _, _⟩ := HR8.out
  go_wp2_with fail
  refine (rmul_is n d m q x3 y3 z3 _ H3).mono ?_
  rintro e w9 ⟨rfl, hb⟩
  have HR9 := rk_step (rk_setf HR8 x3 y3) hb; clear hb r1 r2 r3 r4 c1 c2 c3 c4 f1 f2 f3 f4 HR8
  obtain ⟨⟨⟨r1, r2, r3, r4⟩, ⟨_, _⟩, _⟩, ⟨⟨c1, c2⟩, ⟨c3, c4⟩⟩, ⟨⟨f1, f2⟩, ⟨f3, f4⟩⟩, _, _⟩ := HR9.out
  go_wp2_with fail
  refine (div_is n d m q x4 y4 z4 _ G H4).mono ?_
  rintro e w10 ⟨rfl, hb⟩
  have HR10 := rk_step (rk_setg HR9 x3 y3) hb; clear hb r1 r2 r3 r4 c1 c2 c3 c4 f1 f2 f3 f4 HR9
  obtain ⟨⟨⟨r1, r2, r3, r4⟩, ⟨_, _⟩, _⟩, ⟨⟨c1, c2⟩, ⟨c3, c4⟩⟩, ⟨⟨f1, f2⟩, ⟨f3, f4⟩⟩, _, _⟩ := HR10.out
  go_wp2_with fail
  refine (rdiv_is n d m q x4 y4 z4 _ H4).mono ?_
  rintro e w11 ⟨rfl, hb⟩
  have HR11 := rk_step (rk_setf HR10 x4 y4) hb; clear hb r1 r2 r3 r4 c1 c2 c3 c4 f1 f2 f3 f4 HR10
  obtain ⟨⟨⟨r1, r2, r3, r4⟩, ⟨_, _⟩, _⟩, ⟨⟨c1, c2⟩, ⟨c3, c4⟩⟩, ⟨⟨f1, f2⟩, ⟨f3, f4⟩⟩, _, _⟩ := HR11.out
  go_wp2_with fail
  refine (neg_is n d x5 y5 z5 _ G1 H5).mono ?_
  rintro e w12 ⟨rfl, hb⟩
  have HR12 := rk_step (rk_setg HR11 x4 y4) hb; clear hb r1 r2 r3 r4 c1 c2 c3 c4 f1 f2 f3 f4 HR11
  obtain ⟨⟨⟨r1, r2, r3, r4⟩, ⟨_, _⟩, _⟩, ⟨⟨c1, c2⟩, ⟨c3, c4⟩⟩, ⟨⟨f1, f2⟩, ⟨f3, f4⟩⟩, _, _⟩ := HR12.out
  go_wp2_with fail
  refine (rneg_is n d x5 y5 z5 _ H5).mono ?_
  rintro e w13 ⟨rfl, hb⟩
  have HR13 := rk_step (rk_setf HR12 x5 y5) hb; clear hb r1 r2 r3 r4 c1 c2 c3 c4 f1 f2 f3 f4 HR12
  obtain ⟨⟨⟨r1, r2, r3, r4⟩, ⟨_, _⟩, _⟩, ⟨⟨c1, c2⟩, ⟨c3, c4⟩⟩, ⟨⟨f1, f2⟩, ⟨f3, f4⟩⟩, _, _⟩ := HR13.out
  go_wp2_with fail
  refine (abs_is n d x6 y6 z6 _ G1 H6).mono ?_
  rintro e w14 ⟨rfl, hb⟩
  have HR14 := rk_step (rk_setg HR13 x5 y5) hb; clear hb r1 r2 r3 r4 c1 c2 c3 c4 f1 f2 f3 f4 HR13
  obtain ⟨⟨⟨r1, r2, r3, r4⟩, ⟨_, _⟩, _⟩, ⟨⟨c1, c2⟩, ⟨c3, c4⟩⟩, ⟨⟨f1, f2⟩, ⟨f3, f4⟩⟩, _, _⟩ := HR14.out
  go_wp2_with fail
  refine (rabs_is n d x6 y6 z6 _ H6).mono ?_
  rintro e w15 ⟨rfl, hb⟩
  have HR15 := rk_step (rk_setf HR14 x6 y6) hb; clear hb r1 r2 r3 r4 c1 c2 c3 c4 f1 f2 f3 f4 HR14
  obtain ⟨⟨⟨r1, r2, r3, r4⟩, ⟨_, _⟩, _⟩, ⟨⟨c1, c2⟩, ⟨c3, c4⟩⟩, ⟨⟨f1, f2⟩, ⟨f3, f4⟩⟩, _, _⟩ := HR15.out
  go_wp2_with fail
  go_ret
  exact ⟨rfl, (rk_setg HR15 x6 y6).out.1.2.2⟩
end Go.Proofs.Ytpgnbjlpkpmpcaa.R
