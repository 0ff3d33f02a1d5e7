import Derived.Test.YtpgnbjlpkpmpcaaW
import Derived.Deep.DeepCutAuto
import Derived.Deep.RegionHeld
import Derived.Deep.LoopGhost
namespace Go.Proofs.Ytpgnbjlpkpmpcaa.R
open Go.RowKit Go.Proofs.Ytpgnbjlpkpmpcaa.N
theorem rn_one {w : World} {b : Nat} {cap : Nat} (h : w.cell? ⟨b, 0, none⟩ = some (.int .u32 1)) (hc : 1 ≤ cap) : RN w (.slice (some ⟨b, 0, none⟩) 1 cap) 1 :=
  ⟨[1], some ⟨b, 0, none⟩, cap, rfl, ⟨fun x hx => by simp at hx; subst hx; decide, fun x hx => by simp at hx; omega⟩, by simp [val], .inr ⟨b, 0, rfl, fun i hi => by
    have : i = 0 := by simpa using hi
    subst this; simpa using h⟩, by simpa using hc⟩
theorem own_keep {w w' : World} {base e size n : Nat} {v : Value} {xs : List Value} (h : w.ownsRow base e size v n xs) (hb : Below w.heap.size w w') : w'.ownsRow base e size v n xs :=
  h.kept (row := none) ⟨hb.os, hb.tape, hb.output, hb.size, fun k hk _ => hb.block k hk⟩ (by cases v.ownBlock <;> simp)
theorem sm_le {a b : Nat} (h : a ≤ b) (hb : Sm b) : Sm a := Nat.lt_of_le_of_lt h hb
theorem own_drewN {w : World} {base e size n : Nat} {v : Value} {xs : List Value} (h : w.ownsRow base e size v n xs) (k : Nat) : (w.drewN k).ownsRow base e size v n xs := h
theorem far_of {wr : World} {base e size n cap g : Nat} {v : Value} {xs : List Value} (h : wr.ownsRow base e size (.slice (some ⟨g, 0, none⟩) n cap) n xs) (hf : ∀ k, v.ownBlock = some k → wr.heap.size ≤ k) : v.ownBlock ≠ some g := fun c => by
  have h1 := (h.lt g rfl).2
  have h2 := hf g c
  omega
theorem RN.set_far {w : World} {v : Value} {n g : Nat} (h : RN w v n) (hn : v.ownBlock ≠ some g) (j : Nat) (u : Value) : RN (w.setCell ⟨g, j, none⟩ u) v n := by
  obtain ⟨l, ao, cap, rfl, h2, h3, h4, h5⟩ := h
  refine ⟨l, ao, cap, rfl, h2, h3, ?_, h5⟩
  rcases h4 with h4 | ⟨b, off, rfl, h4⟩
  · exact .inl h4
  · refine .inr ⟨b, off, rfl, fun i hi => ?_⟩
    rw [World.cell?_setCell_far _ _ _ _ (by intro c; exact hn (by rw [show g = b from c]; rfl))]
    exact h4 i hi
theorem rn_drewN {w w4 : World} {v : Value} {r k : Nat} (h : Hid (RN w v r)) (hw : w4 = w.drewN k) : Hid (RN w4 v r) := by rw [hw]; exact h
theorem sign_ge {a b : Nat} (h : b ≤ a) : 0 ≤ Int.sign ((a : Int) - (b : Int)) := by
  rcases Nat.eq_or_lt_of_le h with c | c
  · rw [c]; simp
  · rw [Int.sign_eq_one_of_pos (by omega)]; decide
/-- numbers of half the size: their sums and doubles still fit -/
def Sh (n : Nat) : Prop := n < B ^ (K - 1)
theorem k_le : K - 1 ≤ K := Nat.sub_le _ _
theorem sh_sm {n : Nat} (h : Sh n) : Sm n := Nat.lt_of_lt_of_le h (Nat.pow_le_pow_right (by decide) k_le)
theorem pow_k (b : Nat) : b ^ K = b ^ (K - 1) * b := by
  have k1 : K - 1 + 1 = K := by decide
  generalize K = k at *
  rw [← k1, Nat.pow_succ]; congr 2
theorem dbl_lt {n z b : Nat} (h : n < z) (hb : 2 ≤ b) : 2 * n + 1 < z * b := by
  have h2 : z * 2 ≤ z * b := Nat.mul_le_mul_left _ hb
  omega
theorem sh_dbl {n : Nat} (h : Sh n) : Sm (2 * n + 1) := by
  unfold Sm; rw [pow_k]; exact dbl_lt h (by decide)
set_option maxRecDepth 20000 in
set_option maxHeartbeats 2000000 in
theorem divided_long (l m : List Nat) (ao bo : Option Addr) (ca cb : Nat) (w : World) (hcl : Canon l) (hcm : Canon m) (hl : l.length ≤ 100000) (hb0 : 0 < val m) (sb : Sh (val m)) (hda : Dg w ao l) (hdb : Dg w bo m) (hcb : m.length ≤ cb) (hbig : ¬ (l.length ≤ 2 ∧ m.length ≤ 2)) :
    Calls Try.prog 118 #[.slice ao l.length ca, .slice bo m.length cb] w (Ret2 w (val l / val m) (val l % val m)) := by
  obtain ⟨i0, hi, hz0, hz1, hz2⟩ := info_parts Try.info88
  have HLD := hide hcl.1
  have HA := hide hda; clear hda
  have HB : Hid (RN w (.slice bo m.length cb) (val m)) := hide ⟨m, bo, cb, rfl, hcm, rfl, hdb, hcb⟩
  clear hdb hcm hcl hcb
  obtain ⟨n, hn⟩ : ∃ n, Hid (n = val m) := ⟨_, rfl⟩
  rw [← hn.out] at HB hb0 sb ⊢
  have HB0 := hide hb0; clear hb0
  have SB := hide sb; clear sb
  have HBIG := hide hbig
  go_enter Try.func118, Try.ntmps118
  go_upto_region 1 with fail
  go_cut [16] (fun s wx => s = .bool false ∧ w = wx)
  case first =>
    by_cases h2 : (l.length : Int) ≤ 2
    · have h3 : decide ((m.length : Int) ≤ 2) = false := by simp; omega
      clear hbig
      go_wp2_with fail
      go_meet
      exact ⟨rfl, rfl⟩
    · have h3 : decide ((l.length : Int) ≤ 2) = false := by simp; omega
      clear hbig
      go_wp2_with fail
      go_meet
      exact ⟨rfl, rfl⟩
  case rest =>
    obtain ⟨rfl, rfl⟩ := hcut
    clear hbig
    go_wp2_with (at_make; refine wpList_make_full _ rfl _ _ 41 rfl w.heap.size 88 i0 (.int .u32 0) 1 Try.underlying41 hi hz0 hz1 _ _ _ _ l.length rfl rfl rfl rfl ?e3 ?e4 ?e5 ?_)
    case e3 => rw [hz2]; omega
    case e4 => unfold maxLen; omega
    case e5 => exact Nat.le_refl _
    intro w1 hown0 hgrow0
    have hb0 : Below w.heap.size w w1 := (Below.refl _ _).grown hgrow0 (Nat.le_refl _) (fun k hk => by simp at hk)
    rw [made_u32s] at hown0
    clear hgrow0
    go_wp2_with fail
    go_loopw [7, 8] (fun rv iv wr => ∃ (Q : List Nat) (j r : Nat), iv = .int .i64 ((j : Int) - 1) ∧ j ≤ 32 * l.length ∧ RN wr rv r ∧ rv.ownBlock ≠ some w.heap.size ∧ Hid (DivAt l Q n j r) ∧ wr.ownsRow w.heap.size 88 1 (.slice (some ⟨w.heap.size, 0, none⟩) l.length l.length) l.length (u32s Q) ∧ Below w.heap.size w wr) (fun _ iv _ => (intOf iv + 1).toNat)
    case atStart => exact ⟨_, 32 * l.length, 0, by go_num, Nat.le_refl _, ⟨[], none, 0, rfl, can_nil, rfl, .inl rfl, by simp⟩, by simp [Value.ownBlock], hide (div_start HLD.out HB0.out), hown0, hb0⟩
    case round =>
      clear hown0 hb0
      obtain ⟨Q, j, r, rfl, hj, hr, hnf, hs, hown, hb⟩ := hrel
      have HNR := hide hnf; clear hnf
      have HR := hide hr; clear hr
      have HOWN := hide hown; clear hown
      have HBL := hide hb; clear hb
      cases j with
      | zero =>
        have HF := hide (div_end hs.out)
        have HL : Hid (Q.length = l.length) := hide hs.out.2.2.2.2
        have hown2 := HOWN.out
        rw [← HL.out] at hown2
        have HO2 := hide (rd_of_owns hown2 hs.out.2.2.2.1)
        have HL2 : Hid (Q.length ≤ 1000000) := hide (by rw [HL.out]; omega)
        rw [HL.out] at hown2
        have HO3 : Hid (RD wr (.slice (some ⟨w.heap.size, 0, none⟩) l.length l.length) Q) := by have := HO2.out; rw [HL.out] at this; exact hide this
        clear hown2
        go_wp2_with (go_at_call 119; refine (trimmed_any Q _ _ HO3.out HL2.out).mono ?_; rintro e w9 ⟨v9, rfl, hv9, hb9, _⟩)
        go_ret2
        exact ⟨v9, _, rfl, by rw [← hn.out, ← HF.out.1] at *; exact hv9, by rw [← hn.out, ← HF.out.2] at *; exact HR.out.below hb9, bt HBL.out hb9⟩
      | succ j =>
        rw [show (((j + 1 : Nat) : Int) - 1) = (j : Int) by omega]
        have hj0 : (0 : Int) ≤ (j : Int) := by omega
        have hjl : j / 32 < l.length := by omega
        have hji : (j : Int) / 32 < (l.length : Int) := by omega
        rcases HA.out.below HBL.out with hh | ⟨b, off, rfl, hca⟩
        · subst hh; simp at hj
        obtain ⟨x, hx⟩ : ∃ x, Hid (x = l.getD (j / 32) 0) := ⟨_, rfl⟩
        have hxc := hca (j / 32) hjl
        rw [← hx.out] at hxc
        clear hca
        go_wp2_with fail
        refine (plus_any r r _ _ _ HR.out HR.out (sm_le (Nat.le_of_lt hs.out.2.1) (sh_sm SB.out)) (sm_le (Nat.le_of_lt hs.out.2.1) (sh_sm SB.out))).mono ?_
        rintro e w2 ⟨v2, rfl, hv2, hb2, hf2⟩
        have HN2 := hide (far_of HOWN.out hf2)
        clear hf2
        have HV2 := hide hv2; clear hv2
        have hxc2 := (hb2.cell (cell_lt hxc)).trans hxc
        have HB2 := hide (bt HBL.out hb2)
        have HOWN2 := hide (own_keep HOWN.out hb2)
        clear hb2 hxc
        have hlt32 : j % 32 < 32 := Nat.mod_lt _ (by decide)
        have hbv := bit_val HLD.out j hjl
        rw [← hx.out] at hbv
        have hxB : x < B := by rw [hx.out]; exact HLD.out.getD _
        have hand : bits BinOp.and IntKind.u32 ((x : Int) / 2 ^ (j % 32)) 1 = ((x / 2 ^ (j % 32) % 2 : Nat) : Int) := by
          have h1 : x / 2 ^ (j % 32) ≤ x := Nat.div_le_self _ _
          have h2 := u32_and_nat (x / 2 ^ (j % 32)) 1 (by unfold B at hxB; omega) (by decide)
          rw [nat_mask1] at h2
          rw [← h2, Int.natCast_ediv, Int.natCast_pow]; rfl
        have hbit2 := Nat.mod_lt (x / 2 ^ (j % 32)) (show 0 < 2 by decide)
        have SR : Hid (Sm (2 * r + 1)) := hide (sm_le (by have := hs.out.2.1; omega) (sh_dbl SB.out))
        by_cases hbit : x / 2 ^ (j % 32) % 2 = 1
        · have ht : (bits BinOp.and IntKind.u32 ((x : Int) / 2 ^ (j % 32)) 1 == 1) = true := by rw [hand, hbit]; rfl
          obtain ⟨R2, hR2⟩ : ∃ z, Hid (z = r + r + 1) := ⟨_, rfl⟩
          have HR2E : Hid (R2 = 2 * r + val l / 2 ^ j % 2) := hide (by rw [hbv, hbit, hR2.out]; omega)
          have SM2 : Hid (Sm R2) := by rw [hR2.out, show r + r + 1 = 2 * r + 1 by omega]; exact SR
          have SM1 : Hid (Sm (r + r)) := hide (sm_le (by omega) SR.out)
          have S1 : Hid (Sm 1) := hide (sm_le (by rw [hR2.out]; omega) SM2.out)
          clear hbv hxB hand hbit2 hbit hlt32
          go_wp2_with fail
          refine (plus_any (r + r) 1 _ _ _ (HV2.out.below (ba (Below.refl _ _) _)) (rn_one (by simp [go_sem]) (by decide)) SM1.out S1.out).mono ?_
          rintro e w3 ⟨v3, rfl, hv3, hb3, hf3⟩
          have hn3 := far_of (HOWN2.out.alloc (Obj.cells #[Value.int IntKind.u32 1] 88)) hf3
          clear hf3
          have HR2 : Hid (RN w3 v3 R2) := by rw [hR2.out]; exact hide hv3
          have hb3' := bt (ba (Below.refl w2.heap.size w2) (Obj.cells #[Value.int IntKind.u32 1] 88)) hb3
          have HBB := hide (bt HB2.out hb3')
          have HO := hide (own_keep HOWN2.out hb3')
          clear hb3 hb3' hv3
          have HNF := hide hn3
          go_wp2_with fail
          obtain ⟨sg, hsg⟩ : ∃ sg, Hid (sg = Int.sign ((R2 : Int) - (n : Int))) := ⟨_, rfl⟩
          refine (compare_any R2 n _ _ _ HR2.out (HB.out.below HBB.out) SM2.out sg hsg).mono ?_
          rintro e w4 ⟨rfl, nd, hw4⟩
          have HR2 := rn_drewN HR2 hw4
          have HBB : Hid (Below w.heap.size w w4) := by rw [hw4]; exact hide (below_drewN HBB.out nd)
          have HO : Hid (w4.ownsRow w.heap.size 88 1 (.slice (some ⟨w.heap.size, 0, none⟩) l.length l.length) l.length (u32s Q)) := by rw [hw4]; exact hide (own_drewN HO.out nd)
          clear hw4
          by_cases hge : n ≤ R2
          · have hsp : (0 : Int) ≤ sg := by rw [hsg.out]; exact sign_ge hge
            have HGE := hide hge; clear hge
            go_wp2_with fail
            refine (less_any R2 n _ _ _ HR2.out (HB.out.below HBB.out) SM2.out HGE.out).mono ?_
            rintro e w5 ⟨v5, rfl, hv5, hb5, hf5⟩
            have hn5 := far_of HO.out hf5
            have HV5 := hide hv5; clear hv5
            have HO5 := hide (own_keep HO.out hb5)
            have HB5 := hide (bt HBB.out hb5); clear hb5
            have hd := div_digit hs.out hjl
            obtain ⟨o, ho⟩ : ∃ o, Hid (o = Q.getD (j / 32) 0) := ⟨_, rfl⟩
            have hoc := own_cell HO5.out hjl
            rw [← ho.out] at hoc hd
            have hof := HO5.out.frozenAt (j / 32)
            have hs32 : j % 32 < 32 := Nat.mod_lt _ (by decide)
            have hoB : o < B := by rw [ho.out]; exact hs.out.2.2.2.1.getD _
            have hfit := digit_fits hoB hs32 hd
            obtain ⟨d, hdd⟩ : ∃ d, Hid (d = o + 2 ^ (j % 32)) := ⟨_, rfl⟩
            rw [← hdd.out] at hfit
            clear hf5
            have HS : Hid (DivAt l (Q.set (j / 32) d) n j (R2 - n)) := hide (div_yes hs.out HR2E.out HGE.out hjl (by rw [hdd.out, ho.out]) hfit)
            have HOWN5 := hide (HO5.out.stored (j / 32) (.int .u32 d)).1
            rw [u32s_set] at HOWN5
            have HBL5 := hide (bs HB5.out (p := ⟨w.heap.size, j / 32, none⟩) (Nat.le_refl _) (.int .u32 d))
            have HRB := hide (HV5.out.set_far hn5 (j / 32) (.int .u32 d))
            have HORV : Hid (bits BinOp.or IntKind.u32 (o : Int) (2 ^ (j % 32) % 4294967296) = (d : Int)) := by
              have hp : 2 ^ (j % 32) < 4294967296 := by
                have := Nat.pow_lt_pow_right (show 1 < 2 by decide) hs32; rw [← B_two] at this; exact this
              have h1 := u32_or_nat o (2 ^ (j % 32)) hoB hp
              rw [or_bit hd, ← hdd.out] at h1
              rw [← h1]
              refine hide (congrArg (bits BinOp.or IntKind.u32 (o : Int)) ?_)
              rw [Int.natCast_pow]
              have hq : ((2 ^ (j % 32) : Nat) : Int) < 4294967296 := by omega
              rw [Int.natCast_pow] at hq
              have h0 : (0 : Int) ≤ ((2 ^ (j % 32) : Nat) : Int) := Int.natCast_nonneg _
              rw [Int.natCast_pow] at h0
              exact Int.emod_eq_of_lt h0 hq
            clear hd hs32 hoB hfit
            go_wp2_with fail
            go_region
            go_wp2_with fail
            go_roundw
            case rel => rw [HORV.out]; exact ⟨Q.set (j / 32) d, j, R2 - n, by go_num, by omega, HRB.out, hn5, HS, HOWN5.out, HBL5.out.drew⟩
            case measure => simp [intOf]
          · have hsn : sg < 0 := by rw [hsg.out, Int.sign_eq_neg_one_of_neg (by omega)]; decide
            have HS : Hid (DivAt l Q n j R2) := hide (div_no hs.out HR2E.out (by omega))
            clear hge
            go_wp2_with fail
            go_roundw
            case rel => exact ⟨Q, j, R2, by go_num, by omega, HR2.out, HNF.out, HS, HO.out, HBB.out⟩
            case measure => simp [intOf]
        · have hbit0 : x / 2 ^ (j % 32) % 2 = 0 := by omega
          have ht : (bits BinOp.and IntKind.u32 ((x : Int) / 2 ^ (j % 32)) 1 == 1) = false := by rw [hand, hbit0]; rfl
          obtain ⟨R2, hR2⟩ : ∃ z, Hid (z = r + r) := ⟨_, rfl⟩
          have HR2E : Hid (R2 = 2 * r + val l / 2 ^ j % 2) := hide (by rw [hbv, hbit0, hR2.out]; omega)
          have SM2 : Hid (Sm R2) := hide (sm_le (by rw [hR2.out]; omega) SR.out)
          clear hbv hxB hand hbit2 hbit hbit0 hlt32
          have HR2 : Hid (RN w2 v2 R2) := by rw [hR2.out]; exact HV2
          have HBB := HB2
          have HO := HOWN2
          have HNF := HN2
          go_wp2_with fail
          obtain ⟨sg, hsg⟩ : ∃ sg, Hid (sg = Int.sign ((R2 : Int) - (n : Int))) := ⟨_, rfl⟩
          refine (compare_any R2 n _ _ _ HR2.out (HB.out.below HBB.out) SM2.out sg hsg).mono ?_
          rintro e w4 ⟨rfl, nd, hw4⟩
          have HR2 := rn_drewN HR2 hw4
          have HBB : Hid (Below w.heap.size w w4) := by rw [hw4]; exact hide (below_drewN HBB.out nd)
          have HO : Hid (w4.ownsRow w.heap.size 88 1 (.slice (some ⟨w.heap.size, 0, none⟩) l.length l.length) l.length (u32s Q)) := by rw [hw4]; exact hide (own_drewN HO.out nd)
          clear hw4
          by_cases hge : n ≤ R2
          · have hsp : (0 : Int) ≤ sg := by rw [hsg.out]; exact sign_ge hge
            have HGE := hide hge; clear hge
            go_wp2_with fail
            refine (less_any R2 n _ _ _ HR2.out (HB.out.below HBB.out) SM2.out HGE.out).mono ?_
            rintro e w5 ⟨v5, rfl, hv5, hb5, hf5⟩
            have hn5 := far_of HO.out hf5
            have HV5 := hide hv5; clear hv5
            have HO5 := hide (own_keep HO.out hb5)
            have HB5 := hide (bt HBB.out hb5); clear hb5
            have hd := div_digit hs.out hjl
            obtain ⟨o, ho⟩ : ∃ o, Hid (o = Q.getD (j / 32) 0) := ⟨_, rfl⟩
            have hoc := own_cell HO5.out hjl
            rw [← ho.out] at hoc hd
            have hof := HO5.out.frozenAt (j / 32)
            have hs32 : j % 32 < 32 := Nat.mod_lt _ (by decide)
            have hoB : o < B := by rw [ho.out]; exact hs.out.2.2.2.1.getD _
            have hfit := digit_fits hoB hs32 hd
            obtain ⟨d, hdd⟩ : ∃ d, Hid (d = o + 2 ^ (j % 32)) := ⟨_, rfl⟩
            rw [← hdd.out] at hfit
            clear hf5
            have HS : Hid (DivAt l (Q.set (j / 32) d) n j (R2 - n)) := hide (div_yes hs.out HR2E.out HGE.out hjl (by rw [hdd.out, ho.out]) hfit)
            have HOWN5 := hide (HO5.out.stored (j / 32) (.int .u32 d)).1
            rw [u32s_set] at HOWN5
            have HBL5 := hide (bs HB5.out (p := ⟨w.heap.size, j / 32, none⟩) (Nat.le_refl _) (.int .u32 d))
            have HRB := hide (HV5.out.set_far hn5 (j / 32) (.int .u32 d))
            have HORV : Hid (bits BinOp.or IntKind.u32 (o : Int) (2 ^ (j % 32) % 4294967296) = (d : Int)) := by
              have hp : 2 ^ (j % 32) < 4294967296 := by
                have := Nat.pow_lt_pow_right (show 1 < 2 by decide) hs32; rw [← B_two] at this; exact this
              have h1 := u32_or_nat o (2 ^ (j % 32)) hoB hp
              rw [or_bit hd, ← hdd.out] at h1
              rw [← h1]
              refine hide (congrArg (bits BinOp.or IntKind.u32 (o : Int)) ?_)
              rw [Int.natCast_pow]
              have hq : ((2 ^ (j % 32) : Nat) : Int) < 4294967296 := by omega
              rw [Int.natCast_pow] at hq
              have h0 : (0 : Int) ≤ ((2 ^ (j % 32) : Nat) : Int) := Int.natCast_nonneg _
              rw [Int.natCast_pow] at h0
              exact Int.emod_eq_of_lt h0 hq
            clear hd hs32 hoB hfit
            go_wp2_with fail
            go_region
            go_wp2_with fail
            go_roundw
            case rel => rw [HORV.out]; exact ⟨Q.set (j / 32) d, j, R2 - n, by go_num, by omega, HRB.out, hn5, HS, HOWN5.out, HBL5.out.drew⟩
            case measure => simp [intOf]
          · have hsn : sg < 0 := by rw [hsg.out, Int.sign_eq_neg_one_of_neg (by omega)]; decide
            have HS : Hid (DivAt l Q n j R2) := hide (div_no hs.out HR2E.out (by omega))
            clear hge
            go_wp2_with fail
            go_roundw
            case rel => exact ⟨Q, j, R2, by go_num, by omega, HR2.out, HNF.out, HS, HO.out, HBB.out⟩
            case measure => simp [intOf]
theorem two_lt {l : List Nat} (h : Dig l) (h2 : l.length ≤ 2) : val l < B * B := by
  have h1 := val_lt h
  have h3 : B ^ l.length ≤ B ^ 2 := Nat.pow_le_pow_right (by decide) h2
  rw [Nat.pow_two] at h3; omega
theorem divided_any (a b : Nat) (va vb : Value) (w : World) (ha : RN w va a) (hb : RN w vb b) (sa : Hid (Sm a)) (sb : Hid (Sh b)) (hb0 : ¬ b = 0) : Calls Try.prog 118 #[va, vb] w (Ret2 w (a / b) (a % b)) := by
  have ha' := ha
  have hb' := hb
  obtain ⟨l, ao, ca, rfl, hl, rfl, da, _⟩ := ha
  obtain ⟨m, bo, cb, rfl, hm, rfl, db, hcb⟩ := hb
  by_cases h : l.length ≤ 2 ∧ m.length ≤ 2
  · exact divided_short _ _ _ _ w ha' hb' (hide (two_lt hl.1 h.1)) (hide (two_lt hm.1 h.2)) hb0
  · have h1 := sm_len hl sa.out
    exact divided_long l m ao bo ca cb w hl hm (by unfold K at h1; omega) (Nat.pos_of_ne_zero hb0) sb.out da db hcb h
theorem sh_mod {a b : Nat} (h : Hid (Sh a)) : Hid (Sh (a % b)) := hide (Nat.lt_of_le_of_lt (Nat.mod_le a b) h.out)
/-- the relation of divisor's loop -/
def DivRelS (w : World) (a b j : Nat) (x y : Value) (wr : World) : Prop := ∃ i : Nat, RN wr x i ∧ RN wr y j ∧ Sh i ∧ Sh j ∧ Nat.gcd i j = Nat.gcd a b ∧ Below w.heap.size w wr
set_option maxRecDepth 20000 in
set_option maxHeartbeats 1000000 in
theorem divisor_any (a b : Nat) (va vb : Value) (w : World) (ha : RN w va a) (hb : RN w vb b) (sa : Hid (Sh a)) (sb : Hid (Sh b)) : Calls Try.prog 117 #[va, vb] w (RetN w (Nat.gcd a b)) := by
  have HA := hide ha; clear ha
  have HB := hide hb; clear hb
  go_enter Try.func117, Try.ntmps117
  go_wp2
  go_loopg [0, 1] b (fun j x y wr => DivRelS w a b j x y wr)
  case atStart => exact ⟨a, HA.out, HB.out, sa.out, sb.out, rfl, Below.refl _ _⟩
  case round =>
    obtain ⟨i, hx, hy, hi, hj, hg, hbel⟩ := hrel
    obtain ⟨m, bo, cb, rfl, hm, hvm, db⟩ := hy
    by_cases hz : m = []
    · subst hz
      have hgk : gk = 0 := by rw [← hvm]; rfl
      have hx' := hx
      rw [show i = Nat.gcd a b by rw [← hg, hgk, Nat.gcd_zero_right]] at hx'
      have HX := hide hx'
      clear hx hx' hg hvm hgk
      go_wp2
      go_ret
      exact ⟨_, rfl, HX.out, hbel⟩
    · have hmp : (0 : Int) < (m.length : Int) := by have := List.length_pos_iff.2 hz; omega
      have hgk : ¬ gk = 0 := by have := val_pos hm hz; omega
      have hY : Hid (RN wr (.slice bo m.length cb) gk) := hide ⟨m, bo, cb, rfl, hm, hvm, db⟩
      have hX := hide hx
      have HI := hide hi
      have HJ := hide hj
      have HG := hide hg
      have HBel := hide hbel
      have HGK := hide hgk
      clear hx hi hj hg hbel hm hvm db hz hgk
      go_wp2_with fail
      refine (divided_any i gk _ _ _ hX.out hY.out (hide (sh_sm HI.out)) HJ HGK.out).mono ?_
      rintro e w1 ⟨u, v, rfl, hu, hv, hb1⟩
      have HU := hide hv; clear hu hv
      have HB1 := hide hb1; clear hb1
      go_wp2_with fail
      go_roundg (i % gk)
      case measure => exact Nat.mod_lt _ (Nat.pos_of_ne_zero HGK.out)
      case rel => exact ⟨gk, hY.out.below HB1.out, HU.out, HJ.out, (sh_mod HI).out, by rw [← HG.out, Nat.gcd_comm gk, ← Nat.gcd_rec, Nat.gcd_comm], bt HBel.out HB1.out⟩
end Go.Proofs.Ytpgnbjlpkpmpcaa.R
