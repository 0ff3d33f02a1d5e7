/- FirstFit, of the reference. -/
import Derived.Test.YtgkonocjafoblaaVi
import Derived.Deep.Cut
import Derived.Deep.AppendLies
set_option linter.unusedVariables false
namespace Go.Proofs.Ytgkonocjafoblaa
open Go Go.RowKit Go.Ab
/-- chosen within the first k -/
def chB (p : Nat → Nat) : Nat → Nat → Bool
  | 0, _ => false
  | k + 1, q => chB p k q || decide (p k = q)
theorem chB_iff {p : Nat → Nat} {q : Nat} : ∀ {k : Nat}, chB p k q = true ↔ ∃ b, b < k ∧ p b = q
  | 0 => by simp [chB]
  | k + 1 => by
    unfold chB
    rw [Bool.or_eq_true, chB_iff (k := k), decide_eq_true_eq]
    constructor
    · rintro (⟨b, h1, h2⟩ | h)
      · exact ⟨b, by omega, h2⟩
      · exact ⟨k, by omega, h⟩
    · rintro ⟨b, h1, h2⟩
      by_cases e : b = k
      · subst e; exact .inr h2
      · exact .inl ⟨b, by omega, h2⟩
def ovI (x p : Nat → Nat) (N k i : Nat) : Int := if chB p k i then ((ffs x p N k).o i : Int) else -1
theorem ovI_yes {x p : Nat → Nat} {N k i : Nat} (h : chB p k i = true) : ovI x p N k i = ((ffs x p N k).o i : Int) := by unfold ovI; rw [h]; rfl
theorem ovI_no {x p : Nat → Nat} {N k i : Nat} (h : chB p k i = false) : ovI x p N k i = -1 := by unfold ovI; rw [h]; rfl
/-- the pick of the first i: none, or the first of those not chosen -/
def Sel (x p : Nat → Nat) (k i : Nat) (t : Int) : Prop := (t = -1 ∧ ∀ q, q < i → chB p k q = true) ∨ ∃ q, q < i ∧ t = (q : Int) ∧ chB p k q = false ∧ ∀ r, r < i → chB p k r = false → r ≠ q → Bf x q r
theorem sel_done {x p : Nat → Nat} {l k : Nat} {t : Int} (hp : Ord x p l) (hk : k < l) (h : Sel x p k l t) : t = (p k : Int) := by
  have hpk := hp.lt k hk
  have inj : ∀ a b, a < l → b < l → p a = p b → a = b := fun a b ha hb e => by
    rcases Nat.lt_trichotomy a b with h1 | h1 | h1
    · have := hp.bf a b h1 hb; rw [e] at this; unfold Bf at this; omega
    · exact h1
    · have := hp.bf b a h1 ha; rw [e] at this; unfold Bf at this; omega
  have hnk : chB p k (p k) = false := by
    cases e : chB p k (p k) with
    | false => rfl
    | true => obtain ⟨b, h1, h2⟩ := chB_iff.1 e; have := inj b k (by omega) hk h2; omega
  rcases h with ⟨_, h⟩ | ⟨q, hq, rfl, hc, hb⟩
  · have := h (p k) hpk; rw [hnk] at this; cases this
  · by_cases e : p k = q
    · rw [e]
    · obtain ⟨b, hbl, rfl⟩ := hp.all q hq
      have h1 := hb (p k) hpk hnk e
      have hkb : k < b := by
        rcases Nat.lt_trichotomy b k with h2 | h2 | h2
        · exact absurd (chB_iff.2 ⟨b, h2, rfl⟩) (by rw [hc]; simp)
        · exact absurd (by rw [h2]) e
        · exact h2
      have h2 := hp.bf k b hkb hbl
      unfold Bf at h1 h2
      omega
theorem sel_skip {x p : Nat → Nat} {k i : Nat} {t : Int} (h : Sel x p k i t) (hc : chB p k i = true) : Sel x p k (i + 1) t := by
  rcases h with ⟨h0, h⟩ | ⟨q, hq, h0, h1, hb⟩
  · exact .inl ⟨h0, fun q hq => by
      by_cases e : q = i
      · rw [e]; exact hc
      · exact h q (by omega)⟩
  · exact .inr ⟨q, by omega, h0, h1, fun r hr h2 h3 => by
      by_cases e : r = i
      · rw [e, hc] at h2; cases h2
      · exact hb r (by omega) h2 h3⟩
theorem sel_first {x p : Nat → Nat} {k i : Nat} (h : ∀ q, q < i → chB p k q = true) (hc : chB p k i = false) : Sel x p k (i + 1) (i : Int) :=
  .inr ⟨i, by omega, rfl, hc, fun r hr h2 h3 => by have := h r (by omega); rw [h2] at this; cases this⟩
theorem sel_take {x p : Nat → Nat} {k i q : Nat} (hq : q < i) (hb : ∀ r, r < i → chB p k r = false → r ≠ q → Bf x q r) (hc : chB p k i = false) (h : x q < x i) : Sel x p k (i + 1) (i : Int) :=
  .inr ⟨i, by omega, rfl, hc, fun r hr h2 h3 => by
    by_cases e : r = q
    · subst e; exact .inl h
    · have := hb r (by omega) h2 e; unfold Bf at *; omega⟩
theorem sel_keep {x p : Nat → Nat} {k i q : Nat} (hq : q < i) (h1 : chB p k q = false) (hb : ∀ r, r < i → chB p k r = false → r ≠ q → Bf x q r) (h : ¬ x q < x i) : Sel x p k (i + 1) (q : Int) :=
  .inr ⟨q, by omega, rfl, h1, fun r hr h2 h3 => by
    by_cases e : r = i
    · subst e; unfold Bf; omega
    · exact hb r (by omega) h2 h3⟩
theorem St.belowB {w w' : World} {B : Nat} {a : Option Addr} {l N : Nat} {f : Nat → Int} {x : Nat → Nat} (h : St w a l N f x) (hb : Below B w w') (h3 : ∀ b off, a = some ⟨b, off, none⟩ → b < B) : St w' a l N f x :=
  ⟨by
      rcases h.s with e | ⟨b, off, e, hc⟩
      · exact .inl e
      · exact .inr ⟨b, off, e, fun i hi => ⟨by rw [hb.cell (h3 b off e)]; exact (hc i hi).1, (hc i hi).2⟩⟩, h.e, h.b, h.n, h.hl⟩
set_option maxRecDepth 20000 in
set_option maxHeartbeats 4000000 in
theorem rfirstFit_ok (N l c : Nat) (a : Option Addr) (f : Nat → Int) (x p : Nat → Nat) (w : World) (HS : Hid (St w a l N f x)) (HB : Hid (stB N f l = true)) (HP : Hid (Ord x p l)) :
    Calls Try.prog 60 #[.int .i64 N, .slice a l c] w fun e w' => ∃ C, e = .returned (.tuple #[.slice (some ⟨C, 0, none⟩) l l, .int .i64 0]) ∧ (∀ i, i < l → w'.cell? ⟨C, i, none⟩ = some (.int .i64 ((ffs x p N l).o i : Int))) ∧ Below w.heap.size w w' := by
  have hn1 := HS.out.n.1
  have hn2 := HS.out.n.2
  have hl := HS.out.hl
  have hml : l ≤ maxLen := by unfold maxLen; omega
  obtain ⟨i3, hi3, hz3, hs3, hb3⟩ := info_parts Try.info3
  have hmk : ∀ w, (Instr.makeSlice 57 (.int .i64 (l : Int)) (.int .i64 (l : Int))).run Try.prog w = .ok (.slice (some ⟨w.heap.size, 0, none⟩) l l) (w.alloc (.cells (madeCells #[.int .i64 0] l) 3)) := fun w => run_make_row' 57 3 _ 8 Try.underlying57 Try.info3 rfl .i64 .i64 l (by omega) (by omega) w
  have b1 : Below w.heap.size w (w.alloc (.cells (madeCells #[.int .i64 0] l) 3)) := (Below.refl _ _).alloc (Nat.le_refl _) _
  have HS1 := hide (HS.out.below b1)
  have R1 := hide (World.rowIs_made w (.int .i64 0) l 3)
  have hz1 : (w.alloc (.cells (madeCells #[.int .i64 0] l) 3)).heap.size = w.heap.size + 1 := by simp
  have B1 := hide b1
  have HZ1 := hide hz1
  clear b1 hz1
  go_enter Try.func60, Try.ntmps60
  go_wp2_with (go_at_call 63; (with_reducible refine (rstrips_is N a l c f _ HS.out.s hml).mono ?_); rintro e w1 ⟨rfl, rfl⟩; rw [HB.out])
  obtain ⟨C, eC⟩ : ∃ C, Hid (C = w.heap.size) := ⟨_, hide rfl⟩
  rw [← eC.out] at R1 HZ1 B1 ⊢
  generalize w.alloc (.cells (madeCells #[.int .i64 0] l) 3) = w1 at *
  clear hmk
  go_loopw [22] (fun i wr => ∃ (wq : World) (k : Nat), wq = wr ∧ k ≤ l ∧ i = .int .i64 (k : Int) ∧ wr.rowIs C 3 l (fun i => if i < k then .int .i64 (-1) else .int .i64 0) ∧ Below C w1 wr ∧ C + 1 ≤ wr.heap.size) (fun i _ => l - (intOf i).toNat)
  case atStart => exact ⟨_, 0, rfl, Nat.zero_le _, rfl, R1.out.congr fun i hi => by rw [if_neg (by omega)], Below.refl _ _, by rw [HZ1.out]; exact Nat.le_refl _⟩
  case round =>
    clear R1
    obtain ⟨wr, k, rfl, hk, rfl, hr, hb, hz⟩ := hrel
    have HR := hide hr
    have HBr := hide hb
    have HZ := hide hz
    clear hr hb hz
    by_cases hlt : k < l
    · have cC : wr.cell? ⟨C, k, none⟩ = some (.int .i64 0) := by have := HR.out.cell hlt; rw [if_neg (by omega)] at this; exact this
      have fC := HR.out.frozen k
      have HR2 : Hid ((wr.setCell ⟨C, k, none⟩ (.int .i64 (-1))).rowIs C 3 l (fun i => if i < k + 1 then .int .i64 (-1) else .int .i64 0)) := hide ((HR.out.set k _).congr fun i hi => by
        by_cases e : i = k
        · subst e; rw [if_pos rfl, if_pos (by omega)]
        · rw [if_neg e]
          by_cases e2 : i < k
          · rw [if_pos e2, if_pos (by omega)]
          · rw [if_neg e2, if_neg (by omega)])
      have HB2 := hide (HBr.out.setCell (p := ⟨C, k, none⟩) (Nat.le_refl C) (.int .i64 (-1)))
      have HZ2 : Hid (C + 1 ≤ (wr.setCell ⟨C, k, none⟩ (.int .i64 (-1))).heap.size) := hide (by simpa using HZ.out)
      clear HR HBr HZ
      go_wp2_with fail
      go_roundw
      case rel => exact ⟨_, k + 1, rfl, by omega, by go_num, HR2.out, HB2.out, HZ2.out⟩
      case measure => simp [intOf]; omega
    · obtain rfl : k = l := by omega
      have HR0 : Hid (wr.rowIs C 3 k (fun i => .int .i64 (ovI x p N 0 i))) := hide (HR.out.congr fun i hi => by rw [if_pos hi]; rfl)
      have O0 : Hid (wr.ownsRow (C + 1) 3 1 (.slice none 0 0) 0 (nts (ffs x p N 0).u 0)) := hide ⟨rfl, .inl ⟨rfl, rfl⟩⟩
      clear HR
      go_wp2_with fail
      go_loopw [8, 31] (fun v i wx => ∃ (v8 : Value) (wq : World) (j : Nat), v8 = v ∧ wq = wx ∧ j ≤ k ∧ i = .int .i64 (j : Int) ∧ wx.ownsRow (C + 1) 3 1 v (ffs x p N j).m (nts (ffs x p N j).u (ffs x p N j).m) ∧ wx.rowIs C 3 k (fun i => .int .i64 (ovI x p N j i)) ∧ Below C w1 wx ∧ C + 1 ≤ wx.heap.size) (fun _ i _ => k - (intOf i).toNat)
      case atStart => exact ⟨_, _, 0, rfl, rfl, Nat.zero_le _, rfl, O0.out, HR0.out, HBr.out, HZ.out⟩
      case round =>
        clear O0 HR0 HBr HZ
        obtain ⟨v8, wx, j, rfl, rfl, hj, rfl, ho, hr, hb, hz⟩ := hrel
        have HO := hide ho
        have HR := hide hr
        have HBx := hide hb
        have HZ := hide hz
        clear ho hr hb hz
        by_cases hlt : j < k
        · have h3 : ∀ b off, a = some ⟨b, off, none⟩ → b < C := fun b off e => by rw [eC.out]; exact HS.out.lt (by omega) b off e
          have HSx := hide (HS1.out.belowB HBx.out h3)
          go_wp2_with fail
          go_loop [35, 9] (fun i t => ∃ (q : Nat) (T : Int), q ≤ k ∧ i = .int .i64 (q : Int) ∧ t = .int .i64 T ∧ Hid (Sel x p j q T)) (fun i _ => k - (intOf i).toNat)
          case atStart => exact ⟨0, -1, Nat.zero_le _, rfl, rfl, hide (.inl ⟨rfl, fun q h => by omega⟩)⟩
          case round =>
            obtain ⟨q, T, hq, rfl, rfl, HSl⟩ := hrel
            by_cases hlq : q < k
            · obtain ⟨b0, o0, ea, cx, x1, x2⟩ := HSx.out.at hlq
              subst ea
              have cq := HR.out.cell hlq
              obtain ⟨X, eX⟩ : ∃ X, Hid (X = x q) := ⟨_, hide rfl⟩
              rw [← eX.out] at cx x1 x2
              cases hc : chB p j q with
              | true =>
                rw [ovI_yes hc] at cq
                obtain ⟨V, eV⟩ : ∃ V, Hid (V = (ffs x p N j).o q) := ⟨_, hide rfl⟩
                rw [← eV.out] at cq
                have HN := hide (sel_skip HSl.out hc)
                clear hc
                go_wp2_with fail
                go_round
                case rel => exact ⟨q + 1, T, by omega, by go_num, rfl, HN⟩
                case measure => simp [intOf]; omega
              | false =>
                rw [ovI_no hc] at cq
                rcases HSl.out with ⟨h0, h1⟩ | ⟨r, hr, h0, h1, hb⟩
                · subst h0
                  have HN := hide (sel_first (x := x) h1 hc)
                  clear hc h1
                  go_wp2_with fail
                  go_round
                  case rel => exact ⟨q + 1, _, by omega, by go_num, rfl, HN⟩
                  case measure => simp [intOf]; omega
                · subst h0
                  obtain ⟨b1, o1, ea, cr, r1, r2⟩ := HSx.out.at (show r < k by omega)
                  injection ea with ea
                  injection ea with e1 e2
                  subst e1 e2
                  obtain ⟨Y, eY⟩ : ∃ Y, Hid (Y = x r) := ⟨_, hide rfl⟩
                  rw [← eY.out] at cr r1 r2
                  by_cases hXY : Y < X
                  · have HN := hide (sel_take hr hb hc (by rw [← eX.out, ← eY.out]; exact hXY))
                    clear hc h1 hb
                    go_wp2_with fail
                    go_round
                    case rel => exact ⟨q + 1, _, by omega, by go_num, rfl, HN⟩
                    case measure => simp [intOf]; omega
                  · have HN := hide (sel_keep (x := x) hr h1 hb (by rw [← eX.out, ← eY.out]; exact hXY))
                    clear hc h1 hb
                    go_wp2_with fail
                    go_round
                    case rel => exact ⟨q + 1, _, by omega, by go_num, rfl, HN⟩
                    case measure => simp [intOf]; omega
            · obtain rfl : q = k := by omega
              have hT := sel_done HP.out hlt HSl.out
              subst hT
              clear HSl
              have hok := ffs_ok (x := x) (p := p) (N := N) (k := j) (fun i hi => (HS.out.b (p i) (HP.out.lt i (by omega))).2)
              obtain ⟨S, eS⟩ : ∃ S, Hid (S = ffs x p N j) := ⟨_, hide rfl⟩
              obtain ⟨I, eI⟩ : ∃ I, Hid (I = p j) := ⟨_, hide rfl⟩
              rw [← eS.out] at hok
              rw [← eI.out]
              have HK := hide hok
              clear hok
              obtain ⟨M, eM⟩ : ∃ M, Hid (M = S.m) := ⟨_, hide rfl⟩
              obtain ⟨G, eG⟩ : ∃ G, Hid (G = fit S.u N (x I) M) := ⟨_, hide rfl⟩
              have HN : Hid (ffs x p N (j + 1) = ⟨if G < M then M else M + 1, fun c => if c = G then S.u c + x I else S.u c, fun i => if i = I then G else S.o i⟩) := hide (by rw [eG.out, eI.out, eM.out, eS.out]; rfl)
              have hI : I < q := by rw [eI.out]; exact HP.out.lt j hlt
              have hM : M ≤ j := by rw [eM.out]; exact HK.out.m
              have HF := fit_spec S.u N (x I) M
              rw [← eG.out] at HF
              have hGM := HF.1
              have HF1 := hide HF.2.1
              have hGN : Hid (S.u G + x I ≤ N) := hide (by
                by_cases e : G < M
                · exact HF.2.2 e
                · rw [HK.out.z G (by rw [← eM.out]; omega), Nat.zero_add]; exact (HS.out.b I hI).2)
              clear HF
              have hch2 : chB p (j + 1) I = true := chB_iff.2 ⟨j, by omega, by rw [eI.out]⟩
              have hch : chB p j I = false := by
                cases e : chB p j I with
                | false => rfl
                | true =>
                  obtain ⟨b, h1, h2⟩ := chB_iff.1 e
                  have := HP.out.bf b j h1 hlt
                  rw [h2, eI.out] at this
                  unfold Bf at this; omega
              have HC1 := hide hch
              have HC2 := hide hch2
              clear hch hch2
              obtain ⟨X, eX⟩ : ∃ X, Hid (X = x I) := ⟨_, hide rfl⟩
              obtain ⟨T, eT⟩ : ∃ T, Hid (T = S.u G) := ⟨_, hide rfl⟩
              obtain ⟨D, eD⟩ : ∃ D, Hid (D = T + X) := ⟨_, hide rfl⟩
              have hTX : T + X ≤ N := by rw [eX.out, eT.out]; exact hGN.out
              have hTD : (T : Int) + (X : Int) = (D : Int) := by rw [eD.out]; omega
              go_wp2_with fail
              go_loopw [8, 12] (fun v i wy => ∃ (v9 : Value) (wq : World) (b j' : Nat), v9 = v ∧ wq = wy ∧ i = .int .i64 (b : Int) ∧ ((j' = j ∧ b ≤ G) ∨ (j' = j + 1 ∧ b = G + 1)) ∧ wy.ownsRow (C + 1) 3 1 v (ffs x p N j').m (nts (ffs x p N j').u (ffs x p N j').m) ∧ wy.rowIs C 3 q (fun i => .int .i64 (ovI x p N j' i)) ∧ Below C w1 wy ∧ C + 1 ≤ wy.heap.size) (fun _ i _ => G + 2 - (intOf i).toNat)
              case atStart => exact ⟨_, _, 0, j, rfl, rfl, rfl, .inl ⟨rfl, Nat.zero_le _⟩, HO.out, HR.out, HBx.out, HZ.out⟩
              case round =>
                clear HO HR HBx HZ HSx
                obtain ⟨v9, wy, b, j', rfl, rfl, rfl, hph, ho, hr, hb, hz⟩ := hrel
                have HRw := hide hr
                have HBw := hide hb
                have HZw := hide hz
                have HSw := hide (HS1.out.belowB hb h3)
                rcases hph with ⟨hjj, hbG⟩ | ⟨rfl, rfl⟩
                · rw [hjj] at ho HRw
                  clear hr
                  have HOw : Hid (wy.ownsRow (C + 1) 3 1 v9 M (nts S.u M)) := hide (by rw [eM.out, eS.out]; exact ho)
                  clear ho hb hz hjj
                  have hch := HC1.out
                  have hch2 := HC2.out
                  by_cases hbM : b < M
                  · obtain ⟨g7, cr, rfl, hne, HT⟩ : ∃ g7 cr, v9 = .slice (some ⟨g7, 0, none⟩) M cr ∧ Hid (C + 1 ≤ g7) ∧ Hid (Rw wy g7 M cr S.u) := by
                      rcases rw_of_owns HOw.out with ⟨_, h2⟩ | h
                      · omega
                      · exact h
                    by_cases hbG2 : b < G
                    · obtain ⟨U, eU⟩ : ∃ U, Hid (U = S.u b) := ⟨_, hide rfl⟩
                      have hUN : U ≤ N := by rw [eU.out]; exact HK.out.u b
                      have hno : N < U + X := by rw [eU.out, eX.out]; exact HF1.out b hbG2
                      have c7 : wy.cell? ⟨g7, b, none⟩ = some (.int .i64 (U : Int)) := by rw [eU.out]; exact HT.out.cell hbM
                      have cb := HRw.out.cell hI
                      rw [ovI_no hch] at cb
                      obtain ⟨b0, o0, ea, cx, x1, x2⟩ := HSw.out.at hI
                      subst ea
                      rw [← eX.out] at cx x1 x2
                      go_wp2_with fail
                      refine wp_region_quiet_lit (by kernel_rfl) (by kernel_rfl) ?_
                      repeat (go_big_quiet_step (fail))
                      refine wpQuiet_nil ?_
                      intro w8 hw8
                      obtain ⟨n8, rfl⟩ := hw8
                      have HO8 : Hid ((wy.drewN n8).ownsRow (C + 1) 3 1 (.slice (some ⟨g7, 0, none⟩) M cr) (ffs x p N j).m (nts (ffs x p N j).u (ffs x p N j).m)) := hide (by rw [← eS.out, ← eM.out]; exact owns_of_rw (HT.out.lk ((Lk.refl wy).drewN n8)) hne.out)
                      have HR8 : Hid ((wy.drewN n8).rowIs C 3 q (fun i => .int .i64 (ovI x p N j i))) := hide (World.rowIs.of_block HRw.out rfl)
                      have HB8 := hide (((Lk.refl wy).drewN n8).below HBw.out)
                      have HZ8 : Hid (C + 1 ≤ (wy.drewN n8).heap.size) := hide HZw.out
                      clear HT HRw HBw HZw cb HSw HOw c7 cx
                      go_wp2_with fail
                      go_roundw
                      case rel => exact ⟨_, _, b + 1, j, rfl, rfl, by go_num, .inl ⟨rfl, by omega⟩, HO8.out, HR8.out, HB8.out, HZ8.out⟩
                      case measure => simp [intOf]; omega
                    · have hbe : G = b := by omega
                      subst hbe
                      have hGm := hbM
                      have HM : Hid ((ffs x p N (j + 1)).m = M) := hide (by rw [HN.out]; dsimp only; rw [if_pos hbM])
                      clear HOw
                      have c7 : wy.cell? ⟨g7, G, none⟩ = some (.int .i64 (T : Int)) := by rw [eT.out]; exact HT.out.cell hGm
                      have cb := HRw.out.cell hI
                      rw [ovI_no hch] at cb
                      obtain ⟨b0, o0, ea, cx, x1, x2⟩ := HSw.out.at hI
                      subst ea
                      rw [← eX.out] at cx x1 x2
                      have hfit : (T : Int) + (X : Int) ≤ (N : Int) := by omega
                      go_wp2_with fail
                      refine wp_region_quiet_lit (by kernel_rfl) (by kernel_rfl) ?_
                      repeat (go_big_quiet_step (fail))
                      refine wpQuiet_nil ?_
                      intro w8 hw8
                      obtain ⟨n8, rfl⟩ := hw8
                      have HT8 := hide (HT.out.lk ((Lk.refl wy).drewN n8))
                      have HR8 : Hid ((wy.drewN n8).rowIs C 3 q (fun i => .int .i64 (ovI x p N j i))) := hide (World.rowIs.of_block HRw.out rfl)
                      have HB8 := hide (((Lk.refl wy).drewN n8).below HBw.out)
                      have HZ8 : Hid (C + 1 ≤ (wy.drewN n8).heap.size) := hide HZw.out
                      have c7 : (wy.drewN n8).cell? ⟨g7, G, none⟩ = some (.int .i64 (T : Int)) := c7
                      have cx : (wy.drewN n8).cell? ⟨b0, o0 + I, none⟩ = some (.int .i64 (X : Int)) := cx
                      clear HT HRw HBw HZw cb HSw
                      generalize wy.drewN n8 = wv at *
                      go_wp2_with fail
                      refine wp_region_tail_lit rfl (by kernel_rfl) (by kernel_rfl) (by kernel_rfl) ?_
                      dsimp only [List.dropLast]
                      repeat (go_big_quiet_step (fail))
                      refine wpQuiet_nil ?_
                      intro w9 hw9
                      obtain ⟨nq, rfl⟩ := hw9
                      have c7' : (wv.drewN nq).cell? ⟨g7, G, none⟩ = some (.int .i64 (T : Int)) := c7
                      have f7' : (wv.drewN nq).frozen? ⟨g7, G, none⟩ = false := HT8.out.frozen G
                      have HR2 : Hid (((wv.drewN nq).setCell ⟨g7, G, none⟩ (.int .i64 (D : Int))).rowIs C 3 q (fun i => .int .i64 (ovI x p N j i))) := hide (World.rowIs.setOther (World.rowIs.of_block HR8.out rfl) (show C ≠ g7 by have := hne.out; omega) _)
                      have cC := HR2.out.cell hI
                      have fC := HR2.out.frozen I
                      have HT3 : Hid (Rw ((wv.drewN nq).setCell ⟨g7, G, none⟩ (.int .i64 (D : Int))) g7 M cr (fun b => if b = G then D else S.u b)) := hide ((HT8.out.lk ((Lk.refl wv).drewN nq)).set G D)
                      have HO4 : Hid ((((wv.drewN nq).setCell ⟨g7, G, none⟩ (.int .i64 (D : Int))).setCell ⟨C, I, none⟩ (.int .i64 (G : Int))).ownsRow (C + 1) 3 1 (.slice (some ⟨g7, 0, none⟩) M cr) (ffs x p N (j + 1)).m (nts (ffs x p N (j + 1)).u (ffs x p N (j + 1)).m)) := hide (by
                        rw [HM.out]
                        refine owns_of_rw ((HT3.out.kept (heap_setCell_other _ _ _ _ (fun e => by have := hne.out; simp at e; omega))).ext fun b hb => ?_) hne.out
                        rw [HN.out]
                        dsimp only
                        by_cases e : b = G
                        · subst e; rw [if_pos rfl, if_pos rfl, eD.out, eT.out, eX.out]
                        · rw [if_neg e, if_neg e])
                      have HR4 : Hid ((((wv.drewN nq).setCell ⟨g7, G, none⟩ (.int .i64 (D : Int))).setCell ⟨C, I, none⟩ (.int .i64 (G : Int))).rowIs C 3 q (fun i => .int .i64 (ovI x p N (j + 1) i))) := hide ((HR2.out.set I _).congr fun i hi => by
                        by_cases e : i = I
                        · rw [if_pos e, ovI_yes (by rw [e]; exact hch2), HN.out]; dsimp only; rw [if_pos e]
                        · rw [if_neg e]
                          cases hc : chB p j i with
                          | true => rw [ovI_yes hc, ovI_yes (by unfold chB; rw [hc]; rfl), HN.out]; dsimp only; rw [if_neg e, eS.out]
                          | false => rw [ovI_no hc, ovI_no (by unfold chB; rw [hc, decide_eq_false (fun h => e (by rw [eI.out]; exact h.symm))]; rfl)])
                      have HB4 : Hid (Below C w1 (((wv.drewN nq).setCell ⟨g7, G, none⟩ (.int .i64 (D : Int))).setCell ⟨C, I, none⟩ (.int .i64 (G : Int)))) := hide (((((Lk.refl wv).drewN nq).below HB8.out).setCell (p := ⟨g7, G, none⟩) (show C ≤ g7 by have := hne.out; omega) _).setCell (p := ⟨C, I, none⟩) (Nat.le_refl C) _)
                      have HZ4 : Hid (C + 1 ≤ (((wv.drewN nq).setCell ⟨g7, G, none⟩ (.int .i64 (D : Int))).setCell ⟨C, I, none⟩ (.int .i64 (G : Int))).heap.size) := hide (by simpa using HZ8.out)
                      clear HT8 HR8 HB8 HZ8 HT3 HR2 c7 cx
                      go_wp2_with fail
                      go_roundw
                      case rel => exact ⟨_, _, G + 1, j + 1, rfl, rfl, by go_num, .inr ⟨rfl, rfl⟩, HO4.out, HR4.out, HB4.out, HZ4.out⟩
                      case measure => simp [intOf]
                  · have hbe : G = b := by omega
                    subst hbe
                    have hme : G = M := by omega
                    subst hme
                    obtain ⟨ar, cr, hv⟩ : ∃ ar cr, v9 = .slice ar G cr := by
                      rcases rw_of_owns HOw.out with ⟨h1, h2⟩ | ⟨g7, cr, h1, _⟩
                      · exact ⟨none, 0, by rw [h1, h2]⟩
                      · exact ⟨_, cr, h1⟩
                    have HL : Hid (∀ g7, v9.ownBlock = some g7 → C + 1 ≤ g7) := hide (fun g7 e => (HOw.out.lt g7 e).1)
                    subst hv
                    have cb := HRw.out.cell hI
                    rw [ovI_no hch] at cb
                    go_upto_region 23 with fail
                    generalize (Value.slice ar G cr) = v8 at HOw HL ⊢
                    go_wp2_with (at_builtin; refine wpList_append_lies _ rfl _ _ 57 rfl (C + 1) 3 i3 (.int .i64 0) 1 8 Try.underlying57 hi3 hz3 hs3 hb3 rfl (by decide) _ _ _ rfl (HOw.out.alloc _) ⟨wy.heap.size, 0, none⟩ 1 1 [.int .i64 0] rfl rfl ?d1 ?d2 ?d3 ?d4 ?d5 ?d6 _ rfl ?_)
                    case d1 => exact news_one wy _ _
                    case d2 => intro u hu; simp at hu; subst hu; rfl
                    case d3 => omega
                    case d4 => unfold maxLen; omega
                    case d5 => omega
                    case d6 => simp; have := HZw.out; omega
                    intro g7 cr7 w7 hown hgrow hnew _
                    have hz : S.u G = 0 := HK.out.z G (by rw [← eM.out]; exact Nat.le_refl _)
                    have hrw : Rw w7 g7 (G + 1) cr7 S.u ∧ C + 1 ≤ g7 := by
                      have h2 : w7.ownsRow (C + 1) 3 1 (.slice (some ⟨g7, 0, none⟩) (G + 1) cr7) (G + 1) (nts S.u (G + 1)) := by
                        rw [nts_succ, hz]; exact hown
                      rcases rw_of_owns h2 with ⟨h, _⟩ | ⟨g', c', h, hb, hr⟩
                      · simp at h
                      · simp only [Value.slice.injEq, Option.some.injEq, Addr.mk.injEq, and_true, true_and] at h
                        obtain ⟨rfl, rfl⟩ := h
                        exact ⟨hr, hb⟩
                    have HT := hide hrw.1
                    have hne : Hid (C + 1 ≤ g7) := hide hrw.2
                    have bw : Below (C + 1) wy w7 := ((Below.refl (C + 1) wy).alloc HZw.out (.cells #[.int .i64 0] 3)).grown hgrow (by simp; have := HZw.out; omega) (fun q hq => HL.out q hq)
                    have HSw := hide (HSw.out.belowB bw (fun b off e => by have := h3 b off e; omega))
                    have HRw := hide (HRw.out.of_block (bw.block C (by omega)))
                    have HBw := hide (HBw.out.trans (bw.mono (by omega)))
                    have HZw : Hid (C + 1 ≤ w7.heap.size) := hide (Nat.le_trans HZw.out bw.size)
                    have HM : Hid ((ffs x p N (j + 1)).m = G + 1) := hide (by rw [HN.out]; dsimp only; rw [if_neg (by omega)])
                    have hGm : G < G + 1 := by omega
                    clear hrw hown hgrow hnew bw HOw HL hz cb
                    have c7 : w7.cell? ⟨g7, G, none⟩ = some (.int .i64 (T : Int)) := by rw [eT.out]; exact HT.out.cell hGm
                    have cb := HRw.out.cell hI
                    rw [ovI_no hch] at cb
                    obtain ⟨b0, o0, ea, cx, x1, x2⟩ := HSw.out.at hI
                    subst ea
                    rw [← eX.out] at cx x1 x2
                    have hfit : (T : Int) + (X : Int) ≤ (N : Int) := by omega
                    go_wp2_with fail
                    refine wp_region_quiet_lit (by kernel_rfl) (by kernel_rfl) ?_
                    repeat (go_big_quiet_step (fail))
                    refine wpQuiet_nil ?_
                    intro w8 hw8
                    obtain ⟨n8, rfl⟩ := hw8
                    have HT8 := hide (HT.out.lk ((Lk.refl w7).drewN n8))
                    have HR8 : Hid ((w7.drewN n8).rowIs C 3 q (fun i => .int .i64 (ovI x p N j i))) := hide (World.rowIs.of_block HRw.out rfl)
                    have HB8 := hide (((Lk.refl w7).drewN n8).below HBw.out)
                    have HZ8 : Hid (C + 1 ≤ (w7.drewN n8).heap.size) := hide HZw.out
                    have c7 : (w7.drewN n8).cell? ⟨g7, G, none⟩ = some (.int .i64 (T : Int)) := c7
                    have cx : (w7.drewN n8).cell? ⟨b0, o0 + I, none⟩ = some (.int .i64 (X : Int)) := cx
                    clear HT HRw HBw HZw cb HSw
                    generalize w7.drewN n8 = wv at *
                    go_wp2_with fail
                    refine wp_region_tail_lit rfl (by kernel_rfl) (by kernel_rfl) (by kernel_rfl) ?_
                    dsimp only [List.dropLast]
                    repeat (go_big_quiet_step (fail))
                    refine wpQuiet_nil ?_
                    intro w9 hw9
                    obtain ⟨nq, rfl⟩ := hw9
                    have c7' : (wv.drewN nq).cell? ⟨g7, G, none⟩ = some (.int .i64 (T : Int)) := c7
                    have f7' : (wv.drewN nq).frozen? ⟨g7, G, none⟩ = false := HT8.out.frozen G
                    have HR2 : Hid (((wv.drewN nq).setCell ⟨g7, G, none⟩ (.int .i64 (D : Int))).rowIs C 3 q (fun i => .int .i64 (ovI x p N j i))) := hide (World.rowIs.setOther (World.rowIs.of_block HR8.out rfl) (show C ≠ g7 by have := hne.out; omega) _)
                    have cC := HR2.out.cell hI
                    have fC := HR2.out.frozen I
                    have HT3 : Hid (Rw ((wv.drewN nq).setCell ⟨g7, G, none⟩ (.int .i64 (D : Int))) g7 (G + 1) cr7 (fun b => if b = G then D else S.u b)) := hide ((HT8.out.lk ((Lk.refl wv).drewN nq)).set G D)
                    have HO4 : Hid ((((wv.drewN nq).setCell ⟨g7, G, none⟩ (.int .i64 (D : Int))).setCell ⟨C, I, none⟩ (.int .i64 (G : Int))).ownsRow (C + 1) 3 1 (.slice (some ⟨g7, 0, none⟩) (G + 1) cr7) (ffs x p N (j + 1)).m (nts (ffs x p N (j + 1)).u (ffs x p N (j + 1)).m)) := hide (by
                      rw [HM.out]
                      refine owns_of_rw ((HT3.out.kept (heap_setCell_other _ _ _ _ (fun e => by have := hne.out; simp at e; omega))).ext fun b hb => ?_) hne.out
                      rw [HN.out]
                      dsimp only
                      by_cases e : b = G
                      · subst e; rw [if_pos rfl, if_pos rfl, eD.out, eT.out, eX.out]
                      · rw [if_neg e, if_neg e])
                    have HR4 : Hid ((((wv.drewN nq).setCell ⟨g7, G, none⟩ (.int .i64 (D : Int))).setCell ⟨C, I, none⟩ (.int .i64 (G : Int))).rowIs C 3 q (fun i => .int .i64 (ovI x p N (j + 1) i))) := hide ((HR2.out.set I _).congr fun i hi => by
                      by_cases e : i = I
                      · rw [if_pos e, ovI_yes (by rw [e]; exact hch2), HN.out]; dsimp only; rw [if_pos e]
                      · rw [if_neg e]
                        cases hc : chB p j i with
                        | true => rw [ovI_yes hc, ovI_yes (by unfold chB; rw [hc]; rfl), HN.out]; dsimp only; rw [if_neg e, eS.out]
                        | false => rw [ovI_no hc, ovI_no (by unfold chB; rw [hc, decide_eq_false (fun h => e (by rw [eI.out]; exact h.symm))]; rfl)])
                    have HB4 : Hid (Below C w1 (((wv.drewN nq).setCell ⟨g7, G, none⟩ (.int .i64 (D : Int))).setCell ⟨C, I, none⟩ (.int .i64 (G : Int)))) := hide (((((Lk.refl wv).drewN nq).below HB8.out).setCell (p := ⟨g7, G, none⟩) (show C ≤ g7 by have := hne.out; omega) _).setCell (p := ⟨C, I, none⟩) (Nat.le_refl C) _)
                    have HZ4 : Hid (C + 1 ≤ (((wv.drewN nq).setCell ⟨g7, G, none⟩ (.int .i64 (D : Int))).setCell ⟨C, I, none⟩ (.int .i64 (G : Int))).heap.size) := hide (by simpa using HZ8.out)
                    clear HT8 HR8 HB8 HZ8 HT3 HR2 c7 cx
                    go_wp2_with fail
                    go_roundw
                    case rel => exact ⟨_, _, G + 1, j + 1, rfl, rfl, by go_num, .inr ⟨rfl, rfl⟩, HO4.out, HR4.out, HB4.out, HZ4.out⟩
                    case measure => simp [intOf]
                · have HOw := hide ho
                  clear ho hr hb hz
                  have cb := HRw.out.cell hI
                  rw [ovI_yes HC2.out] at cb
                  obtain ⟨V, eV⟩ : ∃ V, Hid (V = (ffs x p N (j + 1)).o I) := ⟨_, hide rfl⟩
                  rw [← eV.out] at cb
                  go_wp2_with fail
                  go_roundw
                  case rel => exact ⟨_, _, j + 1, rfl, rfl, by omega, by go_num, HOw.out, HRw.out, HBw.out, HZw.out⟩
                  case measure => simp [intOf]; omega
        · obtain rfl : j = k := by omega
          go_wp2_with fail
          go_ret2
          exact ⟨C, rfl, fun i hi => by rw [HR.out.cell hi, ovI_yes (chB_iff.2 (HP.out.all i hi))], by rw [← eC.out]; exact B1.out.trans HBx.out⟩
end Go.Proofs.Ytgkonocjafoblaa
