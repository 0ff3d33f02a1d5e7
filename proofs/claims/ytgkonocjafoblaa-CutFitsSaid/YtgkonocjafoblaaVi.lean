/- FirstFit, of the program. -/
import Derived.Test.YtgkonocjafoblaaVh
import Derived.Deep.Cut
import Derived.Deep.AppendLies
set_option linter.unusedVariables false
namespace Go.Proofs.Ytgkonocjafoblaa
open Go Go.RowKit Go.Ab
theorem gbl {w w' : World} {q B : Nat} (h : Ob w w' q) (hq : B ≤ q) (hB : B ≤ w.heap.size) : Below B w w' := ⟨h.os, h.tape, h.output, h.size, fun k hk => h.block k (by omega) (by intro e; injection e with e; omega)⟩
/-- a row that owns is none, or lies in a block of its own -/
theorem rw_of_owns {w : World} {B m : Nat} {v : Value} {p : Nat → Nat} (h : w.ownsRow B 3 1 v m (nts p m)) : (v = .slice none 0 0 ∧ m = 0) ∨ ∃ g cg, v = .slice (some ⟨g, 0, none⟩) m cg ∧ B ≤ g ∧ Rw w g m cg p := by
  rcases h.2 with ⟨h1, h2⟩ | ⟨g, cg, cur, h1, hb, hg, hnc, hcm, hcs, ht⟩
  · exact .inl ⟨h1, h2⟩
  · exact .inr ⟨g, cg, h1, hb, h.1, .inr ⟨g, cg, cur, rfl, Nat.le_refl _, hg, hnc, hcm, hcs, ht⟩⟩
theorem owns_of_rw {w : World} {B g m cg : Nat} {p : Nat → Nat} (h : Rw w g m cg p) (hB : B ≤ g) : w.ownsRow B 3 1 (.slice (some ⟨g, 0, none⟩) m cg) m (nts p m) := by
  rcases h.2 with ⟨h1, h2⟩ | ⟨g', cg', cur, h1, hb, hg, hnc, hcm, hcs, ht⟩
  · simp at h1
  · simp only [Value.slice.injEq, Option.some.injEq, Addr.mk.injEq, and_true, true_and] at h1
    obtain ⟨rfl, rfl⟩ := h1
    exact ⟨h.1, .inr ⟨g, cg, cur, rfl, hB, hg, hnc, hcm, hcs, ht⟩⟩
theorem ls_of_rw {w : World} {g m cg : Nat} {p : Nat → Nat} (h : Rw w g m cg p) (hp : ∀ b, b < m → p b ≤ 2000) : Ls w (some ⟨g, 0, none⟩) m (fun b => (p b : Int)) :=
  .inr ⟨g, 0, rfl, fun i hi => ⟨by rw [Nat.zero_add]; exact h.cell hi, by have := hp i hi; constructor <;> (show _ ≤ _; simp only []; omega)⟩⟩
theorem cell_lt {w : World} {p : Addr} {v : Value} (h : w.cell? p = some v) : p.block < w.heap.size := by
  rcases Nat.lt_or_ge p.block w.heap.size with h1 | h1
  · exact h1
  · simp [World.cell?, Array.getElem?_eq_none h1] at h
theorem St.lt {w : World} {a : Option Addr} {l N : Nat} {f : Nat → Int} {x : Nat → Nat} (h : St w a l N f x) (hl : 1 ≤ l) : ∀ b off, a = some ⟨b, off, none⟩ → b < w.heap.size := fun b off e => by
  obtain ⟨b', off', e', hc, _⟩ := h.at (k := 0) (by omega)
  rw [e] at e'
  injection e' with e'
  injection e' with e1 e2
  subst e1
  exact cell_lt hc
theorem Sw.below {w w' : World} {B bs g l N c cg : Nat} {a : Option Addr} {f : Nat → Int} {x p : Nat → Nat} (h : Sw w bs g l N c cg a f x p) (hb : Below B w w') (h1 : bs < B) (h2 : g < B) (h3 : ∀ b off, a = some ⟨b, off, none⟩ → b < B) : Sw w' bs g l N c cg a f x p :=
  ⟨⟨by
      rcases h.st.s with e | ⟨b, off, e, hc⟩
      · exact .inl e
      · exact .inr ⟨b, off, e, fun i hi => ⟨by rw [hb.cell (h3 b off e)]; exact (hc i hi).1, (hc i hi).2⟩⟩, h.st.e, h.st.b, h.st.n, h.st.hl⟩,
    by rw [hb.cell h1]; exact h.bx, h.row.kept (hb.block g h2), h.nb, h.na⟩
theorem news_one (w : World) (v : Value) (t : TypeId) : ∀ j u, ([v] : List Value)[j]? = some u → (w.alloc (.cells #[v] t)).cell? ((⟨w.heap.size, 0, none⟩ : Addr).add j) = some u := by
  intro j u hj
  match j, hj with
  | 0, hj => simp at hj; subst hj; simp [Addr.add]
set_option maxRecDepth 20000 in
set_option maxHeartbeats 4000000 in
theorem firstFit_ok (N l c : Nat) (a : Option Addr) (f : Nat → Int) (x : Nat → Nat) (w : World) (HS : Hid (St w a l N f x)) (HB : Hid (stB N f l = true)) (hl1 : 1 ≤ l) :
    Calls Try.prog 59 #[.int .i64 N, .slice a l c] w fun e w' => ∃ p C, e = .returned (.tuple #[.slice (some ⟨C, 0, none⟩) l l, .int .i64 0]) ∧ Ord x p l ∧ (∀ i, i < l → w'.cell? ⟨C, i, none⟩ = some (.int .i64 ((ffs x p N l).o i : Int))) ∧ Below w.heap.size w w' := by
  have hn1 := HS.out.n.1
  have hn2 := HS.out.n.2
  have hl := HS.out.hl
  have hml : l ≤ maxLen := by unfold maxLen; omega
  obtain ⟨i3, hi3, hz3, hs3, hb3⟩ := info_parts Try.info3
  have b1 : Below w.heap.size w (w.alloc (.cells #[.slice a l c] 57)) := (Below.refl _ _).alloc (Nat.le_refl _) _
  have HS1 : Hid (St (w.alloc (.cells #[.slice a l c] 57)) a l N f x) := hide (HS.out.below b1)
  have O0 : Hid ((w.alloc (.cells #[.slice a l c] 57)).ownsRow (w.heap.size + 1) 3 1 (.slice none 0 0) 0 (nts (fun q => q) 0)) := hide ⟨rfl, .inl ⟨rfl, rfl⟩⟩
  have B1 := hide b1
  have hbx : (w.alloc (.cells #[.slice a l c] 57)).cell? ⟨w.heap.size, 0, none⟩ = some (.slice a l c) := by simp [go_sem]
  have HBX := hide hbx
  have HZ1 : Hid ((w.alloc (.cells #[.slice a l c] 57)).heap.size = w.heap.size + 1) := hide (by simp)
  clear b1 hbx
  go_enter Try.func59, Try.ntmps59
  go_wp2_with (go_at_call 99; (with_reducible refine (strips_is N a l c f _ HS1.out.s hml).mono ?_); rintro e w1 ⟨rfl, rfl⟩; rw [HB.out])
  obtain ⟨bs, ebs⟩ : ∃ b, Hid (b = w.heap.size) := ⟨_, hide rfl⟩
  rw [← ebs.out] at O0 HBX HZ1 ⊢
  generalize w.alloc (.cells #[.slice a l c] 57) = w1 at *
  have hbs : bs + 1 ≤ w1.heap.size := by rw [HZ1.out]; exact Nat.le_refl _
  go_loopw [6, 19] (fun v i wr => ∃ (v6 : Value) (wq : World) (k : Nat), v6 = v ∧ wq = wr ∧ k ≤ l ∧ i = .int .i64 (k : Int) ∧ wr.ownsRow (bs + 1) 3 1 v k (nts (fun q => q) k) ∧ Below (bs + 1) w1 wr) (fun _ i _ => l - (intOf i).toNat)
  case atStart => exact ⟨_, _, 0, rfl, rfl, Nat.zero_le _, rfl, O0.out, Below.refl _ _⟩
  case round =>
    clear O0
    obtain ⟨v6, wr, k, rfl, rfl, hk, rfl, ho, hb⟩ := hrel
    have HO := hide ho
    have HB1 := hide hb
    clear ho hb
    by_cases hlt : k < l
    · have hbz : Hid (bs + 1 ≤ wr.heap.size) := hide (Nat.le_trans hbs HB1.out.size)
      go_wp2_with (at_builtin; refine wpList_append_own _ rfl _ _ 57 rfl (bs + 1) 3 i3 (.int .i64 0) 1 8 Try.underlying57 hi3 hz3 hs3 hb3 rfl (by decide) _ _ _ rfl (HO.out.alloc _) ⟨wr.heap.size, 0, none⟩ 1 1 [.int .i64 (k : Int)] rfl rfl ?d1 ?d2 ?d3 ?d4 ?d5 ?_)
      case d1 =>
        intro j u hj
        match j, hj with
        | 0, hj => simp at hj; subst hj; simp [Addr.add]
      case d2 => intro u hu; simp at hu; subst hu; rfl
      case d3 => unfold maxLen; omega
      case d4 => omega
      case d5 => simp; have := hbz.out; omega
      intro v' w7 hown' hgrow _
      have HO2 : Hid (w7.ownsRow (bs + 1) 3 1 v' (k + 1) (nts (fun q => q) (k + 1))) := hide (by rw [nts_succ]; exact hown')
      have HB2 := hide ((HB1.out.alloc hbz.out (.cells #[.int .i64 (k : Int)] 3)).grown hgrow (by simp; have := hbz.out; omega) (fun q hq => (HO.out.lt q hq).1))
      clear hown' hgrow
      go_wp2_with fail
      go_roundw
      case rel => exact ⟨_, _, k + 1, rfl, rfl, by omega, by go_num, HO2.out, HB2.out⟩
      case measure => simp [intOf]; omega
    · obtain rfl : k = l := by omega
      obtain ⟨g, cg, rfl, hg, hrw⟩ : ∃ g cg, v6 = .slice (some ⟨g, 0, none⟩) k cg ∧ bs + 1 ≤ g ∧ Rw wr g k cg (fun q => q) := by
        rcases rw_of_owns HO.out with ⟨_, h⟩ | h
        · omega
        · exact h
      have hbw : Below w1.heap.size w1 wr := by rw [HZ1.out]; exact HB1.out
      have HW : Hid (Sw wr bs g k N c cg a f x (fun q => q)) := hide ⟨HS1.out.below hbw, kc hbw HBX.out, hrw, by omega, fun b off e => by have := HS.out.lt hl1 b off e; rw [← ebs.out] at this; omega⟩
      have HG : Hid (bs + 1 ≤ g ∧ g < wr.heap.size) := hide ⟨hg, cell_lt (hrw.cell (j := 0) (by omega))⟩
      clear HO hrw hbw
      go_wp2_with fail
      refine (sorted_is bs g k N c cg a f x (fun q => q) wr HW (hide (fun _ => rfl))).mono ?_
      rintro e w2 ⟨p, rfl, hsw, hord, hob⟩
      have HW2 := hide hsw
      have HP := hide hord
      have HB2 : Hid (Below (bs + 1) w1 w2) := hide (HB1.out.trans (gbl hob HG.out.1 (Nat.le_trans hbs HB1.out.size)))
      clear hsw hord hob HW HB1
      have HR : Hid (∀ i, i < k → p i < k) := hide HP.out.lt
      obtain ⟨C, eC⟩ : ∃ C, Hid (C = w2.heap.size) := ⟨_, hide rfl⟩
      have hmk : ∀ w, (Instr.makeSlice 57 (.int .i64 (k : Int)) (.int .i64 (k : Int))).run Try.prog w = .ok (.slice (some ⟨w.heap.size, 0, none⟩) k k) (w.alloc (.cells (madeCells #[.int .i64 0] k) 3)) := fun w => run_make_row' 57 3 _ 8 Try.underlying57 Try.info3 rfl .i64 .i64 k (by omega) (by omega) w
      have hbx2 := HW2.out.bx
      go_wp2_with fail
      rw [← eC.out]
      have HCC : Hid (bs < C ∧ g < C ∧ ∀ b off, a = some ⟨b, off, none⟩ → b < C) := hide ⟨by rw [eC.out]; exact Nat.lt_of_lt_of_le hbs HB2.out.size, by rw [eC.out]; exact cell_lt (HW2.out.row.cell (j := 0) (by omega)), fun b off e => by rw [eC.out]; have := HS.out.lt hl1 b off e; rw [← ebs.out] at this; have := HB2.out.size; omega⟩
      have R3 : Hid ((w2.alloc (.cells (madeCells #[.int .i64 0] k) 3)).rowIs C 3 k (fun i => .int .i64 ((ffs x p N 0).o i : Int))) := hide (by rw [eC.out]; exact World.rowIs_made w2 (.int .i64 0) k 3)
      have b3 : Below C w2 (w2.alloc (.cells (madeCells #[.int .i64 0] k) 3)) := by rw [eC.out]; exact (Below.refl _ _).alloc (Nat.le_refl _) _
      have HW3 := hide (HW2.out.below b3 HCC.out.1 HCC.out.2.1 HCC.out.2.2)
      have HB3 := hide (HB2.out.trans (b3.mono HCC.out.1))
      have hz3 : (w2.alloc (.cells (madeCells #[.int .i64 0] k) 3)).heap.size = C + 1 := by rw [eC.out]; simp
      have HZ3 := hide hz3
      clear b3 hz3 HW2 HB2 eC hbx2 hmk HZ1 HBX HS1
      generalize w2.alloc (.cells (madeCells #[.int .i64 0] k) 3) = w3 at *
      have O3 : Hid (w3.ownsRow (C + 1) 3 1 (.slice none 0 0) 0 (nts (fun b => N - (ffs x p N 0).u b) 0)) := hide ⟨rfl, .inl ⟨rfl, rfl⟩⟩
      have HX : Hid (∀ i, i < k → x (p i) ≤ N) := hide (fun i hi => (HS.out.b (p i) (HR.out i hi)).2)
      go_loopw [7, 35] (fun v i wr => ∃ (v7 : Value) (wq : World) (j : Nat), v7 = v ∧ wq = wr ∧ j ≤ k ∧ i = .int .i64 (j : Int) ∧ wr.ownsRow (C + 1) 3 1 v (ffs x p N j).m (nts (fun b => N - (ffs x p N j).u b) (ffs x p N j).m) ∧ wr.rowIs C 3 k (fun i => .int .i64 ((ffs x p N j).o i : Int)) ∧ Below C w3 wr) (fun _ i _ => k - (intOf i).toNat)
      case atStart => exact ⟨_, _, 0, rfl, rfl, Nat.zero_le _, rfl, O3.out, R3.out, Below.refl _ _⟩
      case round =>
        clear O3 R3
        obtain ⟨v7, wr, j, rfl, rfl, hj, rfl, ho, hr, hb⟩ := hrel
        have HO := hide ho
        have HRr := hide hr
        have HBq := hide hb
        clear ho hr hb
        by_cases hlt : j < k
        · have hok := ffs_ok (x := x) (p := p) (N := N) (k := j) (fun i hi => HX.out i (by omega))
          obtain ⟨S, eS⟩ : ∃ S, Hid (S = ffs x p N j) := ⟨_, hide rfl⟩
          obtain ⟨I, eI⟩ : ∃ I, Hid (I = p j) := ⟨_, hide rfl⟩
          rw [← eS.out] at HO HRr hok
          have HK := hide hok
          clear hok
          obtain ⟨G, eG⟩ : ∃ G, Hid (G = fit S.u N (x I) S.m) := ⟨_, hide rfl⟩
          have HN : Hid (ffs x p N (j + 1) = ⟨if G < S.m then S.m else S.m + 1, fun c => if c = G then S.u c + x I else S.u c, fun i => if i = I then G else S.o i⟩) := hide (by rw [eG.out, eI.out, eS.out]; rfl)
          have HWr := hide (HW3.out.below HBq.out HCC.out.1 HCC.out.2.1 HCC.out.2.2)
          have hI : I < k := by rw [eI.out]; exact HR.out j hlt
          have cI : wr.cell? ⟨g, j, none⟩ = some (.int .i64 (I : Int)) := by rw [eI.out]; exact HWr.out.row.cell hlt
          have hCz : C + 1 ≤ wr.heap.size := by rw [← HZ3.out]; exact HBq.out.size
          obtain ⟨M, eM⟩ : ∃ M, Hid (M = S.m) := ⟨_, hide rfl⟩
          rw [← eM.out] at HO HN eG
          have hM : M ≤ j := by rw [eM.out]; exact HK.out.m
          have HF := fit_spec S.u N (x I) M
          rw [← eG.out] at HF
          have hGM := HF.1
          have HF2 := hide HF.2.2
          have hGN : Hid (S.u G + x I ≤ N) := hide (by
            by_cases e : G < M
            · exact HF.2.2 e
            · rw [HK.out.z G (by rw [← eM.out]; omega), Nat.zero_add]; exact (HS.out.b I hI).2)
          clear HF
          obtain ⟨X, eX⟩ : ∃ X, Hid (X = x I) := ⟨_, hide rfl⟩
          obtain ⟨T, eT⟩ : ∃ T, Hid (T = N - S.u G) := ⟨_, hide rfl⟩
          obtain ⟨D, eD⟩ : ∃ D, Hid (D = T - X) := ⟨_, hide rfl⟩
          have hTX : X ≤ T := by rw [eX.out, eT.out]; have := hGN.out; omega
          have hTD : (T : Int) - (X : Int) = (D : Int) := by rw [eD.out]; omega
          have hTN : T ≤ N := by rw [eT.out]; omega
          obtain ⟨is, eis⟩ : ∃ b, Hid (b = wr.heap.size) := ⟨_, hide rfl⟩
          have ba : Below wr.heap.size wr (wr.alloc (.cells #[.int .i64 (I : Int)] 3)) := (Below.refl _ _).alloc (Nat.le_refl _) _
          have HWa := hide (HWr.out.below ba (by have := HCC.out.1; omega) (by have := HCC.out.2.1; omega) (fun b off e => by have := HCC.out.2.2 b off e; omega))
          have HOa := hide (HO.out.alloc (.cells #[.int .i64 (I : Int)] 3))
          have HRa := hide (HRr.out.alloc (.cells #[.int .i64 (I : Int)] 3))
          have HBa := hide (HBq.out.alloc (by omega) (.cells #[.int .i64 (I : Int)] 3))
          have hca : (wr.alloc (.cells #[.int .i64 (I : Int)] 3)).cell? ⟨wr.heap.size, 0, none⟩ = some (.int .i64 (I : Int)) := by simp [go_sem]
          have hza : (wr.alloc (.cells #[.int .i64 (I : Int)] 3)).heap.size = wr.heap.size + 1 := by simp
          have HL7 : Hid (∀ g7, v7.ownBlock = some g7 → C + 1 ≤ g7 ∧ g7 < is) := hide (fun g7 e => by have := HO.out.lt g7 e; rw [eis.out]; exact this)
          rw [← eis.out] at hca hza
          have CIS := hide hca
          have HZa := hide hza
          clear ba hca hza HO HRr HBq HWr
          go_wp2_with fail
          rw [← eis.out]
          generalize wr.alloc (.cells #[.int .i64 (I : Int)] 3) = wa at *
          have HLs : Hid (∃ ar cr, v7 = .slice ar M cr ∧ Ls wa ar M (fun b => ((N - S.u b : Nat) : Int))) := hide (by
            rcases rw_of_owns HOa.out with ⟨h1, h2⟩ | ⟨g7, cr, h1, _, h2⟩
            · exact ⟨none, 0, by rw [h1, h2], .inl h2⟩
            · exact ⟨_, cr, h1, ls_of_rw h2 (fun b _ => by omega)⟩)
          obtain ⟨ar, cr, hv7, hls⟩ := HLs.out
          have HV7 := hide hv7
          rw [hv7]
          have HST : Hid (St wa a k N f x) := hide HWa.out.st
          refine (index_is bs is N k c I M cr a ar f _ x S.u wa HST (hide HWa.out.bx) CIS hI (hide hls) (hide (fun b _ => rfl)) (hide HK.out.u) (by omega) G eG).mono ?_
          rintro e w9 ⟨rfl, rfl⟩
          clear hls HLs HST hv7
          by_cases hGlt : G < M
          · have HV : Hid (idxV G M = (G : Int)) := hide (by unfold idxV; rw [if_pos hGlt])
            obtain ⟨g7, hg7, hrw⟩ : ∃ g7, v7 = .slice (some ⟨g7, 0, none⟩) M cr ∧ Rw wa g7 M cr (fun b => N - S.u b) := by
              rcases rw_of_owns HOa.out with ⟨_, h2⟩ | ⟨g7, cr', h1, _, h2⟩
              · omega
              · have := HV7.out
                rw [h1] at this
                injection this with _ _ e3
                subst e3
                exact ⟨g7, h1, h2⟩
            have HT := hide hrw
            have har : ar = some ⟨g7, 0, none⟩ := by
              have := HV7.out
              rw [hg7] at this
              injection this with e1 _ _
              exact e1.symm
            have hL := HL7.out g7 (by rw [hg7]; rfl)
            have hne : Hid (C + 1 ≤ g7) := hide hL.1
            have hni : is ≠ g7 := by omega
            have HM : Hid ((ffs x p N (j + 1)).m = M) := hide (by rw [HN.out]; dsimp only; rw [if_pos hGlt])
            have hGm := hGlt
            have HWw := HWa
            have HRw := HRa
            have HBw := HBa
            have cis := CIS.out
            clear hL hrw HOa HV7 HL7 hg7 HWa HRa HBa
            subst har
            rw [HV.out]
            have c7 : wa.cell? ⟨g7, G, none⟩ = some (.int .i64 (T : Int)) := by rw [eT.out]; exact HT.out.cell hGm
            obtain ⟨b0, o0, ea, cx, x1, x2⟩ := HWw.out.st.at hI
            subst ea
            rw [← eX.out] at cx x1 x2
            have cb := HWw.out.bx
            go_wp2_with fail
            refine wp_region_tail_lit rfl (by kernel_rfl) (by kernel_rfl) (by kernel_rfl) ?_
            dsimp only [List.dropLast]
            repeat (go_big_quiet_step (fail))
            refine wpQuiet_nil ?_
            intro w9 hw9
            obtain ⟨nq, rfl⟩ := hw9
            have c7' : (wa.drewN nq).cell? ⟨g7, G, none⟩ = some (.int .i64 (T : Int)) := c7
            have f7' : (wa.drewN nq).frozen? ⟨g7, G, none⟩ = false := HT.out.frozen G
            have ci2 : ((wa.drewN nq).setCell ⟨g7, G, none⟩ (.int .i64 (D : Int))).cell? ⟨is, 0, none⟩ = some (.int .i64 (I : Int)) := (World.cell?_setCell_other _ _ _ _ (by intro e'; simp only [Addr.mk.injEq] at e'; exact hni e'.1.symm)).trans cis
            have HR2 : Hid (((wa.drewN nq).setCell ⟨g7, G, none⟩ (.int .i64 (D : Int))).rowIs C 3 k (fun i => .int .i64 (S.o i : Int))) := hide (World.rowIs.setOther (World.rowIs.of_block HRw.out rfl) (show C ≠ g7 by have := hne.out; omega) _)
            have cC := HR2.out.cell hI
            have fC := HR2.out.frozen I
            have HT3 : Hid (Rw ((wa.drewN nq).setCell ⟨g7, G, none⟩ (.int .i64 (D : Int))) g7 M cr (fun b => if b = G then D else N - S.u b)) := hide ((HT.out.lk ((Lk.refl wa).drewN nq)).set G D)
            have HO4 : Hid ((((wa.drewN nq).setCell ⟨g7, G, none⟩ (.int .i64 (D : Int))).setCell ⟨C, I, none⟩ (.int .i64 (G : Int))).ownsRow (C + 1) 3 1 (.slice (some ⟨g7, 0, none⟩) M cr) (ffs x p N (j + 1)).m (nts (fun b => N - (ffs x p N (j + 1)).u b) (ffs x p N (j + 1)).m)) := hide (by
              rw [HM.out]
              refine owns_of_rw ((HT3.out.kept (heap_setCell_other _ _ _ _ (fun e => by have := hne.out; simp at e; omega))).ext fun b hb => ?_) hne.out
              rw [HN.out]
              dsimp only
              by_cases e : b = G
              · subst e; rw [if_pos rfl, if_pos rfl, eD.out, eT.out, eX.out]; omega
              · rw [if_neg e, if_neg e])
            have HR4 : Hid ((((wa.drewN nq).setCell ⟨g7, G, none⟩ (.int .i64 (D : Int))).setCell ⟨C, I, none⟩ (.int .i64 (G : Int))).rowIs C 3 k (fun i => .int .i64 ((ffs x p N (j + 1)).o i : Int))) := hide ((HR2.out.set I _).congr fun i hi => by
              rw [HN.out]
              dsimp only
              by_cases e : i = I
              · rw [if_pos e, if_pos e]
              · rw [if_neg e, if_neg e])
            have HB4 : Hid (Below C w3 (((wa.drewN nq).setCell ⟨g7, G, none⟩ (.int .i64 (D : Int))).setCell ⟨C, I, none⟩ (.int .i64 (G : Int)))) := hide (((((Lk.refl wa).drewN nq).below HBw.out).setCell (p := ⟨g7, G, none⟩) (show C ≤ g7 by have := hne.out; omega) _).setCell (p := ⟨C, I, none⟩) (Nat.le_refl C) _)
            clear HT HT3 HR2 c7 HWw HRw HBw
            go_wp2_with fail
            go_roundw
            case rel => exact ⟨_, _, j + 1, rfl, rfl, by omega, by go_num, HO4.out, HR4.out, HB4.out⟩
            case measure => simp [intOf]; omega
          · obtain rfl : G = M := by omega
            have HV : Hid (idxV G G = -1) := hide (by unfold idxV; rw [if_neg (by omega)])
            rw [HV.out]
            have hov : (Value.slice ar G cr) = v7 := HV7.out.symm
            have HOb : Hid (wa.ownsRow (C + 1) 3 1 (.slice ar G cr) G (nts (fun b => N - S.u b) G)) := hide (by rw [hov]; exact HOa.out)
            have HLb : Hid (∀ g7, (Value.slice ar G cr).ownBlock = some g7 → C + 1 ≤ g7 ∧ g7 < is) := hide (by rw [hov]; exact HL7.out)
            clear hov HOa HL7 HV7
            go_upto_region 17 with fail
            generalize (Value.slice ar G cr) = v8 at HOb HLb ⊢
            go_wp2_with (at_builtin; refine wpList_append_lies _ rfl _ _ 57 rfl (C + 1) 3 i3 (.int .i64 0) 1 8 Try.underlying57 hi3 hz3 hs3 hb3 rfl (by decide) _ _ _ rfl (HOb.out.alloc _) ⟨wa.heap.size, 0, none⟩ 1 1 [.int .i64 (N : Int)] rfl rfl ?d1 ?d2 ?d3 ?d4 ?d5 ?d6 _ rfl ?_)
            case d1 => exact news_one wa _ _
            case d2 => intro u hu; simp at hu; subst hu; rfl
            case d3 => omega
            case d4 => unfold maxLen; omega
            case d5 => omega
            case d6 => simp; have := HZa.out; have := hCz; have := eis.out; omega
            intro g7 cr7 w7 hown hgrow hnew _
            have hCa : C + 1 ≤ wa.heap.size := by have := HZa.out; have := hCz; have := eis.out; omega
            have hz : S.u G = 0 := HK.out.z G (by rw [← eM.out]; exact Nat.le_refl _)
            have hrw : Rw w7 g7 (G + 1) cr7 (fun b => N - S.u b) ∧ C + 1 ≤ g7 := by
              have h2 : w7.ownsRow (C + 1) 3 1 (.slice (some ⟨g7, 0, none⟩) (G + 1) cr7) (G + 1) (nts (fun b => N - S.u b) (G + 1)) := by
                rw [nts_succ, hz, Nat.sub_zero]; exact hown
              rcases rw_of_owns h2 with ⟨h, _⟩ | ⟨g', c', h, hb, hr⟩
              · simp at h
              · simp only [Value.slice.injEq, Option.some.injEq, Addr.mk.injEq, and_true, true_and] at h
                obtain ⟨rfl, rfl⟩ := h
                exact ⟨hr, hb⟩
            have HT := hide hrw.1
            have hne : Hid (C + 1 ≤ g7) := hide hrw.2
            have hni : is ≠ g7 := by
              rcases hnew with e | e
              · have := (HLb.out g7 e).2; omega
              · have := HZa.out; omega
            have ba : Below wa.heap.size wa (wa.alloc (.cells #[.int .i64 (N : Int)] 3)) := (Below.refl _ _).alloc (Nat.le_refl _) _
            have bw : Below (C + 1) wa w7 := ((Below.refl (C + 1) wa).alloc hCa (.cells #[.int .i64 (N : Int)] 3)).grown hgrow (by simp; omega) (fun q hq => (HLb.out q hq).1)
            have HWw := hide (HWa.out.below bw (by have := HCC.out.1; omega) (by have := HCC.out.2.1; omega) (fun b off e => by have := HCC.out.2.2 b off e; omega))
            have HRw := hide (HRa.out.of_block (bw.block C (by omega)))
            have HBw := hide (HBa.out.trans (bw.mono (by omega)))
            have cis : w7.cell? ⟨is, 0, none⟩ = some (.int .i64 (I : Int)) := World.grownBy.cell hgrow (kc ba CIS.out) (fun e => by have := (HLb.out is e.symm).2; omega)
            have HM : Hid ((ffs x p N (j + 1)).m = G + 1) := hide (by rw [HN.out]; dsimp only; rw [if_neg (by omega)])
            have hGm : G < G + 1 := by omega
            clear hrw hown hgrow hnew ba bw HOb HLb HWa HRa HBa hz
            have c7 : w7.cell? ⟨g7, G, none⟩ = some (.int .i64 (T : Int)) := by rw [eT.out]; exact HT.out.cell hGm
            obtain ⟨b0, o0, ea, cx, x1, x2⟩ := HWw.out.st.at hI
            subst ea
            rw [← eX.out] at cx x1 x2
            have cb := HWw.out.bx
            go_wp2_with fail
            refine wp_region_tail_lit rfl (by kernel_rfl) (by kernel_rfl) (by kernel_rfl) ?_
            dsimp only [List.dropLast]
            repeat (go_big_quiet_step (fail))
            refine wpQuiet_nil ?_
            intro w9 hw9
            obtain ⟨nq, rfl⟩ := hw9
            have c7' : (w7.drewN nq).cell? ⟨g7, G, none⟩ = some (.int .i64 (T : Int)) := c7
            have f7' : (w7.drewN nq).frozen? ⟨g7, G, none⟩ = false := HT.out.frozen G
            have ci2 : ((w7.drewN nq).setCell ⟨g7, G, none⟩ (.int .i64 (D : Int))).cell? ⟨is, 0, none⟩ = some (.int .i64 (I : Int)) := (World.cell?_setCell_other _ _ _ _ (by intro e'; simp only [Addr.mk.injEq] at e'; exact hni e'.1.symm)).trans cis
            have HR2 : Hid (((w7.drewN nq).setCell ⟨g7, G, none⟩ (.int .i64 (D : Int))).rowIs C 3 k (fun i => .int .i64 (S.o i : Int))) := hide (World.rowIs.setOther (World.rowIs.of_block HRw.out rfl) (show C ≠ g7 by have := hne.out; omega) _)
            have cC := HR2.out.cell hI
            have fC := HR2.out.frozen I
            have HT3 : Hid (Rw ((w7.drewN nq).setCell ⟨g7, G, none⟩ (.int .i64 (D : Int))) g7 (G + 1) cr7 (fun b => if b = G then D else N - S.u b)) := hide ((HT.out.lk ((Lk.refl w7).drewN nq)).set G D)
            have HO4 : Hid ((((w7.drewN nq).setCell ⟨g7, G, none⟩ (.int .i64 (D : Int))).setCell ⟨C, I, none⟩ (.int .i64 (G : Int))).ownsRow (C + 1) 3 1 (.slice (some ⟨g7, 0, none⟩) (G + 1) cr7) (ffs x p N (j + 1)).m (nts (fun b => N - (ffs x p N (j + 1)).u b) (ffs x p N (j + 1)).m)) := hide (by
              rw [HM.out]
              refine owns_of_rw ((HT3.out.kept (heap_setCell_other _ _ _ _ (fun e => by have := hne.out; simp at e; omega))).ext fun b hb => ?_) hne.out
              rw [HN.out]
              dsimp only
              by_cases e : b = G
              · subst e; rw [if_pos rfl, if_pos rfl, eD.out, eT.out, eX.out]; omega
              · rw [if_neg e, if_neg e])
            have HR4 : Hid ((((w7.drewN nq).setCell ⟨g7, G, none⟩ (.int .i64 (D : Int))).setCell ⟨C, I, none⟩ (.int .i64 (G : Int))).rowIs C 3 k (fun i => .int .i64 ((ffs x p N (j + 1)).o i : Int))) := hide ((HR2.out.set I _).congr fun i hi => by
              rw [HN.out]
              dsimp only
              by_cases e : i = I
              · rw [if_pos e, if_pos e]
              · rw [if_neg e, if_neg e])
            have HB4 : Hid (Below C w3 (((w7.drewN nq).setCell ⟨g7, G, none⟩ (.int .i64 (D : Int))).setCell ⟨C, I, none⟩ (.int .i64 (G : Int)))) := hide (((((Lk.refl w7).drewN nq).below HBw.out).setCell (p := ⟨g7, G, none⟩) (show C ≤ g7 by have := hne.out; omega) _).setCell (p := ⟨C, I, none⟩) (Nat.le_refl C) _)
            clear HT HT3 HR2 c7 HWw HRw HBw
            go_wp2_with fail
            go_roundw
            case rel => exact ⟨_, _, j + 1, rfl, rfl, by omega, by go_num, HO4.out, HR4.out, HB4.out⟩
            case measure => simp [intOf]; omega
        · obtain rfl : j = k := by omega
          go_wp2_with fail
          go_ret2
          exact ⟨p, C, rfl, HP.out, fun i hi => HRr.out.cell hi, B1.out.trans (by rw [← ebs.out]; exact (HB3.out.mono (by omega)).trans (HBq.out.mono (by have := HCC.out.1; omega)))⟩
end Go.Proofs.Ytgkonocjafoblaa
