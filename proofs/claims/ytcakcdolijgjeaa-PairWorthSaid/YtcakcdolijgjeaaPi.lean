/- Gloves in memory; a side of the law's gloves. -/
import Derived.Test.YtcakcdolijgjeaaPf
import Derived.Test.YtcakcdolijgjeaaPh
import Derived.WalkLawsBesides
import Derived.BigQuiet
import Derived.Deep.QuietTactic
import Derived.Lib.AppendZeros
set_option linter.unusedVariables false
namespace Go.Proofs.Ytcakcdolijgjeaa
open Go Go.RowKit Go.Ab Go.ChangeShapes Go.WideShapes
/-- gloves in memory -/
def GsAt (w : World) (b off l : Nat) (gs : Nat → G4) : Prop := ∀ i, i < l →
  (w.cell? ⟨b, off + i * 4, none⟩ = some (.int .i64 (gs i).1) ∧ w.cell? ⟨b, off + i * 4 + 1, none⟩ = some (.int .i64 (gs i).2.1)) ∧ (w.cell? ⟨b, off + i * 4 + 2, none⟩ = some (.int .i64 (gs i).2.2.1) ∧ w.cell? ⟨b, off + i * 4 + 3, none⟩ = some (.int .i64 (gs i).2.2.2))
def Gs (w : World) (a : Option Addr) (l : Nat) (gs : Nat → G4) : Prop := l = 0 ∨ ∃ b off, a = some ⟨b, off, none⟩ ∧ GsAt w b off l gs
theorem Gs.below {w w' : World} {a : Option Addr} {l : Nat} {gs : Nat → G4} (h : Gs w a l gs) (hb : Below w.heap.size w w') : Gs w' a l gs := by
  rcases h with h | ⟨b, off, rfl, h⟩
  · exact .inl h
  · exact .inr ⟨b, off, rfl, fun i hi => ⟨⟨kc hb (h i hi).1.1, kc hb (h i hi).1.2⟩, kc hb (h i hi).2.1, kc hb (h i hi).2.2⟩⟩
section
variable {H : Type} {enc : TypeId × Value → H} {P : Program} {w : World} {base : Nat} {held : Bool}
theorem open_gloves {r : Reach} {b0 : Nat} {t e : TypeId} {f0 f1 f2 f3 : Field} {v : Value} {d : DataW H} {ps : List MemPlace} (ht : P.underlying t = some (.slice e)) (he : P.underlying e = some (.struct #[f0, f1, f2, f3])) (ce : P.cellsOf e = 4)
    (hone : Go.Deep.oneCellFields P #[f0, f1, f2, f3] = true) (k0 : P.underlying f0.type = some (.int .i64)) (k1 : P.underlying f1.type = some (.int .i64)) (k2 : P.underlying f2.type = some (.int .i64)) (k3 : P.underlying f3.type = some (.int .i64))
    (hval : Value.okWide P w r b0 t v) (hd : DataW.Trod enc P w base (fun _ => true) held t v d ps) :
    ∃ (a : Option Addr) (len cap : Nat) (gs : Nat → G4), v = .slice a len cap ∧ Gs w a len gs ∧ len ≤ maxLen := by
  obtain ⟨a0, len0, cap0, rfl⟩ := okWide_slice ht hval
  obtain ⟨fuel, hf⟩ := hd
  rcases Go.Deep.open_slice ht hf with ⟨hcs, _⟩ | ⟨a, len, cap, m, n, D, Pl, hcs, hb, hl, hm, hmm, hx, hi⟩
  · simp [Value.cells] at hcs
    obtain ⟨rfl, rfl, rfl⟩ := hcs
    exact ⟨none, 0, 0, fun _ => (0, 0, 0, 0), rfl, .inl rfl, by simp [maxLen]⟩
  · simp [Value.cells] at hcs
    obtain ⟨rfl, rfl, rfl⟩ := hcs
    simp only [if_true] at hmm
    subst hmm
    have each : ∀ i, i < m → ∃ q : G4, (w.cell? (a.add (i * 4)) = some (.int .i64 q.1) ∧ w.cell? (a.add (i * 4 + 1)) = some (.int .i64 q.2.1)) ∧ (w.cell? (a.add (i * 4 + 2)) = some (.int .i64 q.2.2.1) ∧ w.cell? (a.add (i * 4 + 3)) = some (.int .i64 q.2.2.2)) := by
      intro i him
      obtain ⟨cs', hc, ht'⟩ := hi i him
      rw [ce] at hc
      obtain ⟨ys, n', hn', hy, hlen, hyl, hff⟩ := DataW.trod_struct he ht'
      obtain ⟨_, hcl, hat⟩ := World.cells?_some hc
      have part : ∀ (j : Nat) (f : Field), (#[f0, f1, f2, f3] : Array Field)[j]? = some f → P.underlying f.type = some (.int .i64) → ∃ x : Int, w.cell? (a.add (i * 4 + j)) = some (.int .i64 x) := by
        intro j f hj hk
        have hjl : j < 4 := (Array.getElem?_eq_some_iff.1 hj).1
        obtain ⟨ho, hk1⟩ := Go.Deep.hone_of hone j f hj
        have h1 := hff j f hj
        rw [ho, hk1] at h1
        have hjc : j < cs'.length := by omega
        have e1 : (cs'.drop j).take 1 = [cs'[j]] := by rw [List.drop_eq_getElem_cons hjc]; rfl
        rw [e1] at h1
        have hys : ys[j]? = some (ys[j]'(by rw [hyl]; exact hjl)) := List.getElem?_eq_getElem _
        rw [hys] at h1
        obtain ⟨x, ex, _, wx⟩ := DataW.trod_int hk h1
        refine ⟨x, ?_⟩
        have h2 := hat j hjl
        rw [Go.Deep.add_add] at h2
        rw [h2]
        rw [List.getElem?_eq_getElem hjc]
        injection ex with ex
        rw [ex]
      obtain ⟨x0, h0⟩ := part 0 f0 rfl k0
      obtain ⟨x1, h1⟩ := part 1 f1 rfl k1
      obtain ⟨x2, h2⟩ := part 2 f2 rfl k2
      obtain ⟨x3, h3⟩ := part 3 f3 rfl k3
      exact ⟨(x0, x1, x2, x3), ⟨h0, h1⟩, h2, h3⟩
    obtain ⟨q, hq⟩ := Go.Deep.choose_lt each
    refine ⟨some a, len0, m, q, rfl, ?_, by omega⟩
    by_cases h0 : len0 = 0
    · exact .inl h0
    · obtain ⟨b, off, spot⟩ := a
      have hspot : spot = none := by simpa [Addr.add] using World.cell?_spot (hq 0 (by omega)).1.1
      subst hspot
      refine .inr ⟨b, off, rfl, fun i hil => ?_⟩
      have := hq i (by omega)
      simpa only [Go.WideShapes.add_plain, Nat.add_assoc] using this
end
/-- gloves' cells, one after another -/
def gcells (gs : Nat → G4) : Nat → List Value
  | 0 => []
  | n + 1 => gcells gs n ++ [.int .i64 (gs n).1, .int .i64 (gs n).2.1, .int .i64 (gs n).2.2.1, .int .i64 (gs n).2.2.2]
theorem gcells_len (gs : Nat → G4) : ∀ n, (gcells gs n).length = n * 4
  | 0 => rfl
  | n + 1 => by show (gcells gs n ++ _).length = _; rw [List.length_append, gcells_len gs n]; simp; omega
theorem gcells_get (gs : Nat → G4) : ∀ n i, i < n → (gcells gs n)[i * 4]? = some (.int .i64 (gs i).1) ∧ (gcells gs n)[i * 4 + 1]? = some (.int .i64 (gs i).2.1) ∧ (gcells gs n)[i * 4 + 2]? = some (.int .i64 (gs i).2.2.1) ∧ (gcells gs n)[i * 4 + 3]? = some (.int .i64 (gs i).2.2.2)
  | n + 1, i, h => by
    have hl := gcells_len gs n
    show (gcells gs n ++ _)[i * 4]? = _ ∧ (gcells gs n ++ _)[i * 4 + 1]? = _ ∧ (gcells gs n ++ _)[i * 4 + 2]? = _ ∧ (gcells gs n ++ _)[i * 4 + 3]? = _
    by_cases hi : i < n
    · obtain ⟨a, b, c, d⟩ := gcells_get gs n i hi
      rw [List.getElem?_append_left (by omega), List.getElem?_append_left (by omega), List.getElem?_append_left (by omega), List.getElem?_append_left (by omega)]
      exact ⟨a, b, c, d⟩
    · obtain rfl : i = n := by omega
      rw [List.getElem?_append_right (by omega), List.getElem?_append_right (by omega), List.getElem?_append_right (by omega), List.getElem?_append_right (by omega), hl]
      simp
theorem gs_of_owns {w : World} {B n : Nat} {v : Value} {gs : Nat → G4} (h : w.ownsRow B 29 4 v n (gcells gs n)) : ∃ a cap, v = .slice a n cap ∧ Gs w a n gs := by
  obtain ⟨hl, ⟨rfl, rfl⟩ | ⟨g, cap, cur, rfl, hg, hc, hn, hm, hs, ht⟩⟩ := h
  · exact ⟨none, 0, rfl, .inl rfl⟩
  · refine ⟨_, cap, rfl, .inr ⟨g, 0, rfl, fun i hlt => ?_⟩⟩
    have h' : w.ownsRow B 29 4 (.slice (some ⟨g, 0, none⟩) n cap) n (gcells gs n) := ⟨hl, .inr ⟨g, cap, cur, rfl, hg, hc, hn, hm, hs, ht⟩⟩
    obtain ⟨a, b, c, d⟩ := gcells_get gs n i hlt
    rw [Nat.zero_add, h'.cellAt (i * 4) (by omega), h'.cellAt (i * 4 + 1) (by omega), h'.cellAt (i * 4 + 2) (by omega), h'.cellAt (i * 4 + 3) (by omega)]
    exact ⟨⟨a, b⟩, c, d⟩
theorem Try.info29 : (Try.prog.info? 29).map (fun i => (i.zero, i.size, i.bytes)) = some (some (.agg #[.int .i64 0, .int .i64 0, .int .i64 0, .int .i64 0]), 4, 32) := by kernel_rfl
theorem owns_below {w w' : World} {B n size : Nat} {e : TypeId} {v : Value} {xs : List Value} (h : w.ownsRow B e size v n xs) (hb : Below w.heap.size w w') : w'.ownsRow B e size v n xs := by
  obtain ⟨hl, h | ⟨g, cap, cur, rfl, hg, hc, hn, hm, hs, ht⟩⟩ := h
  · exact ⟨hl, .inl h⟩
  · refine ⟨hl, .inr ⟨g, cap, cur, rfl, hg, ?_, hn, hm, hs, ht⟩⟩
    rw [hb.block g (Array.getElem?_eq_some_iff.1 hc).1]
    exact hc
set_option maxRecDepth 20000 in
set_option maxHeartbeats 2000000 in
theorem side_is (a : Option Addr) (l c : Nat) (gs : Nat → G4) (w : World) (hs : Gs w a l gs) (hl : l ≤ maxLen) :
    Calls Try.prog 27 #[.slice a l c] w fun e w' => ∃ a' c', e = .returned (.slice a' (min l 34) c') ∧ Gs w' a' (min l 34) gs ∧ Below w.heap.size w w' := by
  obtain ⟨i3, hi3, hz3, hs3, hb3⟩ := info_parts Try.info29
  have H1 := hide hs
  unfold maxLen at hl
  have O0 : Hid (w.ownsRow w.heap.size 29 4 (.slice none 0 0) 0 (gcells gs 0)) := hide ⟨rfl, .inl ⟨rfl, rfl⟩⟩
  go_enter Try.func27, Try.ntmps27
  go_wp2_with fail
  go_loopw [3, 8] (fun v i wr => ∃ (v5 : Value) (wq : World) (k : Nat), v5 = v ∧ wq = wr ∧ k ≤ l ∧ k ≤ 34 ∧ i = .int .i64 k ∧ wr.ownsRow w.heap.size 29 4 v k (gcells gs k) ∧ Below w.heap.size w wr) (fun _ i _ => l - (intOf i).toNat)
  case atStart => exact ⟨_, _, 0, rfl, rfl, Nat.zero_le _, by omega, rfl, O0.out, Below.refl _ _⟩
  case round =>
    clear O0
    obtain ⟨v5, wr, k, rfl, rfl, hk, hk34, rfl, ho, hbel⟩ := hrel
    have HO := hide ho; clear ho
    have HB := hide hbel; clear hbel
    by_cases hlt : k < l
    · obtain ⟨b, off, rfl, hc⟩ : ∃ b off, a = some ⟨b, off, none⟩ ∧ GsAt w b off l gs := by
        rcases H1.out with h | h
        · omega
        · exact h
      obtain ⟨⟨c0, c1⟩, c2, c3⟩ := hc k hlt
      have c0 := kc HB.out c0
      have c1 := kc HB.out c1
      have c2 := kc HB.out c2
      have c3 := kc HB.out c3
      clear hc
      by_cases h34 : k = 34
      · have h33 : (33 : Int) < (k : Int) := by omega
        have hm : Hid (min l 34 = k) := hide (by omega)
        clear h34
        have HBx := hide (bt HB.out (ba wr (.cells #[.int .i64 (gs k).1, .int .i64 (gs k).2.1, .int .i64 (gs k).2.2.1, .int .i64 (gs k).2.2.2] 23)))
        have HOx := hide (owns_below HO.out (ba wr (.cells #[.int .i64 (gs k).1, .int .i64 (gs k).2.1, .int .i64 (gs k).2.2.1, .int .i64 (gs k).2.2.2] 23)))
        go_wp2_with fail
        go_ret
        obtain ⟨a', c', rfl, hg⟩ := gs_of_owns HOx.out
        rw [hm.out]
        exact ⟨a', c', rfl, hg, HBx.out⟩
      · have h33 : ¬ (33 : Int) < (k : Int) := by omega
        have HBx := hide (bt HB.out (ba wr (.cells #[.int .i64 (gs k).1, .int .i64 (gs k).2.1, .int .i64 (gs k).2.2.1, .int .i64 (gs k).2.2.2] 23)))
        have HOx := hide (owns_below HO.out (ba wr (.cells #[.int .i64 (gs k).1, .int .i64 (gs k).2.1, .int .i64 (gs k).2.2.1, .int .i64 (gs k).2.2.2] 23)))
        clear c0 c1 c2 c3
        have HC := hide (show GsAt w b off l gs from by
          rcases H1.out with h | ⟨b', off', e, h⟩
          · omega
          · cases e; exact h)
        have c0 := kc HB.out (HC.out k hlt).1.1
        have c1 := kc HB.out (HC.out k hlt).1.2
        have c2 := kc HB.out (HC.out k hlt).2.1
        have c3 := kc HB.out (HC.out k hlt).2.2
        go_wp2_with fail
        refine (glove_any _ _ _ _ _).mono ?_
        rintro e w1 ⟨rfl, hb⟩
        have HB1 := hide (bt HBx.out hb)
        have HO1 := hide (owns_below HOx.out hb)
        have hbs : Hid (w.heap.size ≤ w1.heap.size) := hide HB1.out.size
        clear hb HBx HOx HB HO
        go_wp2_with (at_builtin; refine wpList_append_own _ rfl _ _ 41 rfl w.heap.size 29 i3 (.agg #[.int .i64 0, .int .i64 0, .int .i64 0, .int .i64 0]) 4 32 Try.underlying41 hi3 hz3 hs3 hb3 rfl (by decide) _ _ _ rfl (HO1.out.alloc _) ⟨w1.heap.size, 0, none⟩ 1 1 [.int .i64 (gs k).1, .int .i64 (gs k).2.1, .int .i64 (gs k).2.2.1, .int .i64 (gs k).2.2.2] rfl rfl ?d1 ?d2 ?d3 ?d4 ?d5 ?_)
        case d1 =>
          intro j u hj
          match j, hj with
          | 0, hj => simp at hj; subst hj; simp [Addr.add]
          | 1, hj => simp at hj; subst hj; simp [Addr.add]
          | 2, hj => simp at hj; subst hj; simp [Addr.add]
          | 3, hj => simp at hj; subst hj; simp [Addr.add]
        case d2 => intro u hu; simp at hu; rcases hu with rfl | rfl | rfl | rfl <;> rfl
        case d3 => unfold maxLen; omega
        case d4 => omega
        case d5 => simp; have := hbs.out; omega
        intro v' w7 hown' hgrow _
        have HO2 : Hid (w7.ownsRow w.heap.size 29 4 v' (k + 1) (gcells gs (k + 1))) := hide hown'
        have HB2 := hide ((HB1.out.alloc hbs.out (.cells #[.int .i64 (gs k).1, .int .i64 (gs k).2.1, .int .i64 (gs k).2.2.1, .int .i64 (gs k).2.2.2] 29)).grown hgrow (by simp; have := hbs.out; omega) (fun q hq => (HO1.out.lt q hq).1))
        clear hown' hgrow
        go_wp2_with fail
        go_roundw
        case rel => exact ⟨_, _, k + 1, rfl, rfl, by omega, by omega, by go_num, HO2.out, HB2.out⟩
        case measure => simp [intOf]; omega
    · obtain rfl : k = l := by omega
      go_wp2_with fail
      go_ret
      have hm : min k 34 = k := by omega
      obtain ⟨a', c', rfl, hg⟩ := gs_of_owns HO.out
      rw [hm]
      exact ⟨a', c', rfl, hg, HB.out⟩
end Go.Proofs.Ytcakcdolijgjeaa
