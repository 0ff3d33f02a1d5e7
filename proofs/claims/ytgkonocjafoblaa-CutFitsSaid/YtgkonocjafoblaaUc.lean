/- A table of rows of numbers in memory; a row cloned. -/
import Derived.Test.YtgkonocjafoblaaUb
import Derived.Deep.OwnRows
import Derived.Lib.AppendZeros
set_option linter.unusedVariables false
namespace Go.Proofs.Ytgkonocjafoblaa
open Go Go.RowKit Go.Ab
/-- block g holds at least n numbers, F of them told -/
def Row (W : World) (g n : Nat) (F : Nat → Nat) : Prop := ∃ cap f, W.rowIs g 3 cap f ∧ n ≤ cap ∧ ∀ i, i < n → f i = .int .i64 (F i : Int)
theorem Row.cell {W : World} {g n : Nat} {F : Nat → Nat} (h : Row W g n F) {i : Nat} (hi : i < n) : W.cell? ⟨g, i, none⟩ = some (.int .i64 (F i : Int)) := by
  obtain ⟨cap, f, h1, h2, h3⟩ := h
  rw [h1.cell (by omega), h3 i hi]
theorem Row.frozen {W : World} {g n : Nat} {F : Nat → Nat} (h : Row W g n F) (i : Nat) : W.frozen? ⟨g, i, none⟩ = false := by
  obtain ⟨cap, f, h1, _⟩ := h
  exact h1.frozen i
theorem Row.lt {W : World} {g n : Nat} {F : Nat → Nat} (h : Row W g n F) : g < W.heap.size := by
  obtain ⟨cap, f, h1, _⟩ := h
  exact h1.lt
theorem Row.set {W : World} {g n : Nat} {F : Nat → Nat} (h : Row W g n F) (i v : Nat) : Row (W.setCell ⟨g, i, none⟩ (.int .i64 (v : Int))) g n (fun j => if j = i then v else F j) := by
  obtain ⟨cap, f, h1, h2, h3⟩ := h
  refine ⟨cap, _, h1.set i _, h2, fun j hj => ?_⟩
  by_cases e : j = i
  · simp only [if_pos e]
  · simp only [if_neg e]; exact h3 j hj
theorem Row.other {W : World} {g n : Nat} {F : Nat → Nat} (h : Row W g n F) {a : Addr} (ha : g ≠ a.block) (v : Value) : Row (W.setCell a v) g n F := by
  obtain ⟨cap, f, h1, h2⟩ := h
  exact ⟨cap, f, h1.setOther ha v, h2⟩
theorem row_of_block {w w' : World} {b t n : Nat} {g : Nat → Value} (h : w.rowIs b t n g) (hb : Below w.heap.size w w') : w'.rowIs b t n g := by
  obtain ⟨c, h1, h2, h3⟩ := h
  exact ⟨c, (hb.block b (Array.getElem?_eq_some_iff.1 h1).1).trans h1, h2, h3⟩
theorem Row.below {W W' : World} {g n : Nat} {F : Nat → Nat} (h : Row W g n F) (hb : Below W.heap.size W W') : Row W' g n F := by
  obtain ⟨cap, f, h1, h2⟩ := h
  exact ⟨cap, f, row_of_block h1 hb, h2⟩
theorem Row.congr {W : World} {g n : Nat} {F G : Nat → Nat} (h : Row W g n F) (e : ∀ i, i < n → F i = G i) : Row W g n G := by
  obtain ⟨cap, f, h1, h2, h3⟩ := h
  exact ⟨cap, f, h1, h2, fun i hi => by rw [h3 i hi, e i hi]⟩
def rwV (rb rc : Nat → Nat) (n j : Nat) : Value := .slice (some ⟨rb j, 0, none⟩) (n + 1) (rc j)
/-- the table of l + 1 rows from block O, those from l - d on made -/
structure Tbl (W : World) (O l n d : Nat) (rb rc : Nat → Nat) (F : Nat → Nat → Nat) : Prop where
  outer : W.rowIs O 57 (l + 1) (fun j => if l - d ≤ j then rwV rb rc n j else .slice none 0 0)
  row : ∀ j, l - d ≤ j → j ≤ l → Row W (rb j) (n + 1) (F j)
  apart : ∀ j, l - d ≤ j → j ≤ l → O < rb j
theorem Tbl.below {W W' : World} {O l n d : Nat} {rb rc : Nat → Nat} {F : Nat → Nat → Nat} (h : Tbl W O l n d rb rc F) (hb : Below W.heap.size W W') : Tbl W' O l n d rb rc F :=
  ⟨row_of_block h.outer hb, fun j h1 h2 => (h.row j h1 h2).below hb, h.apart⟩
/-- one row more: made in a new block, its slice stored -/
theorem Tbl.more {W W' : World} {O l n d g c : Nat} {rb rc : Nat → Nat} {F : Nat → Nat → Nat} (h : Tbl W O l n d rb rc F) (hb : Below W.heap.size W W') (hd : d < l) (hg : W.heap.size ≤ g) {G : Nat → Nat} (hr : Row W' g (n + 1) G) :
    Tbl (W'.setCell ⟨O, l - 1 - d, none⟩ (.slice (some ⟨g, 0, none⟩) (n + 1) c)) O l n (d + 1) (fun j => if j = l - 1 - d then g else rb j) (fun j => if j = l - 1 - d then c else rc j) (fun j => if j = l - 1 - d then G else F j) := by
  have h' := h.below hb
  have hO : O < W.heap.size := h.outer.lt
  refine ⟨(h'.outer.set _ _).congr fun j hj => ?_, fun j h1 h2 => ?_, fun j h1 h2 => ?_⟩
  · by_cases e : j = l - 1 - d
    · subst e
      rw [if_pos rfl, if_pos (by omega)]
      simp only [rwV, if_true]
    · rw [if_neg e]
      by_cases e2 : l - d ≤ j
      · rw [if_pos e2, if_pos (by omega)]
        simp only [rwV, if_neg e]
      · rw [if_neg e2, if_neg (by omega)]
  · by_cases e : j = l - 1 - d
    · simp only [if_pos e]
      exact hr.other (by show g ≠ O; omega) _
    · simp only [if_neg e]
      exact (h'.row j (by omega) h2).other (by have := h'.apart j (by omega) h2; show rb j ≠ O; omega) _
  · by_cases e : j = l - 1 - d
    · simp only [if_pos e]; omega
    · simp only [if_neg e]; exact h.apart j (by omega) h2
theorem Try.info3 : (Try.prog.info? 3).map (fun i => (i.zero, i.size, i.bytes)) = some (some (.int .i64 0), 1, 8) := by kernel_rfl
theorem Try.info57 : (Try.prog.info? 57).map (fun i => (i.zero, i.size, i.bytes)) = some (some (.slice none 0 0), 1, 24) := by kernel_rfl
theorem info_parts {P : Program} {t : TypeId} {z : Value} {n m : Nat} (h : (P.info? t).map (fun i => (i.zero, i.size, i.bytes)) = some (some z, n, m)) : ∃ i, P.info? t = some i ∧ i.zero = some z ∧ i.size = n ∧ i.bytes = m := by
  obtain ⟨i, hi, e⟩ := Option.map_eq_some_iff.1 h
  simp only [Prod.mk.injEq] at e
  exact ⟨i, hi, e⟩
def ints (F : Nat → Nat) (n : Nat) : List Value := (List.range n).map fun i => .int .i64 (F i : Int)
theorem ints_len (F : Nat → Nat) (n : Nat) : (ints F n).length = n := by simp [ints]
theorem ints_get (F : Nat → Nat) (n i : Nat) (h : i < n) : (ints F n)[i]? = some (.int .i64 (F i : Int)) := by unfold ints; simp [h]
/-- what an append has made of numbers -/
theorem row_of_owns {W : World} {B n : Nat} {v : Value} {F : Nat → Nat} (h : W.ownsRow B 3 1 v (n + 1) (ints F (n + 1))) : ∃ g cap, v = .slice (some ⟨g, 0, none⟩) (n + 1) cap ∧ B ≤ g ∧ Row W g (n + 1) F := by
  obtain ⟨hl, h⟩ := h
  rcases h with ⟨_, h0⟩ | ⟨g, cap, cur, e, hB, hg, hnc, _, hcs, htake⟩
  · omega
  · refine ⟨g, cap, e, hB, cur.size, fun i => cur.getD i undef, ⟨cur, hg, rfl, fun i hi => by simp [hi]⟩, by omega, fun i hi => ?_⟩
    have h1 := ints_get F (n + 1) i hi
    rw [← htake, List.getElem?_take, if_pos (by omega)] at h1
    have h2 : cur[i]? = some (.int .i64 (F i : Int)) := by simpa using h1
    simp [Array.getD_eq_getD_getElem?, h2]
set_option maxRecDepth 20000 in
set_option maxHeartbeats 2000000 in
theorem clone_is (b n c : Nat) (F : Nat → Nat) (w : World) (hr : Row w b (n + 1) F) (hn : n ≤ 2000) :
    Calls Try.prog 134 #[.slice (some ⟨b, 0, none⟩) (n + 1) c] w fun e w' => ∃ g cap, e = .returned (.slice (some ⟨g, 0, none⟩) (n + 1) cap) ∧ w.heap.size ≤ g ∧ Row w' g (n + 1) F ∧ Below w.heap.size w w' := by
  obtain ⟨i3, hi3, hz3, hs3, hb3⟩ := info_parts Try.info3
  have HN := hide hn
  have HB : Hid (Below w.heap.size w (w.alloc (.cells #[] 3))) := hide ((Below.refl _ _).alloc (Nat.le_refl _) _)
  have HR := hide (hr.below HB.out)
  have HO : Hid ((w.alloc (.cells #[] 3)).ownsRow w.heap.size 3 1 (.slice (some ⟨w.heap.size, 0, none⟩) 0 0) 0 []) := hide (World.ownsRow_lit w #[] 0 (Nat.le_refl _) (by unfold maxLen; omega) (by simp))
  clear hr
  have heq : ∀ w, (binOp .eql 57 (.slice (some ⟨b, 0, none⟩) (n + 1) c) (.slice none 0 0)).run Try.prog w = .ok (.bool false) w := fun _ => by kernel_rfl
  go_enter Try.func134, Try.ntmps134
  go_wp2_with (at_builtin; refine wpList_append_own _ rfl _ _ 57 rfl w.heap.size 3 i3 (.int .i64 0) 1 8 Try.underlying57 hi3 hz3 hs3 hb3 rfl (by decide) _ _ _ rfl HO.out ⟨b, 0, none⟩ (n + 1) c (ints F (n + 1)) rfl (by rw [ints_len]; omega) ?d1 ?d2 ?d3 ?d4 ?d5 ?_)
  case d1 =>
    intro j u hj
    by_cases hjl : j < n + 1
    · rw [ints_get F (n + 1) j hjl] at hj
      cases hj
      rw [Go.WideShapes.add_plain, Nat.zero_add]
      exact HR.out.cell hjl
    · rw [List.getElem?_eq_none (by rw [ints_len]; omega)] at hj; cases hj
  case d2 => intro u hu; unfold ints at hu; simp at hu; obtain ⟨_, _, rfl⟩ := hu; rfl
  case d3 => unfold maxLen; omega
  case d4 => omega
  case d5 => simp
  intro v' w7 hown hgrow _
  have HS : Hid (∃ g cap, v' = .slice (some ⟨g, 0, none⟩) (n + 1) cap ∧ w.heap.size ≤ g ∧ Row w7 g (n + 1) F) := hide (row_of_owns (by simpa using hown))
  have HB2 := hide (HB.out.grown hgrow (by simp) (fun q hq => (HO.out.lt q hq).1))
  clear hown hgrow
  obtain ⟨g, cap, rfl, hg, hr⟩ := HS.out
  have HR7 := hide hr
  clear hr HS
  go_wp2_with fail
  go_ret
  exact ⟨g, cap, rfl, hg, HR7.out, HB2.out⟩
end Go.Proofs.Ytgkonocjafoblaa
