/- turned. -/
import Derived.Test.YtkajcbjacjfhnaaHc
set_option linter.unusedVariables false
namespace Go.Proofs.Ytkajcbjacjfhnaa
open Go.RowKit Go.Ab
set_option maxRecDepth 20000 in
set_option maxHeartbeats 2000000 in
theorem turned_is (b off l c n : Nat) (f : Nat → Nat → UInt8) (w : World) (hz : ZsAt w b off l (rowS f n)) (h1 : 1 ≤ l) (h2 : l ≤ 48) (h3 : n ≤ 48) (h4 : 1 ≤ n) :
    Calls Try.prog 73 #[.slice (some ⟨b, off, none⟩) l c] w fun e w' => ∃ v, e = .returned v ∧ Sk w' v l n (fun x y => f y (l - 1 - x)) ∧ Below w.heap.size w w' := by
  have HM := mi_new w b off l c n f ((l : Int) - 1) hz 22 3
  have c0 := (hz 0 h1).1
  rw [Nat.add_zero] at c0
  have h1i : (0 : Int) < (l : Int) := by omega
  have h1n : 0 < l := by omega
  have hsz : (rowS f n 0).size = n := rowS_size f n 0
  have hbw : b < w.heap.size := World.block_lt_of_cell? _ _ c0
  have H := hide (And.intro h1 (And.intro h2 (And.intro h3 h4)))
  clear hz
  go_enter Try.func73, Try.ntmps73
  go_wp2_with fail
  have hmf : ∀ (fn : Fn) (first cap : Array Value) (w : World), (Instr.makeFunc fn first cap).run Try.prog w = .ok (.func fn first cap) w := fun _ _ _ _ => rfl
  have HMd := mi_drew HM
  go_region_held3 (fun W => (W.cell? ⟨w.heap.size, 0, none⟩ = some (.slice (some ⟨b, off, none⟩) l c) ∧ W.cell? ⟨b, off, none⟩ = some (.string (rowS f n 0))) ∧ Hid (Mi w W b off l c n f ((l : Int) - 1)))
    ((go_split_ands; refine mi_get ?_ H.out.1; first | (with_reducible exact HM) | (with_reducible exact HMd) | (with_reducible exact mi_step ‹_› hbw)))
    ((go_at_call 75; (with_reducible refine (drawn_any 124 #[.pointer (some ⟨w.heap.size, 0, none⟩), .pointer (some ⟨w.heap.size + 1, 0, none⟩)] l n (fun x y => f y (l - 1 - x)) _ H.out.2.1 H.out.2.2.1 ent124 (turned1_at (by assumption) H.out.2.1 H.out.2.2.1)).mono ?_); rintro e w' ⟨v', rfl, hown, hbw⟩))
  go_wp2_with fail
  refine bodyPost_ret (v := v') (by simp [results, Try.results73, go_sem]) rfl ⟨v', rfl, sk_of_owns hown H.out.2.2.2 H.out.2.1, ?_⟩
  exact (mi_step HMd hbw).out.2.2
end Go.Proofs.Ytkajcbjacjfhnaa
