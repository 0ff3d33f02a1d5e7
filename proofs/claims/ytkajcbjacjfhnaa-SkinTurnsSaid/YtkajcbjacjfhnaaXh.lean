/- An operation that looks at no memory (4): slices; all of them. -/
import Derived.Test.YtkajcbjacjfhnaaXg
namespace Go.Ab
open Go Go.RowKit
section
variable {P : Program} {ρ : Ren} {ev ev' : Operand → Value}

theorem bound_ok {x : Value} {y : Nat} {code : BoundsCode} {k : IntKind} {i : Int} (hx : x = .int k i) (h : 0 ≤ i ∧ i ≤ (y : Int)) (w : World) : (Instr.sliceBound x y code).run P w = .ok i.toNat w := by
  subst hx
  simp [Instr.sliceBound, asIntOf, h]

theorem bnd_ok {y : Nat} {x : Option Operand} {d : Option Nat} {r : Nat} (h : bnd y (x.map ev) d = some r) : (x = none ∧ d = some r) ∨ (∃ o k i, x = some o ∧ ev o = .int k i ∧ 0 ≤ i ∧ i ≤ (y : Int) ∧ r = i.toNat) := by
  cases x with
  | none => exact .inl ⟨rfl, by simpa [bnd] using h⟩
  | some o =>
    right
    simp only [Option.map_some, bnd] at h
    split at h
    · rename_i k i hv
      cases hv' : ev o <;> simp only [hv'] at hv <;> try cases hv
      split at h
      · rename_i hb; cases h; exact ⟨o, _, _, rfl, hv', hb.1, hb.2, rfl⟩
      · cases h
    · cases h
    · rename_i hv; cases hv

theorem bounds_ok {isS : Bool} {len cap cap' : Nat} (hcap : cap ≤ cap') {lo hi mx : Option Operand} (hlo : ∀ x ∈ lo, VR ρ (ev x) (ev' x)) (hhi : ∀ x ∈ hi, VR ρ (ev x) (ev' x)) (hmx : ∀ x ∈ mx, VR ρ (ev x) (ev' x))
    {l h m : Nat} (e : boundsA len cap (lo.map ev) (hi.map ev) (mx.map ev) = some (l, h, m)) :
    ∃ m', (∀ w, (Instr.sliceBounds isS len cap' (lo.map ev') (hi.map ev') (mx.map ev')).run P w = .ok (l, h, m') w) ∧ l ≤ h ∧ m ≤ cap ∧ (m' = m ∨ (m = cap ∧ m' = cap')) := by
  unfold boundsA at e
  split at e
  · cases e
  rename_i m1 em
  split at e
  · cases e
  rename_i h1 eh
  split at e
  · cases e
  rename_i l1 el
  simp only [Option.some.injEq, Prod.mk.injEq] at e
  obtain ⟨rfl, rfl, rfl⟩ := e
  have hl : l1 ≤ h1 := by
    rcases bnd_ok el with ⟨_, hd⟩ | ⟨_, _, _, _, _, _, hi, rfl⟩
    · simp at hd; omega
    · omega
  rcases bnd_ok em with ⟨rfl, hd⟩ | ⟨om, km, im, rfl, hvm, hm0, hm1, rfl⟩
  · simp at hd
    subst hd
    refine ⟨cap', fun w => ?_, hl, Nat.le_refl _, .inr ⟨rfl, rfl⟩⟩
    unfold Instr.sliceBounds
    rcases bnd_ok eh with ⟨rfl, hd⟩ | ⟨oh, kh, ih, rfl, hvh, hh0, hh1, rfl⟩
    · simp at hd
      subst hd
      rcases bnd_ok el with ⟨rfl, hd⟩ | ⟨ol, kl, il, rfl, hvl, hl0, hl1, rfl⟩
      · simp at hd; subst hd; simp
      · have hvl' := hlo ol rfl; rw [hvl] at hvl'
        simp [bound_ok (P := P) hvl'.int_inv ⟨hl0, hl1⟩ w]
    · have hvh' := hhi oh rfl; rw [hvh] at hvh'
      rcases bnd_ok el with ⟨rfl, hd⟩ | ⟨ol, kl, il, rfl, hvl, hl0, hl1, rfl⟩
      · simp at hd; subst hd; simp [bound_ok (P := P) (y := cap') hvh'.int_inv ⟨hh0, by omega⟩ w]
      · have hvl' := hlo ol rfl; rw [hvl] at hvl'
        simp [bound_ok (P := P) (y := cap') hvh'.int_inv ⟨hh0, by omega⟩ w, bound_ok (P := P) hvl'.int_inv ⟨hl0, hl1⟩ w]
  · have hvm' := hmx om rfl; rw [hvm] at hvm'
    refine ⟨im.toNat, fun w => ?_, hl, by omega, .inl rfl⟩
    unfold Instr.sliceBounds
    rcases bnd_ok eh with ⟨rfl, hd⟩ | ⟨oh, kh, ih, rfl, hvh, hh0, hh1, rfl⟩
    · simp at hd
    · have hvh' := hhi oh rfl; rw [hvh] at hvh'
      rcases bnd_ok el with ⟨rfl, hd⟩ | ⟨ol, kl, il, rfl, hvl, hl0, hl1, rfl⟩
      · simp at hd; subst hd; simp [bound_ok (P := P) (y := cap') hvm'.int_inv ⟨hm0, by omega⟩ w, bound_ok (P := P) (y := im.toNat) hvh'.int_inv ⟨hh0, by omega⟩ w]
      · have hvl' := hlo ol rfl; rw [hvl] at hvl'
        simp [bound_ok (P := P) (y := cap') hvm'.int_inv ⟨hm0, by omega⟩ w, bound_ok (P := P) (y := im.toNat) hvh'.int_inv ⟨hh0, by omega⟩ w, bound_ok (P := P) hvl'.int_inv ⟨hl0, hl1⟩ w]

theorem slice_ok {w0 w : World} {H : Hp} (hR : Rel P w0 ρ H w) {o : Oper} {t : TypeId} {x : Operand} {lo hi mx : Option Operand} (ho : o.op = .slice t x lo hi mx) (hE : Evs ρ ev ev' o) {v : Value}
    (h : regSlice P H ev o t x lo hi mx = some v) : Gives P ρ ev' o v := by
  have hs : ∀ cs b, o.op ≠ .select cs b := fun cs b e => by rw [ho] at e; cases e
  have hx : VR ρ (ev x) (ev' x) := hE x (by rw [ho]; simp [Op.operands])
  have hlo : ∀ y ∈ lo, VR ρ (ev y) (ev' y) := fun y hy => hE y (by rw [ho]; cases hy; simp [Op.operands])
  have hhi : ∀ y ∈ hi, VR ρ (ev y) (ev' y) := fun y hy => hE y (by rw [ho]; cases hy; simp [Op.operands])
  have hmx : ∀ y ∈ mx, VR ρ (ev y) (ev' y) := fun y hy => hE y (by rw [ho]; cases hy; simp [Op.operands])
  unfold regSlice at h
  split at h
  · rename_i e a len cap hu hv
    rw [hv] at hx
    obtain ⟨a', cap', ea, hcase⟩ := hx.sl_inv
    split at h
    case h_2 => cases h
    rename_i s c E l hh m hsz hget hb
    split at h
    case isFalse => cases h
    rename_i hc
    obtain ⟨rfl, hhm⟩ := hc
    cases h
    have hcap : cap ≤ cap' := by
      rcases hcase with ⟨_, hck⟩ | ⟨_, rfl, rfl⟩
      · rcases hck with rfl | ⟨p, es, N, M, _, _, _, _, hle⟩
        · exact Nat.le_refl _
        · exact hle
      · exact Nat.le_refl _
    obtain ⟨m', hbr, hlh, hmc, hmm⟩ := bounds_ok (P := P) (isS := true) hcap hlo hhi hmx hb
    refine ⟨.slice (if m' = l then some a' else some (a'.add (l * s))) (hh - l) (m' - l), ?_, fun w => ?_⟩
    · by_cases hml : m' = l
      · have e1 : hh - l = 0 := by rcases hmm with rfl | ⟨rfl, rfl⟩ <;> omega
        have e2 : m - l = 0 := by rcases hmm with rfl | ⟨rfl, rfl⟩ <;> omega
        have e3 : m' - l = 0 := by omega
        rw [e1, e2, e3, if_pos hml]
        exact .sle _ _
      · rw [if_neg hml]
        rcases hcase with ⟨har, hck⟩ | ⟨rfl, rfl, rfl⟩
        · refine .sl (har.add _) ?_
          rcases hmm with rfl | ⟨rfl, rfl⟩
          · exact .inl rfl
          · rcases hck with rfl | ⟨p, es, N, M, hp, htl, hN, hM, hle⟩
            · exact .inl rfl
            · right
              obtain ⟨q, c', fz, hq, _, _, hten⟩ := hR.blk a.block _ hget
              rw [hp] at hq; cases hq
              obtain ⟨_, _, _, hes⟩ := hten es N M htl
              have : es = s := by unfold size? at hsz; rw [hsz] at hes; simpa using hes.symm
              subst this
              have hadd : ∀ b : Addr, (b.add (l * es)).off = b.off + l * es := fun b => by unfold Addr.add; split <;> simp_all
              have hblk : (a.add (l * es)).block = a.block := by unfold Addr.add; split <;> rfl
              have h1 : (m - l) * es = m * es - l * es := Nat.sub_mul m l es
              have h2 : (m' - l) * es = m' * es - l * es := Nat.sub_mul m' l es
              have h3 : l * es ≤ m * es := Nat.mul_le_mul_right es (by omega)
              have h4 : l * es ≤ m' * es := Nat.mul_le_mul_right es (by omega)
              exact ⟨p, es, N, M, by rw [hblk]; exact hp, htl, by rw [hadd, h1]; omega, by rw [hadd, h2]; omega, by omega⟩
        · exfalso
          rcases hmm with rfl | ⟨rfl, rfl⟩ <;> omega
    · simp only [execOp, ho, Instr.sliceAt, Sem.run_bind, und_run hu w, Result.andThen_ok, Instr.slice, ea, hbr w, size_run hsz w, Sem.run_pure]
      split <;> rfl
  · rename_i e hu hv
    rw [hv] at hx
    split at h
    case h_2 => cases h
    rename_i s hsz hb
    cases h
    obtain ⟨m', hbr, hlh, hmc, hmm⟩ := bounds_ok (P := P) (isS := true) (Nat.le_refl 0) hlo hhi hmx hb
    have hm0 : m' = 0 := by rcases hmm with rfl | ⟨_, rfl⟩ <;> rfl
    subst hm0
    refine ⟨.slice none 0 0, .sl0 0 0, fun w => ?_⟩
    simp [execOp, ho, Instr.sliceAt, und_run hu w, Instr.slice, hx.sl0_inv, hbr w, size_run hsz w]
  · rename_i n e a hu hv
    rw [hv] at hx
    obtain ⟨a', ea, har⟩ := hx.ptr_inv
    split at h
    case h_2 => cases h
    rename_i s l hh m hsz hb
    split at h
    case isTrue => cases h
    rename_i hml
    cases h
    obtain ⟨m', hbr, hlh, hmc, hmm⟩ := bounds_ok (P := P) (isS := false) (Nat.le_refl n) hlo hhi hmx hb
    have : m' = m := by rcases hmm with rfl | ⟨rfl, rfl⟩ <;> rfl
    subst this
    refine ⟨.slice (some (a'.add (l * s))) (hh - l) (m' - l), .sl (har.add _) (.inl rfl), fun w => ?_⟩
    simp only [execOp, ho, Instr.sliceAt, Sem.run_bind, und_run hu w, Result.andThen_ok, ea, Instr.sureAddr, Sem.run_pure, hbr w, size_run hsz w, if_neg hml]
  · exact regPlain_ok hE hs h
  · cases h

theorem regOp_ok {w0 w : World} {H : Hp} (hR : Rel P w0 ρ H w) {o : Oper} (hE : Evs ρ ev ev' o) {v : Value} (h : regOp P H ev o = some v) : Gives P ρ ev' o v := by
  unfold regOp at h
  split at h
  · rename_i x ho; cases h; exact ⟨ev' x, hE x (by rw [ho]; simp [Op.operands]), fun w => by simp [execOp, ho]⟩
  · rename_i x ho; cases h; exact ⟨ev' x, hE x (by rw [ho]; simp [Op.operands]), fun w => by simp [execOp, ho]⟩
  · rename_i ho; exact pick_ok ho hE h
  · rename_i ho; cases h; exact makeFunc_ok ho hE
  · rename_i ho; exact extract_ok ho hE h
  · rename_i ho; exact field_ok ho hE h
  · rename_i ho; exact build_ok ho hE h
  · rename_i ho; exact fieldAddr_ok ho hE h
  · rename_i ho; exact indexAddr_ok ho hE h
  · rename_i ho; exact slice_ok hR ho hE h
  · rename_i ho; exact nilCheck_ok ho hE h
  · rename_i ho; exact regCall_ok ho hE h
  · rename_i ho; exact bin_ok ho hE h
  · rename_i ho; exact un_ok ho hE h
  · rename_i ho; exact convert_ok ho hE h
  · rename_i ho; exact index_ok ho hE h
  · rename_i ho; exact regPlain_ok hE (fun cs b e => by rw [ho] at e; cases e) h
  · cases h
end
end Go.Ab
