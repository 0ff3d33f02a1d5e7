/- An operation that makes or writes memory (4): append over the abstract heap; all of them. -/
import Derived.Test.YtkajcbjacjfhnaaXl
namespace Go.Ab
open Go Go.RowKit
section
variable {P : Program} {ρ : Ren} {ev ev' : Operand → Value} {w0 w : World} {H : Hp}

theorem zeroCells_size (z : Array Value) (n : Nat) : (Builtin.zeroCells z n).size = n * z.size := by simp [Builtin.zeroCells]

/-- a row that has grown into new memory -/
theorem grown_ok (hR : Rel P w0 ρ H w) {id : Nat} {e : TypeId} {size m c : Nat} {l l' : List Value} (hl : VRs ρ l l') (hlen : l.length = m * size) (hsz : size? P e = some size) (h0 : 0 < size) (hc : m ≤ c) {z : Array Value} (hz : z.size = size)
    {H' : Hp} {v : Value} (h : newRowA H id l e m = some (v, H')) : ∃ ρ' v', VR ρ' v v' ∧ Ext ρ ρ' ∧ v' = .slice (some ⟨w.heap.size, 0, none⟩) m c ∧ Rel P w0 ρ' H' (w.drew.alloc (.cells (⟨l'⟩ ++ Builtin.zeroCells z (c - m)) e)) ∧ Keeps H H' := by
  unfold newRowA at h
  cases ha : anew H id (.cells l e) with
  | none => simp [ha] at h
  | some H1 =>
    simp only [ha, Option.some.injEq, Prod.mk.injEq] at h
    obtain ⟨rfl, rfl⟩ := h
    have hl' : l'.length = m * size := by rw [hl.length, hlen]
    have hM : ((⟨l'⟩ : Array Value) ++ Builtin.zeroCells z (c - m)).size = c * size := by
      rw [Array.size_append, zeroCells_size, hz]
      show l'.length + _ = _
      rw [hl', ← Nat.add_mul]
      congr 1; omega
    obtain ⟨ρ', he, hp, hR', hk⟩ := new_ok hR.drew ha (⟨l'⟩ ++ Builtin.zeroCells z (c - m)) (some (size, m * size, c * size)) (fun i v hi => by
        obtain ⟨v', a, b⟩ := hl.get i v hi
        refine ⟨v', ?_, b⟩
        rw [Array.getElem?_append_left (by have := (List.getElem?_eq_some_iff.1 a).1; simpa using this)]
        simpa using a) (fun es N M hx => by cases hx; exact ⟨hlen.symm, hM.symm, h0, hsz⟩)
    refine ⟨ρ', _, .sl (a' := ⟨w.heap.size, 0, none⟩) (c' := c) (new_ptr (w := w.drew) hp) (.inr ⟨_, size, m * size, c * size, hp, rfl, ?_, ?_, hc⟩), he, rfl, hR', hk⟩
    · show 0 + m * size = m * size; omega
    · show 0 + c * size = c * size; omega

/-- a row that has grown where it lies -/
theorem room_ok (hR : Rel P w0 ρ H w) {id : Nat} {e : TypeId} {size len cap' n : Nat} {a a' : Addr} (har : AR ρ a a') {p : Place} (hp : ρ a.block = some p) {es N M : Nat} (htl : p.tl = some (es, N, M)) (hM : a'.off + cap' * es = M)
    {cs : List Value} (hg : H.get a.block = some (.cells cs e)) (hes : es = size) (hlo : H.lo ≤ a.block) (h39 : a.block < 2 ^ 39) (hne : a.block ≠ id) {old new new' : List Value} (hold : readN H H.next a (len * size) = some old)
    (hnew : VRs ρ new new') (hnl : new.length = n * size) (hone : new.all one = true) (hfit : len + n ≤ cap') (h0 : 0 < size) (hsz : size? P e = some size)
    {H' : Hp} {v : Value} (h : newRowA (H.set a.block .dead) id (old ++ new) e (len + n) = some (v, H')) :
    ∃ ρ' w', (storeCells (a'.add (len * size)) new').run P w = .ok () w' ∧ VR ρ' v (.slice (some a') (len + n) cap') ∧ Ext ρ ρ' ∧ Rel P w0 ρ' H' w' ∧ Keeps H H' := by
  subst hes
  obtain ⟨s, s', q, hq, e1, e2⟩ := har
  rw [hp] at hq; cases hq
  unfold newRowA at h
  cases ha : anew (H.set a.block .dead) id (.cells (old ++ new) e) with
  | none => simp [ha] at h
  | some H1 =>
    simp only [ha, Option.some.injEq, Prod.mk.injEq] at h
    obtain ⟨rfl, rfl⟩ := h
    obtain ⟨hgn, hid, hidlo, rfl⟩ := anew_spec ha
    have hidlo : H.lo ≤ id := hidlo
    have hkill := hR.kill a.block h39 hg
    have hgid : H.get id = none := by rw [Hp.get_other H _ (Ne.symm hne)] at hgn; exact hgn
    have hρid : ρ id = none := hR.fresh id hgid
    obtain ⟨q, c', fz, hq, hb, hcell, htl'⟩ := hR.blk a.block _ hg
    rw [hp] at hq; cases hq
    obtain ⟨hN, hM', hes0, _⟩ := htl' es N M htl
    have hlive := live_of hg (by simp)
    obtain ⟨hbase, hsoft⟩ := hR.own a.block p hlive hlo hp
    have : fz = (0, 0) := hsoft c' e fz hb
    subst this
    have hnl' : new'.length = n * es := by rw [hnew.length, hnl]
    have hoff : (a'.add (len * es)) = ⟨p.real, a'.off + len * es, none⟩ := by
      obtain ⟨b, o, sp⟩ := a'
      simp only at s' e1
      subst s' e1
      unfold Addr.add; split <;> simp_all
    have hend : a'.off + len * es + new'.length ≤ c'.size := by
      rw [hnl', ← hM', ← hM]
      have := Nat.mul_le_mul_right es hfit
      rw [Nat.add_mul] at this
      omega
    obtain ⟨old2, hvo, holen, hrun2⟩ := readN_ok hR (⟨s, s', p, hp, e1, e2⟩ : AR ρ a a') hold
    have hrun := run_storeCells_at (P := P) p.real (a'.off + len * es) e new' 0 c' w hb (by omega) (fun v hv => by
      obtain ⟨i, hi⟩ := List.getElem?_of_mem hv
      have hlt : i < new.length := by have := (List.getElem?_eq_some_iff.1 hi).1; omega
      obtain ⟨u, hu, r⟩ := hnew.get i _ (List.getElem?_eq_getElem hlt)
      rw [hi] at hu; cases hu
      exact one_oneCell r (List.all_eq_true.1 hone _ (List.getElem_mem hlt)))
    rw [← hoff, Nat.add_zero] at hrun
    have hol : old.length = len * es := by rw [← hvo.length, holen]
    -- what lies in the old cells
    have holdget : ∀ i v, old[i]? = some v → ∃ v', c'[i + a'.off]? = some v' ∧ VR ρ v v' := fun i v hi => by
      have hilt : i < len * es := by rw [← hol]; exact (List.getElem?_eq_some_iff.1 hi).1
      unfold readN at hold
      cases hle : len * es with
      | zero => omega
      | succ k =>
        rw [hle] at hold
        simp only [] at hold
        cases hbk : blockAt H H.next a with
        | none => simp [hbk] at hold
        | some cc =>
          simp only [hbk] at hold
          obtain ⟨_, hget⟩ := takeA_spec _ _ _ hold
          have := hget i v hi
          rw [List.getElem?_drop] at this
          have hcc : cc = cs := by
            unfold blockAt at hbk
            rw [s] at hbk
            simp only [] at hbk
            split at hbk
            · rw [hg] at hbk; simpa using hbk.symm
            · cases hbk
          subst hcc
          obtain ⟨v', hv', r⟩ := hcell (a.off + i) v this
          exact ⟨v', by rw [show i + a'.off = a.off + i + p.shift by omega]; exact hv', r⟩
    have hput := hkill.put (w' := w.setRow p.real (c'.toList.take (a'.off + len * es) ++ new' ++ c'.toList.drop (a'.off + len * es + new'.length)).toArray) id ⟨p.real, a'.off, some (es, (len + n) * es, c'.size)⟩ (.cells (old ++ new) e) hid hidlo (n := max H.next (id + 1))
      (by omega) (by show H.next ≤ _; omega)
      (fun q hq => by rw [hρid] at hq; cases hq) hbase
      (fun j q hj hl hq => by
        have hja : j ≠ a.block := fun e => by
          subst e
          obtain ⟨b, hb, hx⟩ := hl
          rw [Hp.get_same H _ h39] at hb
          cases hb; exact hx
        have hlj : Live H j := by
          obtain ⟨b, hb, hx⟩ := hl
          exact ⟨b, by rw [← Hp.get_other H .dead hja]; exact hb, hx⟩
        by_cases hjl : j < H.lo
        · have := hR.old j q hlj hjl hq
          show q.real ≠ p.real
          omega
        · exact hR.inj j a.block q p hja (by omega) hlo hlj hlive hq hp)
      rfl rfl rfl (by simp) (fun r _ hr => setRow_other _ _ _ _ hr)
      (fun c2 E2 fz2 h2 => by rw [setRow_heap w p.real c' _ e (0, 0) hb] at h2; cases h2; rfl)
      ⟨_, _, (0, 0), upd_same _ _ _, setRow_heap w p.real c' _ e (0, 0) hb, fun i v hi => by
        have hext : Ext ρ (upd ρ id ⟨p.real, a'.off, some (es, (len + n) * es, c'.size)⟩) := upd_ext fun q hq => by rw [hρid] at hq; cases hq
        have hget : ∀ j, (c'.toList.take (a'.off + len * es) ++ new' ++ c'.toList.drop (a'.off + len * es + new'.length)).toArray[j]? = if j < a'.off + len * es then c'[j]? else if j < a'.off + len * es + new'.length then new'[j - (a'.off + len * es)]? else c'[j]? := fun j => by
          have := over_get (c := c'.toList) (vs := new') (off := a'.off + len * es) (by simpa using hend) j
          simpa [over, List.append_assoc] using this
        show ∃ v', (c'.toList.take (a'.off + len * es) ++ new' ++ c'.toList.drop (a'.off + len * es + new'.length)).toArray[i + a'.off]? = some v' ∧ _
        rw [hget]
        rw [List.getElem?_append] at hi
        by_cases h1 : i < old.length
        · rw [if_pos h1] at hi
          rw [if_pos (by omega)]
          obtain ⟨v', hv', r⟩ := holdget i v hi
          exact ⟨v', hv', r.ext hext⟩
        · rw [if_neg h1] at hi
          rw [if_neg (by omega)]
          have hilt : i - old.length < new.length := (List.getElem?_eq_some_iff.1 hi).1
          rw [if_pos (by omega), show i + a'.off - (a'.off + len * es) = i - old.length by omega]
          obtain ⟨v', hv', r⟩ := hnew.get _ _ hi
          exact ⟨v', hv', r.ext hext⟩, fun es2 N2 M2 ht => by
        cases ht
        have l2 : (c'.toList.take (a'.off + len * es) ++ new' ++ c'.toList.drop (a'.off + len * es + new'.length)).toArray.size = c'.size := by
          simp only [List.size_toArray, List.length_append, List.length_take, List.length_drop, Array.length_toList]; omega
        exact ⟨by rw [List.length_append, hol, hnl, Nat.add_mul], by rw [l2], hes0, hsz⟩⟩
    refine ⟨_, _, hrun, ?_, (upd_ext fun q hq => by rw [hρid] at hq; cases hq), hput, ?_⟩
    · refine .sl (a' := a') ⟨rfl, s', _, upd_same _ _ _, e1, by show a'.off = 0 + a'.off; omega⟩ (.inr ⟨_, es, (len + n) * es, c'.size, upd_same _ _ _, rfl, by show 0 + _ = _; omega, by omega, hfit⟩)
    · exact ⟨rfl, by show H.next ≤ max H.next (id + 1); omega, fun j hj => by
        show ((H.set a.block .dead).set id _).get j = _
        rw [Hp.get_other _ _ (by omega), Hp.get_other _ _ (by omega)]⟩

theorem append_ok (hR : Rel P w0 ρ H w) {id : Nat} {o : Oper} {c : Call} (ho : o.op = .call c) (hcb : c.callee = .builtin .append) {t : TypeId} {s x : Operand} (h0 : c.argTypes[0]? = some t) (ha0 : c.args[0]? = some s) (ha1 : c.args[1]? = some x)
    (hE : Evs ρ ev ev' o) {v : Value} {H' : Hp} (h : wrAppend P H id t c.argTypes[1]? (ev s) (ev x) = some (v, H')) : Did P w0 ρ H w (execOp ev' o) v H' := by
  have mem : ∀ (i : Nat) (y : Operand), c.args[i]? = some y → y ∈ o.op.operands.toList := fun i y hy => by
    rw [ho]
    have : y ∈ c.args.toList := List.mem_of_getElem? (by simpa using hy)
    simp [Op.operands, Call.operands, hcb]
    simpa using this
  have hs : VR ρ (ev s) (ev' s) := hE s (mem 0 s ha0)
  have hx : VR ρ (ev x) (ev' x) := hE x (mem 1 x ha1)
  have a0 : (c.args.map ev')[0]? = some (ev' s) := by simp [ha0]
  have a1 : (c.args.map ev')[1]? = some (ev' x) := by simp [ha1]
  have fin : ∀ {r w1}, (Builtin.append_ c.argTypes o.type (c.args.map ev')).run P w = .ok r w1 → (execOp ev' o).run P w = .ok (.value r) w1 := fun hr => by
    simp [execOp, ho, resolve, hcb, invoke, builtin, hr]
  unfold wrAppend at h
  split at h
  case h_2 => cases h
  rename_i e hu
  split at h
  case h_2 => cases h
  rename_i i z hk hi hz
  have hk : kindOk P c.argTypes[1]? = true := hk
  split at h
  case isTrue => cases h
  rename_i hcond
  have hsz0 : i.size ≠ 0 := fun e => hcond (.inl e)
  have hb0 : i.bytes ≠ 0 := fun e => hcond (.inr (.inl e))
  have hzs : z.cells.size = i.size := Decidable.byContradiction fun e => hcond (.inr (.inr e))
  have hsz : size? P e = some i.size := by simp [size?, hi]
  split at h
  case h_2 => cases h
  rename_i n new hsrc
  obtain ⟨new', hnew, hnl, hlen, hread⟩ := source_ok hR hx hsrc
  unfold appendTo at h
  split at h
  · -- nil
    rename_i hvs
    rw [hvs] at hs
    have es := hs.sl0_inv
    split at h
    · rename_i hn0
      simp only [Option.some.injEq, Prod.mk.injEq] at h
      obtain ⟨rfl, rfl⟩ := h
      subst hn0
      refine ⟨.value (.slice none 0 0), .slice none 0 0, w, ρ, fin ?_, .inl rfl, .sl0 0 0, Ext.refl _, hR, Keeps.refl _⟩
      exact append_fits (n := 0) h0 rfl a0 a1 hu hi hk es (by omega) (hlen w) (hread w (near_refl _ _ _ _)) rfl
    · split at h
      case isTrue => cases h
      rename_i hn0 hle
      obtain ⟨cc, hcc, hrun⟩ := append_grows (old := #[]) h0 rfl a0 a1 hu hi hk es (by omega) hb0 (by rw [Nat.zero_add]; omega) (hlen w) (by rw [es]; rfl) (hread _ (near_drew _ _ _ _)) hz
      rw [Nat.zero_add] at hrun hcc
      obtain ⟨ρ', v', hv, he, rfl, hR', hkp⟩ := grown_ok hR (c := cc) hnew hnl hsz (by omega) hcc hzs h
      refine ⟨.value _, _, _, ρ', fin hrun, .inl rfl, hv, he, ?_, hkp⟩
      simpa using hR'
  · rename_i a len cap hvs
    rw [hvs] at hs
    obtain ⟨a', cap', es, hcase⟩ := hs.sl_inv
    have hcap : cap ≤ cap' := by
      rcases hcase with ⟨_, hck⟩ | ⟨_, rfl, rfl⟩
      · rcases hck with rfl | ⟨p, es, N, M, _, _, _, _, hle⟩
        · exact Nat.le_refl _
        · exact hle
      · exact Nat.le_refl _
    split at h
    · rename_i hn0
      split at h
      case isFalse => cases h
      rename_i hlc
      simp only [Option.some.injEq, Prod.mk.injEq] at h
      obtain ⟨rfl, rfl⟩ := h
      subst hn0
      have hn' : new' = [] := by have := hnew.length; rw [hnl] at this; simp at this; exact this
      subst hn'
      refine ⟨.value (.slice (some a') len cap'), .slice (some a') len cap', w, ρ, fin ?_, .inl rfl, by rw [es] at hs; exact hs, Ext.refl _, hR, Keeps.refl _⟩
      exact append_fits (n := 0) (base := some a') h0 rfl a0 a1 hu hi hk es (by omega) (hlen w) (hread w (near_refl _ _ _ _)) rfl
    rename_i hn0
    split at h
    · -- it fits
      rename_i hfit
      split at h
      case isFalse => cases h
      rename_i hone
      split at h
      case h_2 => cases h
      rename_i H1 hw
      simp only [Option.some.injEq, Prod.mk.injEq] at h
      obtain ⟨rfl, rfl⟩ := h
      rcases hcase with ⟨har, hck⟩ | ⟨rfl, rfl, rfl⟩
      · obtain ⟨w', hst, hR', hkp⟩ := writeN_ok hR (har.add (len * i.size)) hnew hw
        refine ⟨.value (.slice (some a') (len + n) cap'), _, w', ρ, fin ?_, .inl rfl, .sl har hck, Ext.refl _, hR', hkp⟩
        exact append_fits (base := some a') h0 rfl a0 a1 hu hi hk es (by omega) (hlen w) (hread w (near_refl _ _ _ _)) hst
      · omega
    rename_i hfit
    split at h
    case isTrue => cases h
    rename_i hle
    split at h
    case isTrue => cases h
    rename_i hspot
    split at h
    case h_2 => cases h
    rename_i cs E old hg hold
    split at h
    case isFalse => cases h
    rename_i hEe
    subst hEe
    -- the old cells, read from anywhere near
    have hreadold : ∃ old', VRs ρ old old' ∧ old.length = len * i.size ∧ (Builtin.firstCells i.size len (ev' s)).run P w.drew = .ok ⟨old'⟩ w.drew := by
      rcases hcase with ⟨har, _⟩ | ⟨rfl, rfl, rfl⟩
      · obtain ⟨l', rs, hl, run⟩ := readN_ok hR har hold
        exact ⟨l', rs, by rw [← rs.length, hl], by rw [es]; simp [Builtin.firstCells, run _ (near_drew _ _ _ _)]⟩
      · rw [Nat.zero_mul] at hold
        simp [readN] at hold
        subst hold
        exact ⟨[], .nil, by simp, by rw [es]; simp [Builtin.firstCells, loadCells, loadCellsFrom]⟩
    obtain ⟨old', hvo, holen, hor⟩ := hreadold
    have hlists : (old ++ new).length = (len + n) * i.size := by rw [List.length_append, holen, hnl, Nat.add_mul]
    -- in new memory
    have far : ∀ {G : Hp}, Rel P w0 ρ G w → Keeps H G → ∀ {v : Value} {H' : Hp}, newRowA G id (old ++ new) E (len + n) = some (v, H') → ¬ len + n ≤ cap' → Did P w0 ρ H w (execOp ev' o) v H' := fun {G} hG hkG {v H'} hrow hbig => by
      obtain ⟨cc, hcc, hrun⟩ := append_grows (base := some a') h0 rfl a0 a1 hu hi hk es hbig hb0 (by omega) (hlen w) hor (hread _ (near_drew _ _ _ _)) hz
      obtain ⟨ρ', v', hv, he, rfl, hR', hkp⟩ := grown_ok hG (c := cc) (hvo.append hnew) hlists hsz (by omega) hcc hzs hrow
      refine ⟨.value _, _, _, ρ', fin hrun, .inl rfl, hv, he, ?_, hkG.trans hkp⟩
      simpa using hR'
    split at h
    · -- the capacity is known
      rename_i hexact
      have : cap' = cap := by
        rcases hcase with ⟨_, hck⟩ | ⟨_, rfl, rfl⟩
        · rcases hck with h1 | ⟨p, es2, N, M, hp, htl, hN, _, _⟩
          · exact h1
          · obtain ⟨q, c', fz, hq, _, _, htl'⟩ := hR.blk a.block _ hg
            rw [hp] at hq; cases hq
            obtain ⟨hN', _, _, hes⟩ := htl' es2 N M htl
            have : es2 = i.size := by unfold size? at hsz; rw [hsz] at hes; simpa using hes.symm
            subst this
            omega
        · rfl
      subst this
      exact far hR (Keeps.refl _) h hfit
    · split at h
      case isFalse => cases h
      rename_i hc
      obtain ⟨hlo, h39, hne, hone⟩ := hc
      by_cases hbig : len + n ≤ cap'
      · rcases hcase with ⟨har, hck⟩ | ⟨rfl, rfl, rfl⟩
        · rcases hck with h1 | ⟨p, es2, N, M, hp, htl, hN, hM, _⟩
          · omega
          · obtain ⟨q, c', fz, hq, _, _, htl'⟩ := hR.blk a.block _ hg
            rw [hp] at hq; cases hq
            obtain ⟨hN', _, _, hes⟩ := htl' es2 N M htl
            have : es2 = i.size := by unfold size? at hsz; rw [hsz] at hes; simpa using hes.symm
            obtain ⟨ρ', w', hst, hv, he, hR', hkp⟩ := room_ok hR har hp htl hM hg this hlo h39 hne hold hnew hnl hone hbig (by omega) hsz h
            refine ⟨.value (.slice (some a') (len + n) cap'), _, w', ρ', fin ?_, .inl rfl, hv, he, hR', hkp⟩
            exact append_fits (base := some a') h0 rfl a0 a1 hu hi hk es hbig (hlen w) (hread w (near_refl _ _ _ _)) hst
        · omega
      · exact far (hR.kill a.block h39 hg) (kill_keeps hlo) h hbig
  · cases h

theorem wrOp_ok (hR : Rel P w0 ρ H w) {id : Nat} {o : Oper} (hE : Evs ρ ev ev' o) {v : Value} {H' : Hp} (h : wrOp P H id ev o = some (v, H')) : Did P w0 ρ H w (execOp ev' o) v H' := by
  unfold wrOp at h
  split at h
  · rename_i ho; exact alloc_ok hR ho h
  · rename_i ho; exact box_ok hR ho hE h
  · rename_i ho; exact buildSlice_ok hR ho hE h
  · rename_i ho; exact store_ok hR ho hE h
  · rename_i ho; exact makeMap_ok hR ho h
  · rename_i t m k x ho
    exact mapUpdate_ok hR (fun P w => by simp [execOp, ho]) (hE m (by rw [ho]; simp [Op.operands])) (hE k (by rw [ho]; simp [Op.operands])) (hE x (by rw [ho]; simp [Op.operands])) h
  · rename_i ho; exact makeSlice_ok hR ho hE h
  · rename_i c ho
    unfold wrCall at h
    split at h
    case h_2 => cases h
    rename_i b hb
    split at h
    case h_2 => cases h
    split at h
    case h_2 => cases h
    rename_i t s x h0 h1 h2
    exact append_ok hR ho hb h0 h1 h2 hE h
  · cases h
end
end Go.Ab
