/- The plain machine and Go's: structs, arrays and slices written out; equality; maps. -/
import Derived.Test.YtojkmobfhkjfnaaHxI
set_option linter.all false
namespace Go.Hx
variable {P : Program} {base fl : Nat} {a : HAct} {σ σ' : HS} {v : HV} {ρ : Rho} {A : Act} {W : World} {o : Oper}

theorem foldl_set (off : Nat) : ∀ (U : List Value) (k : Nat) (C : Array Value),
    ((U.zipIdx k).foldl (fun cs (p : Value × Nat) => cs.setIfInBounds (off + p.2) p.1) C).size = C.size ∧
    ∀ i, ((U.zipIdx k).foldl (fun cs (p : Value × Nat) => cs.setIfInBounds (off + p.2) p.1) C)[i]? = if off + k ≤ i ∧ i < off + k + U.length ∧ i < C.size then U[i - (off + k)]? else C[i]?
  | [], k, C => ⟨rfl, fun i => by simp only [List.zipIdx_nil, List.foldl_nil]; rw [if_neg (by simp only [List.length_nil]; omega)]⟩
  | u :: U, k, C => by
    simp only [List.zipIdx_cons, List.foldl_cons]
    obtain ⟨h1, h2⟩ := foldl_set off U (k + 1) (C.setIfInBounds (off + k) u)
    refine ⟨by rw [h1]; simp, fun i => ?_⟩
    rw [h2, Array.size_setIfInBounds]
    by_cases e : i = off + k
    · subst e
      rw [if_neg (by omega)]
      by_cases hlt : off + k < C.size
      · rw [if_pos (by simp only [List.length_cons]; omega)]
        simp [hlt]
      · rw [if_neg (by omega)]
        simp [hlt]
    · rw [Array.getElem?_setIfInBounds_ne (by omega)]
      by_cases hin : off + (k + 1) ≤ i ∧ i < off + (k + 1) + U.length ∧ i < C.size
      · rw [if_pos hin, if_pos (by simp only [List.length_cons]; omega)]
        have : i - (off + k) = (i - (off + (k + 1))) + 1 := by omega
        rw [this]; simp
      · rw [if_neg hin, if_neg (by simp only [List.length_cons]; omega)]
theorem lr_overwrite {cs vs cs' : List HV} {off : Nat} {C : Array Value} {U : List Value} (hc : LR ρ cs C.toList) (hv : LR ρ vs U) (h : overwrite cs off vs = some cs') :
    LR ρ cs' (((U.zipIdx 0).foldl (fun cs (p : Value × Nat) => cs.setIfInBounds (off + p.2) p.1) C)).toList := by
  obtain ⟨l1, l2, l3⟩ := overwrite_some h
  obtain ⟨h1, h2⟩ := foldl_set off U 0 C
  have hl := hc.1
  simp only [Array.length_toList] at hl
  refine ⟨by simp only [Array.length_toList]; rw [h1, l1, hl], fun i v u hv' hu => ?_⟩
  rw [Array.getElem?_toList, h2] at hu
  rw [l3] at hv'
  have hlen := hv.1
  by_cases hin : off ≤ i ∧ i < off + vs.length
  · rw [if_pos hin] at hv'
    have hne : vs ≠ [] := fun e => by subst e; simp at hin; omega
    have := l2 hne
    rw [if_pos (by omega)] at hu
    exact hv.2 _ _ _ hv' (by simpa using hu)
  · rw [if_neg hin] at hv'
    rw [if_neg (by omega)] at hu
    exact hc.2 _ _ _ hv' (by simpa using hu)
theorem fill_ok (ha : AR ρ a A) {place : Nat → Option (Nat × Nat)} : ∀ {ps : List (Nat × Operand)} {qs : List (Nat × Nat × Lo)} {cells cs : List HV} {C : Array Value}, lowParts place ps = some qs → fillH cells (evParts a qs) = some cs → LR ρ cells C.toList →
    ∃ D : Array Value, Instr.fill place C (ps.map fun (i, x) => (i, A.eval x)) = some D ∧ LR ρ cs D.toList
  | [], qs, cells, cs, C, h1, h2, h3 => by
    cases h1
    cases h2
    exact ⟨C, rfl, h3⟩
  | (i, x) :: ps, qs, cells, cs, C, h1, h2, h3 => by
    unfold lowParts at h1
    split at h1
    · rename_i off s y ps' e1 e2 e3
      cases h1
      have hv := ev_ok ha e2
      simp only [evParts, List.map_cons, fillH] at h2
      cases hc : (Nat.beq (a.ev y).cells.length s && Nat.ble (off + s) cells.length) with
      | false => rw [hc] at h2; cases h2
      | true =>
        rw [hc] at h2
        simp only [cond_true, Option.bind_eq_some_iff] at h2
        simp only [Bool.and_eq_true, Nat.beq_eq, Nat.ble_eq] at hc
        obtain ⟨ds, hd, hr⟩ := h2
        have hlr := lr_overwrite h3 hv.cells hd
        obtain ⟨D, hD, hD2⟩ := fill_ok ha e3 hr hlr
        refine ⟨D, ?_, hD2⟩
        have hs : (A.eval x).cells.size = s := by have := hv.cells.1; simp at this; omega
        have hC : C.size = cells.length := by have := h3.1; simpa using this.symm
        have hlt : ¬ off + s > C.size := by omega
        simp only [List.map_cons, Instr.fill, e1]
        rw [if_neg (by simp [hs, hlt]), ← hD]
        congr 1
        rw [← Array.foldl_toList, Array.toList_zipIdx]
    · cases h1
theorem run_places {fs : List Field} (h : fs.all (fun f => (szOf P f.type).isSome) = true) : (fs.mapM fun (f : Field) => Prod.mk f.offset <$> sizeOf f.type : Sem (List (Nat × Nat))).run P W = .ok (fs.map fun f => (f.offset, P.cellsOf f.type)) W := by
  induction fs with
  | nil => simp
  | cons f fs ih =>
    simp only [List.all_cons, Bool.and_eq_true] at h
    obtain ⟨n, hn⟩ := Option.isSome_iff_exists.1 h.1
    obtain ⟨i, i1, i2⟩ := info_size hn
    have hcells : P.cellsOf f.type = i.size := by simp [Program.cellsOf, i1]
    simp only [List.mapM_cons, Sem.run_bind, Sem.run_map, run_size i1, Result.andThen_ok, Sem.run_pure, ih h.2, List.map_cons, hcells]
theorem op_build_struct {t : TypeId} {parts : Array (Nat × Operand)} {ps : List (Nat × Nat × Lo)} {fs : Array Field} {z : List HV} (ho : o.op = .build t parts) (hu : P.underlying t = some (.struct fs)) (hz : zeroV P t = some (.agg z)) (hall : fs.toList.all (fun f => (szOf P f.type).isSome) = true)
    (hp : lowParts (fun i => (fs[i]?).bind fun f => (szOf P f.type).map (f.offset, ·)) parts.toList = some ps) (h : oBuild z ps a σ = some (v, σ')) (hs : Sim P base σ.h.get ρ W) (ha : AR ρ a A) : HF fl σ.nx σ'.nx σ.h.get σ'.h.get ∧ Does P base fl σ σ' ρ W (execOp A.eval o) v := by
  obtain ⟨i, Z, i1, i2, i3⟩ := info_zero hz ρ
  unfold oBuild at h
  split at h
  · rename_i cs hf
    cases h
    obtain ⟨D, hD, hlr⟩ := fill_ok ha hp hf i3.cells
    refine ⟨HF.refl _ _ _, does_value hs (V := .agg D) ?_ (by simpa using VR.aggL hlr)⟩
    have hpl : (fs.mapM fun (f : Field) => Prod.mk f.offset <$> sizeOf f.type : Sem (Array (Nat × Nat))).run P W = .ok (fs.map fun (f : Field) => (f.offset, P.cellsOf f.type)) W := by
      rw [Array.mapM_eq_mapM_toList]
      simp only [Sem.run_map, run_places hall, Result.andThen_ok]
      congr 1
      apply Array.ext'
      simp
    have hplace : (fun (i : Nat) => (fs[i]?).bind fun (f : Field) => (szOf P f.type).map (f.offset, ·)) = fun (i : Nat) => (fs.map fun (f : Field) => (f.offset, P.cellsOf f.type))[i]? := by
      funext j
      rw [Array.getElem?_map]
      cases hj : fs[j]? with
      | none => rfl
      | some f =>
        have hmem : f ∈ fs.toList := by rw [← Array.getElem?_toList] at hj; exact List.mem_of_getElem? hj
        obtain ⟨n, hn⟩ := Option.isSome_iff_exists.1 (List.all_eq_true.1 hall f hmem)
        obtain ⟨i, i1, i2⟩ := info_size hn
        simp [hn, Program.cellsOf, i1, i2]
    rw [hplace] at hD
    have hD' : Instr.fill (fun x => (fs.map fun (f : Field) => (f.offset, P.cellsOf f.type))[x]?) Z.cells (List.map (fun x => (x.fst, A.eval x.snd)) parts.toList) = some D := hD
    simp only [Array.getElem?_map] at hD'
    simp [execOp, ho, Instr.build, run_zero i1 i2, run_under hu, hpl, hD']
  · cases h
theorem op_build_array {t e : TypeId} {n s : Nat} {parts : Array (Nat × Operand)} {ps : List (Nat × Nat × Lo)} {z : List HV} (ho : o.op = .build t parts) (hu : P.underlying t = some (.array n e)) (hz : zeroV P t = some (.agg z)) (hsz : szOf P e = some s)
    (hp : lowParts (fun i => some (i * s, s)) parts.toList = some ps) (h : oBuild z ps a σ = some (v, σ')) (hs : Sim P base σ.h.get ρ W) (ha : AR ρ a A) : HF fl σ.nx σ'.nx σ.h.get σ'.h.get ∧ Does P base fl σ σ' ρ W (execOp A.eval o) v := by
  obtain ⟨i, Z, i1, i2, i3⟩ := info_zero hz ρ
  obtain ⟨j, j1, j2⟩ := info_size hsz
  unfold oBuild at h
  split at h
  · rename_i cs hf
    cases h
    obtain ⟨D, hD, hlr⟩ := fill_ok ha hp hf i3.cells
    refine ⟨HF.refl _ _ _, does_value hs (V := .agg D) ?_ (by simpa using VR.aggL hlr)⟩
    have hD' : Instr.fill (fun i => some (i * s, s)) Z.cells (List.map (fun x => (x.fst, A.eval x.snd)) parts.toList) = some D := hD
    simp [execOp, ho, Instr.build, run_zero i1 i2, run_under hu, run_size j1, j2, hD']
  · cases h
theorem op_buildSlice {t e : TypeId} {len s : Nat} {z : HV} {parts : Array (Nat × Operand)} {ps : List (Nat × Nat × Lo)} (ho : o.op = .buildSlice t len parts) (hu : P.underlying t = some (.slice e)) (hsz : szOf P e = some s) (hz : zeroV P e = some z) (hle : len * s ≤ 100000) (hzl : z.cells.length = s)
    (hp : lowParts (fun i => some (i * s, s)) parts.toList = some ps) (h : oBuildSlice len z.cells ps a σ = some (v, σ')) (hs : Sim P base σ.h.get ρ W) (ha : AR ρ a A) (hb : base ≤ W.heap.size) (hn : ∀ b, σ.nx ≤ b → b < σ'.nx → ρ b = none) : HF fl σ.nx σ'.nx σ.h.get σ'.h.get ∧ Does P base fl σ σ' ρ W (execOp A.eval o) v := by
  obtain ⟨i, Z, i1, i2, i3⟩ := info_zero hz ρ
  have is : i.size = s := by simpa [szOf, i1] using hsz
  unfold oBuildSlice at h
  split at h
  · rename_i cs hf
    cases h
    have hn0 := hn σ.nx (Nat.le_refl _) (by simp [HS.new])
    have hrow : LR ρ (repl len z.cells) ((Array.range (len * s)).map (Z.cells[· % Z.cells.size]!)).toList := lr_repl i3.cells hzl
    have hlim : ¬ 16777216 < len * s := by omega
    by_cases h0 : len * s = 0
    · rw [h0, map_range_zero] at hrow
      obtain ⟨D, hD, hlr⟩ := fill_ok ha hp hf hrow
      refine ⟨hf_new (HS.get_new σ _), _, _, _, .inl ?_, (vr_new ρ σ.nx W.heap.size len len).2, post_row (e := e) hs hb hn0 hlr⟩
      have hD' : Instr.fill (fun i => some (i * s, s)) #[] (List.map (fun x => (x.fst, A.eval x.snd)) parts.toList) = some D := hD
      simp [execOp, ho, Instr.buildSlice, run_under hu, run_size i1, is, h0, newRow]
      rw [map_range_zero]
      simp [hD']
    · obtain ⟨D, hD, hlr⟩ := fill_ok ha hp hf hrow
      refine ⟨hf_new (HS.get_new σ _), _, _, _, .inl ?_, (vr_new ρ σ.nx W.heap.size len len).2, post_row (e := e) hs hb hn0 hlr⟩
      have hD' : Instr.fill (fun i => some (i * s, s)) ((Array.range (len * s)).map (Z.cells[· % Z.cells.size]!)) (List.map (fun x => (x.fst, A.eval x.snd)) parts.toList) = some D := hD
      simp [execOp, ho, Instr.buildSlice, run_under hu, run_size i1, is, hlim, h0, run_zero i1 i2, hD', newRow]
  · cases h
end Go.Hx
