/- The plain machine and Go's: each operation but the calls: what the plain machine reckons, Go's does. -/
import Derived.Test.YtojkmobfhkjfnaaHxD
set_option linter.all false
namespace Go.Hx
variable {P : Program}

structure AR (ρ : Rho) (a : HAct) (A : Act) : Prop where
  tmps : TR ρ a.nt a.tmps A.tmps
  defers : A.defers = a.defers.map fun m => ⟨.collected ((ρ m).elim 0 RI.blk), #[]⟩
  marks : ∀ m ∈ a.defers, (ρ m).isSome = true
theorem AR.mono {ρ ρ' : Rho} (hle : Rho.le ρ ρ') {a : HAct} {A : Act} (h : AR ρ a A) : AR ρ' a A where
  tmps := h.tmps.mono hle
  defers := by
    rw [h.defers]
    apply List.map_congr_left
    intro m hm
    obtain ⟨r, hr⟩ := Option.isSome_iff_exists.1 (h.marks m hm)
    rw [hr, hle _ _ hr]
  marks := fun m hm => by
    obtain ⟨r, hr⟩ := Option.isSome_iff_exists.1 (h.marks m hm)
    rw [hle _ _ hr]; rfl
theorem TR.put {ρ : Rho} {nt d : Nat} {t : Tr HV} {T : Array Value} {v : HV} {V : Value} (h : TR ρ nt t T) (hd : d < nt) (hv : VR ρ v V) : TR ρ nt (t.set d (some v)) (T.setIfInBounds d V) := by
  refine ⟨by simp [h.1], fun j => ?_⟩
  rw [Tr.get_set]
  by_cases e : j = d
  · subst e
    rw [if_pos rfl]
    have : j < T.size := by rw [h.1]; exact hd
    simpa [Array.getD, this] using hv
  · rw [if_neg e]
    have := h.2 j
    simp only [Array.getD_eq_getD_getElem?] at this ⊢
    rw [Array.getElem?_setIfInBounds_ne (by omega)]
    exact this
theorem AR.put {ρ : Rho} {a : HAct} {A : Act} (h : AR ρ a A) {v : HV} {V : Value} (hv : VR ρ v V) (dst : Option Nat) : AR ρ (a.put dst v) (A.put dst V) := by
  cases dst with
  | none => exact h
  | some d =>
    unfold HAct.put Act.put
    simp only
    cases hb : Nat.blt d a.nt with
    | true =>
      have hd : d < a.nt := by simpa [Nat.blt_eq] using hb
      exact ⟨h.tmps.put hd hv, h.defers, h.marks⟩
    | false =>
      have hd : ¬ d < a.nt := by intro h; rw [← Nat.blt_eq] at h; rw [h] at hb; cases hb
      have hA : A.tmps.size ≤ d := by have := h.tmps.1; omega
      have : A.tmps.setIfInBounds d V = A.tmps := by simp [Array.setIfInBounds]; intro h; omega
      simp only [cond_false, this]
      exact ⟨h.tmps, h.defers, h.marks⟩
theorem AR.tmp {ρ : Rho} {a : HAct} {A : Act} (h : AR ρ a A) (t : Nat) : VR ρ (a.tmp t) (A.tmps.getD t Go.undef) := h.tmps.2 t

/-! constants and operands -/
theorem lowV1_ok {v : Value} {x : HV} (h : lowV1 v = some x) (ρ : Rho) : VR ρ x v := by
  unfold lowV1 at h
  split at h <;> first | (cases h; first | exact .bool _ | exact .int _ _ | exact .str _ | exact .ptr0 | exact .slice0 | exact .map0 | exact .nilFunc | exact .nilIface) | cases h
theorem lowVs_ok (ρ : Rho) : ∀ {vs : List Value} {xs : List HV}, lowVs vs = some xs → LR ρ xs vs
  | [], xs, h => by cases h; exact LR.nil ρ
  | v :: vs, xs, h => by
    unfold lowVs at h
    split at h
    · rename_i x xs' h1 h2; cases h; exact LR.cons (lowV1_ok h1 ρ) (lowVs_ok ρ h2)
    · cases h
theorem lowV_ok {v : Value} {x : HV} (h : lowV v = some x) (ρ : Rho) : VR ρ x v := by
  unfold lowV at h
  split at h
  · rename_i cs
    simp only [Option.map_eq_some_iff] at h
    obtain ⟨xs, h1, rfl⟩ := h
    exact VR.aggL (lowVs_ok ρ h1)
  · exact lowV1_ok h ρ
theorem ev_ok {ρ : Rho} {a : HAct} {A : Act} (h : AR ρ a A) {x : Operand} {y : Lo} (hx : lowX x = some y) : VR ρ (a.ev y) (A.eval x) := by
  cases x with
  | tmp t => cases hx; exact h.tmp t
  | const v =>
    simp only [lowX, Option.map_eq_some_iff] at hx
    obtain ⟨z, h1, rfl⟩ := hx
    exact lowV_ok h1 ρ
  | func f =>
    cases hx
    exact VR.func rfl rfl (fun i v u hv _ => by simp at hv) (fun i v u hv _ => by simp at hv)
  | global g => cases hx
theorem evs_ok {ρ : Rho} {a : HAct} {A : Act} (h : AR ρ a A) : ∀ {xs : List Operand} {ys : List Lo}, lowXs xs = some ys → LR ρ (ys.map a.ev) (xs.map A.eval)
  | [], ys, hx => by cases hx; exact LR.nil ρ
  | x :: xs, ys, hx => by
    unfold lowXs at hx
    split at hx
    · rename_i y ys' h1 h2; cases hx; exact LR.cons (ev_ok h h1) (evs_ok h h2)
    · cases hx

/-- What an operation that calls nothing has to do. -/
def Does (P : Program) (base fl : Nat) (σ σ' : HS) (ρ : Rho) (W : World) (s : Sem Next) (v : HV) : Prop :=
  ∃ V W' ρ', (s.run P W = .ok (.value V) W' ∨ (s.run P W = .ok .skip W' ∧ V = Go.undef)) ∧ VR ρ' v V ∧ Post P base fl σ.nx σ'.nx σ.h.get σ'.h.get ρ ρ' W W'
theorem does_value {base fl : Nat} {σ : HS} {ρ : Rho} {W : World} {s : Sem Next} {v : HV} {V : Value} (hs : Sim P base σ.h.get ρ W) (hr : s.run P W = .ok (.value V) W) (hv : VR ρ v V) :
    Does P base fl σ σ ρ W s v := ⟨V, W, ρ, .inl hr, hv, Post.refl hs⟩

theorem lr_cells {ρ : Rho} {cs : List HV} {C : List Value} (h : LR ρ cs C) : CellsOk ρ cs C.toArray 0 := fun i v hv => by
  have hlt : i < C.length := by rw [← h.1]; exact (List.getElem?_eq_some_iff.1 hv).1
  exact ⟨C[i], by simp [hlt], h.2 i v _ hv (List.getElem?_eq_getElem hlt)⟩
/-- A new row of cells. -/
theorem post_row {base fl : Nat} {σ : HS} {ρ : Rho} {W : World} {cs : List HV} {C : List Value} {e : TypeId} (hs : Sim P base σ.h.get ρ W) (hb : base ≤ W.heap.size) (hn : ρ σ.nx = none) (hc : LR ρ cs C) :
    Post P base fl σ.nx (σ.nx + 1) σ.h.get (σ.new (.cells cs .exact)).h.get ρ (ρ.put σ.nx ⟨W.heap.size, 0, 0⟩) W (W.alloc (.cells C.toArray e)) :=
  post_new hs hn (HS.get_new σ _) rfl ⟨⟨W.heap.size, 0, 0⟩, C.toArray, e, (0, 0), Rho.put_same _ _ _, heap_alloc_new W _, (lr_cells (hc.mono (Rho.le_put _ hn))), hb, rfl, rfl⟩
theorem vr_new (ρ : Rho) (nx n l c : Nat) : VR (ρ.put nx ⟨n, 0, 0⟩) (.ptr (some (nx, 0))) (.pointer (some ⟨n, 0, none⟩)) ∧ VR (ρ.put nx ⟨n, 0, 0⟩) (.slice (some (nx, 0)) l c) (.slice (some ⟨n, 0, none⟩) l c) :=
  ⟨.ptr (r := ⟨n, 0, 0⟩) (Rho.put_same _ _ _), .slice (r := ⟨n, 0, 0⟩) (Rho.put_same _ _ _)⟩

theorem info_zero {t : TypeId} {z : HV} (h : zeroV P t = some z) (ρ : Rho) : ∃ i Z, P.info? t = some i ∧ i.zero = some Z ∧ VR ρ z Z := by
  simp only [zeroV, Option.bind_eq_some_iff] at h
  obtain ⟨Z, ⟨i, h1, h2⟩, h3⟩ := h
  exact ⟨i, Z, h1, h2, lowV_ok h3 ρ⟩
theorem info_size {t : TypeId} {n : Nat} (h : szOf P t = some n) : ∃ i, P.info? t = some i ∧ i.size = n := by
  simpa [szOf] using h
theorem run_info {t : TypeId} {i : TypeInfo} (h : P.info? t = some i) (W : World) : (typeInfo t).run P W = .ok i W := by
  simp [typeInfo, h]
theorem run_zero {t : TypeId} {i : TypeInfo} {Z : Value} (h : P.info? t = some i) (hz : i.zero = some Z) (W : World) : (zeroValue t).run P W = .ok Z W := by
  simp [zeroValue, run_info h, hz]
theorem run_size {t : TypeId} {i : TypeInfo} (h : P.info? t = some i) (W : World) : (sizeOf t).run P W = .ok i.size W := by
  simp [sizeOf, run_info h]
theorem run_under {t : TypeId} {d : TypeDesc} (h : P.underlying t = some d) (W : World) : (underlying t).run P W = .ok d W := run_underlying h W
theorem run_agg {t : TypeId} {b : Bool} (h : aggOf P t = some b) (W : World) : (isAgg t).run P W = .ok b W := by
  unfold aggOf at h
  split at h
  · rename_i hu; cases h; simp [isAgg, run_under hu]
  · rename_i hu; cases h; simp [isAgg, run_under hu]
  · rename_i d h1 h2 hu; cases h; simp only [isAgg, Sem.run_bind, run_under hu, Result.andThen_ok]; rfl
  · cases h

section
variable {base fl : Nat} {a : HAct} {σ σ' : HS} {v : HV} {ρ : Rho} {A : Act} {W : World} {o : Oper}

theorem op_move {x : Operand} {y : Lo} (ho : o.op = .move x ∨ o.op = .assign x) (hx : lowX x = some y) (h : oMove y a σ = some (v, σ')) (hs : Sim P base σ.h.get ρ W) (ha : AR ρ a A) : HF fl σ.nx σ'.nx σ.h.get σ'.h.get ∧ Does P base fl σ σ' ρ W (execOp A.eval o) v := by
  cases h
  refine ⟨HF.refl _ _ _, does_value hs (V := A.eval x) ?_ (ev_ok ha hx)⟩
  rcases ho with ho | ho <;> simp [execOp, ho]
theorem op_pick {c x y : Operand} {c' x' y' : Lo} (ho : o.op = .pick c x y) (hc : lowX c = some c') (hx : lowX x = some x') (hy : lowX y = some y') (h : oPick c' x' y' a σ = some (v, σ')) (hs : Sim P base σ.h.get ρ W) (ha : AR ρ a A) : HF fl σ.nx σ'.nx σ.h.get σ'.h.get ∧ Does P base fl σ σ' ρ W (execOp A.eval o) v := by
  have h1 := ev_ok ha hc
  have h2 := ev_ok ha hx
  have h3 := ev_ok ha hy
  unfold oPick at h
  split at h
  · rename_i b hb
    cases h
    rw [hb] at h1
    generalize hC : A.eval c = C at h1
    cases h1
    refine ⟨HF.refl _ _ _, does_value hs (V := if b then A.eval x else A.eval y) ?_ ?_⟩
    · simp [execOp, ho, hC, asBool]
    · cases b
      · exact h3
      · exact h2
  · cases h
theorem op_alloc {t : TypeId} {z : HV} (ho : o.op = .alloc t) (hz : zeroV P t = some z) (h : oAlloc z.cells a σ = some (v, σ')) (hs : Sim P base σ.h.get ρ W) (hb : base ≤ W.heap.size) (hn : ρ σ.nx = none) :
    HF fl σ.nx σ'.nx σ.h.get σ'.h.get ∧ Does P base fl σ σ' ρ W (execOp A.eval o) v := by
  cases h
  obtain ⟨i, Z, h1, h2, h3⟩ := info_zero hz ρ
  refine ⟨hf_new (HS.get_new σ _), _, _, _, .inl ?_, (vr_new ρ σ.nx W.heap.size 0 0).1, post_row (e := t) hs hb hn h3.cells⟩
  simp [execOp, ho, Instr.alloc, run_zero h1 h2, newVar, newRow]
theorem op_box {t : TypeId} {x : Operand} {y : Lo} (ho : o.op = .box t x) (hx : lowX x = some y) (h : oBox y a σ = some (v, σ')) (hs : Sim P base σ.h.get ρ W) (ha : AR ρ a A) (hb : base ≤ W.heap.size) (hn : ρ σ.nx = none) :
    HF fl σ.nx σ'.nx σ.h.get σ'.h.get ∧ Does P base fl σ σ' ρ W (execOp A.eval o) v := by
  cases h
  refine ⟨hf_new (HS.get_new σ _), _, _, _, .inl ?_, (vr_new ρ σ.nx W.heap.size 0 0).1, post_row (e := t) hs hb hn (ev_ok ha hx).cells⟩
  simp [execOp, ho, Instr.box, newVar, newRow]
end
end Go.Hx
