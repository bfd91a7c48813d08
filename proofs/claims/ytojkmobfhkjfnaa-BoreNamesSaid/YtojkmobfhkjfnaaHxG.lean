/- The plain machine and Go's: arithmetic, equality, functions as values, lengths. -/
import Derived.Test.YtojkmobfhkjfnaaHxF
import Derived.Laws.StructEq
set_option linter.all false
namespace Go.Hx
variable {P : Program} {base fl : Nat} {a : HAct} {σ σ' : HS} {v : HV} {ρ : Rho} {A : Act} {W : World} {o : Oper}

theorem int_arith {op : BinOp} {k : IntKind} {x y : Int} (t : TypeId) (h : intArith op k x y = some v) : ∃ V, (binOp op t (.int k x) (.int k y)).run P W = .ok V W ∧ VR ρ v V := by
  unfold intArith at h
  cases op <;> simp only at h <;> first
    | (cases h; refine ⟨_, by simp only [binOp, Op.intBits, ne_eq, not_true, if_false]; rfl, ?_⟩; exact .int _ _)
    | (cases h; refine ⟨_, by simp [binOp, Op.intArith, Op.intCmp]; rfl, ?_⟩; first | exact .int _ _ | exact .bool _)
    | (split at h
       · cases h
       · rename_i hy; cases h; refine ⟨_, by simp [binOp, Op.intDiv, hy]; rfl, ?_⟩; exact .int _ _)
    | cases h
theorem shift_ok {op : BinOp} {k k' : IntKind} {x y : Int} (t : TypeId) (hs : isShift op = true) (h : shiftH op k x y = some v) : ∃ V, (binOp op t (.int k x) (.int k' y)).run P W = .ok V W ∧ VR ρ v V := by
  unfold shiftH at h
  split at h
  · cases h
  · rename_i hy
    cases op <;> simp only at h <;> first
      | (cases h; refine ⟨_, by simp [binOp, Op.shift, hy]; rfl, ?_⟩; exact .int _ _)
      | cases h
theorem guard_int (op : BinOp) (t : TypeId) (x y : Operand) (k k' : IntKind) (n m : Int) : (eqGuard op t x y (.int k n) (.int k' m)).run P W = .ok () W := by
  cases op <;> simp [eqGuard]
theorem op_bin {op : BinOp} {t t' : TypeId} {x z : Operand} {y w : Lo} (ho : o.op = .binOp op t x z t') (hx : lowX x = some y) (hz : lowX z = some w) (h : oBin op y w a σ = some (v, σ'))
    (hs : Sim P base σ.h.get ρ W) (ha : AR ρ a A) : HF fl σ.nx σ'.nx σ.h.get σ'.h.get ∧ Does P base fl σ σ' ρ W (execOp A.eval o) v := by
  have h1 := ev_ok ha hx
  have h2 := ev_ok ha hz
  obtain ⟨hb, rfl⟩ := keep_some h
  rw [binH_eq] at hb
  unfold binH0 at hb
  split at hb
  · rename_i k n k' m e1 e2
    rw [e1] at h1
    rw [e2] at h2
    have e3 := vr_int h1
    have e4 := vr_int h2
    refine ⟨HF.refl _ _ _, ?_⟩
    cases hsh : isShift op with
    | true =>
      rw [hsh] at hb
      obtain ⟨V, hr, hv⟩ := shift_ok (P := P) (W := W) (ρ := ρ) (k' := k') t hsh hb
      exact does_value hs (V := V) (by simp [execOp, ho, e3, e4, guard_int, hr]) hv
    | false =>
      rw [hsh] at hb
      simp only [cond_false] at hb
      split at hb
      · rename_i hk
        subst hk
        obtain ⟨V, hr, hv⟩ := int_arith (P := P) (W := W) (ρ := ρ) t hb
        exact does_value hs (V := V) (by simp [execOp, ho, e3, e4, guard_int, hr]) hv
      · cases hb
  · cases hb
theorem op_un {op : UnOp} {t : TypeId} {x : Operand} {y : Lo} (ho : o.op = .unOp op t x) (hx : lowX x = some y) (h : oUn op y a σ = some (v, σ'))
    (hs : Sim P base σ.h.get ρ W) (ha : AR ρ a A) : HF fl σ.nx σ'.nx σ.h.get σ'.h.get ∧ Does P base fl σ σ' ρ W (execOp A.eval o) v := by
  have h1 := ev_ok ha hx
  obtain ⟨hb, rfl⟩ := keep_some h
  refine ⟨HF.refl _ _ _, ?_⟩
  unfold unH at hb
  split at hb
  · rename_i k n e1
    rw [e1] at h1
    cases hb
    exact does_value hs (V := .int k (k.wrap (0 - n))) (by simp [execOp, ho, vr_int h1, Op.unary, Op.intArith]) (.int _ _)
  · rename_i b e1
    rw [e1] at h1
    cases hb
    exact does_value hs (V := .bool !b) (by simp [execOp, ho, vr_bool h1, Op.unary]) (.bool _)
  · cases hb
theorem op_convInt {s d : TypeId} {j k : IntKind} {x : Operand} {y : Lo} (ho : o.op = .convert s d x) (hs' : P.underlying s = some (.int j)) (hd : P.underlying d = some (.int k)) (hx : lowX x = some y) (h : oConvInt k y a σ = some (v, σ'))
    (hs : Sim P base σ.h.get ρ W) (ha : AR ρ a A) : HF fl σ.nx σ'.nx σ.h.get σ'.h.get ∧ Does P base fl σ σ' ρ W (execOp A.eval o) v := by
  have h1 := ev_ok ha hx
  unfold oConvInt at h
  split at h
  · rename_i k' n e1
    rw [e1] at h1
    cases h
    exact ⟨HF.refl _ _ _, does_value hs (V := .int k (k.wrap n)) (by simp [execOp, ho, vr_int h1, convert, run_under hs', run_under hd, Conv.intToInt]) (.int _ _)⟩
  · cases h
theorem op_makeFunc {f : Nat} {xs cs : Array Operand} {ys ds : List Lo} (ho : o.op = .makeFunc (.func f) xs cs) (hx : lowXs xs.toList = some ys) (hc : lowXs cs.toList = some ds) (h : oMakeFunc f ys ds a σ = some (v, σ'))
    (hs : Sim P base σ.h.get ρ W) (ha : AR ρ a A) : HF fl σ.nx σ'.nx σ.h.get σ'.h.get ∧ Does P base fl σ σ' ρ W (execOp A.eval o) v := by
  cases h
  have h1 := evs_ok ha hx
  have h2 := evs_ok ha hc
  refine ⟨HF.refl _ _ _, does_value hs (V := .func (.func f) (xs.map A.eval) (cs.map A.eval)) (by simp [execOp, ho, Instr.makeFunc]) ?_⟩
  refine .func (by simpa using h1.1) (by simpa using h2.1) (fun i v u hv hu => h1.2 i v u hv ?_) (fun i v u hv hu => h2.2 i v u hv ?_)
  · rw [← Array.toList_map, Array.getElem?_toList]; exact hu
  · rw [← Array.toList_map, Array.getElem?_toList]; exact hu
theorem op_makeMap {t : TypeId} (ho : o.op = .makeMap t none) (h : oMakeMap a σ = some (v, σ')) (hs : Sim P base σ.h.get ρ W) (hb : base ≤ W.heap.size) (hn : ρ σ.nx = none) : HF fl σ.nx σ'.nx σ.h.get σ'.h.get ∧ Does P base fl σ σ' ρ W (execOp A.eval o) v := by
  cases h
  refine ⟨hf_new (HS.get_new σ _), .map (some W.heap.size), W.alloc (.map #[] 0), _, .inl ?_, .map (r := ⟨W.heap.size, 0, 0⟩) (Rho.put_same ρ σ.nx _), ?_⟩
  · simp [execOp, ho, Instr.makeMap]
  · exact post_new hs hn (HS.get_new σ _) rfl ⟨_, #[], 0, Rho.put_same _ _ _, heap_alloc_new W _, hb, rfl, fun i e x h => by simp at h⟩
theorem op_min_aux {f : Int → Int → Int} {g : Value → Value → Sem Value} (hg : ∀ k j (x y : Int) (W : World), (g (.int k x) (.int j y)).run P W = .ok (.int k (f x y)) W) (k : IntKind) :
    ∀ {l : List HV} {n : Int} {L : List Value}, foldInt f k n l = some v → LR ρ l L → ∃ m, v = .int k m ∧ (L.foldlM g (.int k n)).run P W = .ok (.int k m) W
  | [], n, L, h, hl => by
    have := LR.inv_nil hl
    subst this
    cases h
    exact ⟨n, rfl, by simp⟩
  | .int j m :: l, n, L, h, hl => by
    obtain ⟨u, L', rfl, hu, hl'⟩ := LR.inv hl
    rw [vr_int hu]
    simp only [foldInt] at h
    obtain ⟨q, hq, hr⟩ := op_min_aux hg k h hl'
    exact ⟨q, hq, by simp [List.foldlM_cons, hg, hr]⟩
  | .bool _ :: _, _, _, h, _ | .str _ :: _, _, _, h, _ | .ptr _ :: _, _, _, h, _ | .slice _ _ _ :: _, _, _, h, _ | .map _ :: _, _, _, h, _ | .func _ _ _ :: _, _, _, h, _ | .yield _ :: _, _, _, h, _ | .nilFunc :: _, _, _, h, _
  | .nilIface :: _, _, _, h, _ | .agg _ :: _, _, _, h, _ | .tuple _ :: _, _, _, h, _ => by simp [foldInt] at h
theorem minmax_ok {f : Int → Int → Int} {g : Value → Value → Sem Value} (hg : ∀ k j (x y : Int) (W : World), (g (.int k x) (.int j y)).run P W = .ok (.int k (f x y)) W) {l : List HV} {L : List Value} (h : minmax f l = some v) (hl : LR ρ l L) :
    ∃ u L' V, L = u :: L' ∧ VR ρ v V ∧ (L'.foldlM g u).run P W = .ok V W := by
  unfold minmax at h
  split at h
  · rename_i k n l'
    obtain ⟨u, L', rfl, hu, hl'⟩ := LR.inv hl
    obtain ⟨m, hm, hr⟩ := op_min_aux (P := P) (W := W) hg k h hl'
    subst hm
    exact ⟨u, L', _, rfl, .int _ _, by rw [vr_int hu]; exact hr⟩
  · cases h
theorem builtin_call {b : Builtin} {xs : Array Operand} {ts : Array TypeId} (ho : o.op = .call { callee := .builtin b, args := xs, argTypes := ts }) :
    (execOp A.eval o).run P W = (builtin b ts o.type (xs.map fun | .const _ => true | _ => false) (xs.map A.eval)).run P W := by
  simp [execOp, ho, resolve, invoke]
  rfl
theorem op_min {xs : Array Operand} {ys : List Lo} {ts : Array TypeId} (ho : o.op = .call { callee := .builtin .min, args := xs, argTypes := ts }) (hx : lowXs xs.toList = some ys) (h : oMin ys a σ = some (v, σ'))
    (hs : Sim P base σ.h.get ρ W) (ha : AR ρ a A) : HF fl σ.nx σ'.nx σ.h.get σ'.h.get ∧ Does P base fl σ σ' ρ W (execOp A.eval o) v := by
  have h1 := evs_ok ha hx
  obtain ⟨hb, rfl⟩ := keep_some h
  obtain ⟨u, L, V, e, hv, hr⟩ := minmax_ok (P := P) (W := W) (g := Builtin.min2) (fun k j x y W => by simp [Builtin.min2]) hb h1
  refine ⟨HF.refl _ _ _, does_value hs (V := V) ?_ hv⟩
  rw [builtin_call ho]
  simp [builtin, Builtin.min_, e, hr]
theorem op_max {xs : Array Operand} {ys : List Lo} {ts : Array TypeId} (ho : o.op = .call { callee := .builtin .max, args := xs, argTypes := ts }) (hx : lowXs xs.toList = some ys) (h : oMax ys a σ = some (v, σ'))
    (hs : Sim P base σ.h.get ρ W) (ha : AR ρ a A) : HF fl σ.nx σ'.nx σ.h.get σ'.h.get ∧ Does P base fl σ σ' ρ W (execOp A.eval o) v := by
  have h1 := evs_ok ha hx
  obtain ⟨hb, rfl⟩ := keep_some h
  obtain ⟨u, L, V, e, hv, hr⟩ := minmax_ok (P := P) (W := W) (g := Builtin.max2) (fun k j x y W => by simp [Builtin.max2]) hb h1
  refine ⟨HF.refl _ _ _, does_value hs (V := V) ?_ hv⟩
  rw [builtin_call ho]
  simp [builtin, Builtin.max_, e, hr]
theorem lowXs_one {xs : List Operand} {y : Lo} (h : lowXs xs = some [y]) : ∃ x, xs = [x] ∧ lowX x = some y := by
  cases xs with
  | nil => cases h
  | cons x xs =>
    unfold lowXs at h
    split at h
    · rename_i y' ys' h1 h2
      cases h
      cases xs with
      | nil => exact ⟨x, rfl, h1⟩
      | cons z zs => unfold lowXs at h2; split at h2 <;> cases h2
    · cases h
theorem lowXs_two {xs : List Operand} {y z : Lo} (h : lowXs xs = some [y, z]) : ∃ x w, xs = [x, w] ∧ lowX x = some y ∧ lowX w = some z := by
  cases xs with
  | nil => cases h
  | cons x xs =>
    unfold lowXs at h
    split at h
    · rename_i y' ys' h1 h2
      cases h
      obtain ⟨w, rfl, hw⟩ := lowXs_one h2
      exact ⟨x, w, rfl, h1, hw⟩
    · cases h
theorem arr_one {α : Type} {xs : Array α} {x : α} (h : xs.toList = [x]) : xs = #[x] := by
  cases xs; simp at h; simp [h]
theorem arr_two {α : Type} {xs : Array α} {x y : α} (h : xs.toList = [x, y]) : xs = #[x, y] := by
  cases xs; simp at h; simp [h]
theorem er_len {ρ : Rho} {es : List (HV × HV)} {E : List MapEntry} (h : ER ρ es E) : es.length = E.length := h.1
theorem vr_str {ρ : Rho} {s : ByteArray} {V : Value} (h : VR ρ (.str s) V) : V = .string s := by cases h; rfl
theorem vr_nilmap {ρ : Rho} {V : Value} (h : VR ρ (.map none) V) : V = .map none := by cases h; rfl
theorem vr_anyslice {ρ : Rho} {p : Option (Nat × Nat)} {l c : Nat} {V : Value} (h : VR ρ (.slice p l c) V) : ∃ q d, V = .slice q l d ∧ (p.isNone = q.isNone) := by
  cases h
  · exact ⟨_, _, rfl, rfl⟩
  · exact ⟨_, _, rfl, rfl⟩
theorem op_len {xs : Array Operand} {y : Lo} {t : TypeId} {k : LK} {ts : Array TypeId} (ho : o.op = .call { callee := .builtin .len, args := xs, argTypes := ts }) (hx : lowXs xs.toList = some [y]) (ht : ts[0]? = some t)
    (hu : match k with | .str => P.underlying t = some .string | .slice => ∃ e, P.underlying t = some (.slice e) | .map => ∃ k e, P.underlying t = some (.map k e)) (h : oLen k y a σ = some (v, σ'))
    (hs : Sim P base σ.h.get ρ W) (ha : AR ρ a A) : HF fl σ.nx σ'.nx σ.h.get σ'.h.get ∧ Does P base fl σ σ' ρ W (execOp A.eval o) v := by
  obtain ⟨x, hx1, hx2⟩ := lowXs_one hx
  have hx1 := arr_one hx1
  subst hx1
  have h1 := ev_ok ha hx2
  obtain ⟨hb, rfl⟩ := keep_some h
  refine ⟨HF.refl _ _ _, ?_⟩
  unfold lenH at hb
  split at hb
  · rename_i p n c e1
    cases hb
    rw [e1] at h1
    obtain ⟨e, hu⟩ := hu
    obtain ⟨q, d, hV, _⟩ := vr_anyslice h1
    exact does_value hs (V := .int .i64 n) (by rw [builtin_call ho]; simp [builtin, Builtin.len_, ht, hV, run_under hu, goInt]) (.int _ _)
  · rename_i s e1
    cases hb
    rw [e1] at h1
    have hu : P.underlying t = some .string := hu
    exact does_value hs (V := .int .i64 s.size) (by rw [builtin_call ho]; simp [builtin, Builtin.len_, ht, vr_str h1, run_under hu, goInt]) (.int _ _)
  · rename_i e1
    cases hb
    rw [e1] at h1
    obtain ⟨k, e, hu⟩ := hu
    exact does_value hs (V := .int .i64 0) (by rw [builtin_call ho]; simp [builtin, Builtin.len_, ht, vr_nilmap h1, run_under hu, goInt]) (.int _ _)
  · rename_i r e1
    split at hb
    · rename_i es hes
      cases hb
      rw [e1] at h1
      obtain ⟨k, e, hu⟩ := hu
      obtain ⟨q, hq, hV⟩ := vr_map h1
      obtain ⟨q', E, cl, hq', hw, _, her⟩ := hs.ok _ _ hes
      rw [hq] at hq'; cases hq'
      have hE : E.size = es.length := by have := her.1; simpa using this.symm
      exact does_value hs (V := .int .i64 es.length) (by rw [builtin_call ho]; simp [builtin, Builtin.len_, ht, hV, run_under hu, goInt, getObj, Sem.run, hw, hE]) (.int _ _)
    · cases hb
  · cases hb
theorem op_cap {xs : Array Operand} {y : Lo} {t e : TypeId} {ts : Array TypeId} (ho : o.op = .call { callee := .builtin .cap, args := xs, argTypes := ts }) (hx : lowXs xs.toList = some [y]) (ht : ts[0]? = some t)
    (hu : P.underlying t = some (.slice e)) (h : oCap y a σ = some (v, σ')) (hs : Sim P base σ.h.get ρ W) (ha : AR ρ a A) : HF fl σ.nx σ'.nx σ.h.get σ'.h.get ∧ Does P base fl σ σ' ρ W (execOp A.eval o) v := by
  obtain ⟨x, hx1, hx2⟩ := lowXs_one hx
  have hx1 := arr_one hx1
  subst hx1
  have h1 := ev_ok ha hx2
  obtain ⟨hb, rfl⟩ := keep_some h
  refine ⟨HF.refl _ _ _, ?_⟩
  unfold capH at hb
  split at hb
  · rename_i l n e1
    cases hb
    rw [e1] at h1
    obtain ⟨hV, rfl, rfl⟩ := vr_nilslice h1
    exact does_value hs (V := .int .i64 0) (by rw [builtin_call ho]; simp [builtin, Builtin.cap_, ht, hV, run_under hu, goInt]) (.int _ _)
  · rename_i p l n e1
    obtain ⟨b, q⟩ := p
    split at hb
    · rename_i cs hc
      cases hb
      rw [e1] at h1
      obtain ⟨r, hr, hV⟩ := vr_slice h1
      obtain ⟨r', C, e', z, hr', _, _, hk⟩ := hs.ok _ _ hc
      rw [hr] at hr'; cases hr'
      exact does_value hs (V := .int .i64 n) (by rw [builtin_call ho]; simp [builtin, Builtin.cap_, ht, hV, run_under hu, goInt, hk.2.2]) (.int _ _)
    · cases hb
  · cases hb
end Go.Hx
