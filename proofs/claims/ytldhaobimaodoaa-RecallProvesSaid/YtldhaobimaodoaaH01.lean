/- The plain machine and Go's: make, slices of slices, append. -/
import Derived.Test.YtldhaobimaodoaaH00
import Derived.Laws.AppendOwn
import Derived.IntWalk
import Derived.ChangeKeysEq
import Derived.RangeFuncNested
set_option linter.all false
/- The plain machine and Go's: make, slices of slices, append. -/
namespace Go.Hx
variable {P : Program} {base fl : Nat} {a : HAct} {σ σ' : HS} {v : HV} {ρ : Rho} {A : Act} {W : World} {o : Oper}

theorem repl_get (zs : List HV) : ∀ c i, (repl c zs)[i]? = if i < c * zs.length then zs[i % zs.length]? else none
  | 0, i => by simp [repl]
  | c + 1, i => by
    have e : repl (c + 1) zs = zs ++ repl c zs := by simp [repl, List.replicate_succ]
    rw [e, List.getElem?_append]
    by_cases h : i < zs.length
    · rw [if_pos h, if_pos (by rw [Nat.add_mul]; omega), Nat.mod_eq_of_lt h]
    · rw [if_neg h, repl_get zs c, Nat.add_mul, Nat.one_mul]
      by_cases h2 : i - zs.length < c * zs.length
      · rw [if_pos h2, if_pos (by omega)]
        congr 1
        exact (Nat.mod_eq_sub_mod (by omega)).symm
      · rw [if_neg h2, if_neg (by omega)]
theorem repl_len (zs : List HV) (c : Nat) : (repl c zs).length = c * zs.length := by simp [repl]
theorem lr_repl {ρ : Rho} {zs : List HV} {Z : Array Value} {s c : Nat} (h : LR ρ zs Z.toList) (hz : zs.length = s) : LR ρ (repl c zs) ((Array.range (c * s)).map (Z[· % Z.size]!)).toList := by
  have hl : Z.size = s := by have := h.1; simp at this; omega
  refine ⟨by simp [repl_len, hz], fun i v u hv hu => ?_⟩
  rw [repl_get, hz] at hv
  split at hv
  · rename_i hi
    have hs : 0 < s := by
      rcases Nat.eq_zero_or_pos s with e | e
      · subst e; simp at hi
      · exact e
    have hm : i % s < Z.size := by rw [hl]; exact Nat.mod_lt _ hs
    have hu : Z[i % Z.size]! = u := by simpa [hi] using hu
    subst hu
    refine h.2 _ _ _ hv ?_
    rw [hl] at hm ⊢
    rw [Array.getElem?_toList]
    simp [hm, hl]
  · cases hv
theorem map_range_zero (f : Nat → Value) : (Array.range 0).map f = #[] := Array.eq_empty_of_size_eq_zero (by simp)
theorem op_makeSlice {t e : TypeId} {l c : Operand} {l' c' : Lo} {b s : Nat} {z : HV} (ho : o.op = .makeSlice t l c) (hu : P.underlying t = some (.slice e)) (hb' : byOf P e = some b) (hs' : szOf P e = some s) (hz : zeroV P e = some z)
    (hzl : z.cells.length = s) (hl : lowX l = some l') (hc : lowX c = some c') (h : oMakeSlice z.cells b l' c' a σ = some (v, σ'))
    (hs : Sim P base σ.h.get ρ W) (ha : AR ρ a A) (hb : base ≤ W.heap.size) (hn : ρ σ.nx = none) : HF fl σ.nx σ'.nx σ.h.get σ'.h.get ∧ Does P base fl σ σ' ρ W (execOp A.eval o) v := by
  have h1 := ev_ok ha hl
  have h2 := ev_ok ha hc
  unfold oMakeSlice at h
  split at h
  · rename_i m n e1 e2
    obtain ⟨k1, hk1⟩ := nat_of h1 e1
    obtain ⟨k2, hk2⟩ := nat_of h2 e2
    cases hcond : (Nat.ble m n && Nat.ble (n * b) 35184372088832 && Nat.ble n 35184372088832) with
    | false => rw [hcond] at h; cases h
    | true =>
      rw [hcond] at h
      simp only [Bool.and_eq_true, Nat.ble_eq] at hcond
      obtain ⟨⟨c1, c2⟩, c3⟩ := hcond
      cases h
      obtain ⟨i, Z, i1, i2, i3⟩ := info_zero hz ρ
      have ib : i.bytes = b := by simpa [byOf, i1] using hb'
      have is : i.size = s := by simpa [szOf, i1] using hs'
      have w1 : IntKind.i64.wrap (m : Int) = m := IntWalk.i64_in _ (by omega)
      have w2 : IntKind.i64.wrap (n : Int) = n := IntWalk.i64_in _ (by omega)
      have q1 : ¬ (281474976710656 : Int) < b * n := by
        have e1 : ((b * n : Nat) : Int) = (b : Int) * n := by simp
        have e2 : b * n ≤ 35184372088832 := by rw [Nat.mul_comm]; exact c2
        omega
      have hrow : LR ρ (repl n z.cells) ((Array.range (n * s)).map (Z.cells[· % Z.cells.size]!)).toList := lr_repl i3.cells hzl
      refine ⟨hf_new (HS.get_new σ _), _, _, _, .inl ?_, (vr_new ρ σ.nx W.heap.size m n).2, post_row (e := e) hs hb hn hrow⟩
      by_cases h0 : n * s = 0
      · simp [execOp, ho, hk1, hk2, Instr.makeSlice, run_under hu, asInt, asIntOf, run_info i1, run_size i1, is, ib, w1, w2, q1, c1, h0, newRow, show ¬ n < m by omega]
        rw [if_neg (by omega), map_range_zero]
      · simp [execOp, ho, hk1, hk2, Instr.makeSlice, run_under hu, asInt, asIntOf, run_info i1, run_size i1, is, ib, w1, w2, q1, h0, newRow, run_zero i1 i2, show ¬ n < m by omega]
        rw [if_neg (by omega)]
        congr 3
        apply Array.ext'
        simp
  · cases h

theorem vr_slices {ρ : Rho} {p : Option (Nat × Nat)} {l c : Nat} {V : Value} (h : VR ρ (.slice p l c) V) :
    (p = none ∧ l = 0 ∧ c = 0 ∧ V = .slice none 0 0) ∨ (∃ b q r, p = some (b, q) ∧ ρ b = some r ∧ V = .slice (some ⟨r.blk, r.off + q, none⟩) l (c + r.extra)) ∨ ∃ b q a, p = some (b, q) ∧ l = 0 ∧ c = 0 ∧ V = .slice (some a) 0 0 := by
  cases h with
  | slice0 => exact .inl ⟨rfl, rfl, rfl, rfl⟩
  | slice h => exact .inr (.inl ⟨_, _, _, rfl, h, rfl⟩)
  | slice00 a => exact .inr (.inr ⟨_, _, a, rfl, rfl, rfl, rfl⟩)
theorem bound_some {ρ : Rho} {x : Option Operand} {y : Option Lo} {d n : Nat} (ha : AR ρ a A) (hx : lowO x = some y) (h : boundH d (y.map a.ev) = some n) :
    (x = none ∧ n = d) ∨ ∃ w k, x = some w ∧ A.eval w = .int k (n : Int) := by
  cases x with
  | none => cases hx; cases h; exact .inl ⟨rfl, rfl⟩
  | some w =>
    simp only [lowO, Option.map_eq_some_iff] at hx
    obtain ⟨y', hy, rfl⟩ := hx
    obtain ⟨k, hk⟩ := nat_of (ev_ok ha hy) h
    exact .inr ⟨w, k, rfl, hk⟩
theorem run_bounds {x y : Option Operand} {len cap l h : Nat} (h1 : (y = none ∧ h = len) ∨ ∃ w k, y = some w ∧ A.eval w = .int k (h : Int)) (h2 : (x = none ∧ l = 0) ∨ ∃ w k, x = some w ∧ A.eval w = .int k (l : Int))
    (hle : l ≤ h) (hc : h ≤ cap) (W : World) : (Instr.sliceBounds true len cap (x.map A.eval) (y.map A.eval) none).run P W = .ok (l, h, cap) W := by
  rcases h1 with ⟨rfl, rfl⟩ | ⟨w, k, rfl, hw⟩ <;> rcases h2 with ⟨rfl, rfl⟩ | ⟨w', k', rfl, hw'⟩
  · simp [Instr.sliceBounds]
  · simp [Instr.sliceBounds, Instr.sliceBound, asIntOf, hw', hle]
  · simp [Instr.sliceBounds, Instr.sliceBound, asIntOf, hw, hc]
  · simp [Instr.sliceBounds, Instr.sliceBound, asIntOf, hw, hw', hc, hle]
theorem post_ghost {base fl : Nat} {σ : HS} {ρ : Rho} {W : World} {r : RI} (hs : Sim P base σ.h.get ρ W) (hn : ρ σ.nx = none) : Post P base fl σ.nx (σ.nx + 1) σ.h.get σ.h.get ρ (ρ.put σ.nx r) W W := by
  have old : ∀ b x, σ.h.get b = some x → b ≠ σ.nx := fun b x hx e => by
    obtain ⟨q, hq, _⟩ := (hs.ok b x hx).has
    rw [e, hn] at hq; cases hq
  refine ⟨Rho.le_put r hn, fun j hj => Rho.put_other _ _ (by omega), ⟨fun b x hx => (hs.ok b x hx).keep (Rho.le_put r hn) fun _ _ => rfl, fun b b' x x' q q' h1 h2 h3 h4 h5 h6 h7 => ?_⟩, rfl, rfl, rfl, fun _ => rfl, Nat.le_refl _, fun _ _ _ => rfl, fun k ⟨b, x, q, h1, h2, h3, h4, h5⟩ => ?_⟩
  · rw [Rho.put_other _ _ (old b x h1)] at h6
    rw [Rho.put_other _ _ (old b' x' h2)] at h7
    exact hs.inj b b' x x' q q' h1 h2 h3 h4 h5 h6 h7
  · rw [Rho.put_other _ _ (old b x h1)] at h4
    exact .inr ⟨b, x, q, h1, h2, h3, h4, h5⟩
theorem op_sliceS {t e : TypeId} {s : Nat} {x : Operand} {y : Lo} {lo hi : Option Operand} {lo' hi' : Option Lo} (ho : o.op = .slice t x lo hi none) (hu : P.underlying t = some (.slice e)) (hz : szOf P e = some s) (hx : lowX x = some y)
    (hlo : lowO lo = some lo') (hhi : lowO hi = some hi') (h : oSliceS s y lo' hi' a σ = some (v, σ')) (hs : Sim P base σ.h.get ρ W) (ha : AR ρ a A) (hn : ∀ b, σ.nx ≤ b → b < σ'.nx → ρ b = none) : HF fl σ.nx σ'.nx σ.h.get σ'.h.get ∧ Does P base fl σ σ' ρ W (execOp A.eval o) v := by
  have h1 := ev_ok ha hx
  obtain ⟨i, i1, i2⟩ := info_size hz
  unfold oSliceS at h
  split at h
  case h_2 =>
    revert h
    cases hend : endH (a.ev y) (lo'.map a.ev) (hi'.map a.ev) with
    | false => intro h; cases h
    | true =>
      intro h
      cases h
      unfold endH at hend
      split at hend
      · rename_i p len cap e1
        rw [e1] at h1
        split at hend
        · rename_i m l hm hl
          simp only [Bool.and_eq_true] at hend
          have q1 := Nat.eq_of_beq_eq_true hend.1
          have q2 := Nat.eq_of_beq_eq_true hend.2
          subst q1; subst q2
          have b1 := bound_some (d := len) ha hhi hm
          have b2 := bound_some (d := 0) ha hlo hl
          rcases vr_slices h1 with ⟨e, _⟩ | ⟨b, q, r, _, hr, hV⟩ | ⟨b, q, a', _, e1, e2, hV⟩
          · cases e
          case inr.inr =>
            subst e1; subst e2
            have hrun := run_bounds (P := P) (len := 0) (cap := 0) b1 b2 (Nat.le_refl _) (by omega) W
            have hn0 := hn σ.nx (Nat.le_refl _) (Nat.lt_succ_self _)
            refine ⟨⟨Nat.le_succ _, fun _ _ _ => rfl, fun _ _ => rfl⟩, .slice (some a') 0 0, W, ρ.put σ.nx ⟨0, 0, 0⟩, .inl ?_, .slice00 a', post_ghost hs hn0⟩
            simp [execOp, ho, Instr.sliceAt, Instr.slice, run_under hu, hV, hrun, run_size i1]
          · have hrun := run_bounds (P := P) (len := len) (cap := m + r.extra) b1 b2 (Nat.le_refl _) (by omega) W
            have hn0 := hn σ.nx (Nat.le_refl _) (Nat.lt_succ_self _)
            refine ⟨⟨Nat.le_succ _, fun _ _ _ => rfl, fun _ _ => rfl⟩, ?_⟩
            by_cases e0 : r.extra = 0
            · refine ⟨.slice (some ⟨r.blk, r.off + q, none⟩) 0 0, W, ρ.put σ.nx ⟨r.blk, r.off + q, 0⟩, .inl ?_, ?_, post_ghost hs hn0⟩
              · rw [e0, Nat.add_zero] at hrun
                simp [execOp, ho, Instr.sliceAt, Instr.slice, run_under hu, hV, hrun, run_size i1, e0]
              · have := VR.slice (ρ := ρ.put σ.nx ⟨r.blk, r.off + q, 0⟩) (b := σ.nx) (o := 0) (l := 0) (c := 0) (Rho.put_same _ _ _)
                exact this
            · refine ⟨.slice (some ⟨r.blk, r.off + (q + m * s), none⟩) 0 r.extra, W, ρ.put σ.nx ⟨r.blk, r.off + (q + m * s), r.extra⟩, .inl ?_, ?_, post_ghost hs hn0⟩
              · have e1 : ¬ m + r.extra = m := by omega
                have e2 : m + r.extra - m = r.extra := by omega
                simp [execOp, ho, Instr.sliceAt, Instr.slice, run_under hu, hV, hrun, run_size i1, i2, e0, e1, e2, add_none, Nat.add_assoc]
              · have := VR.slice (ρ := ρ.put σ.nx ⟨r.blk, r.off + (q + m * s), r.extra⟩) (b := σ.nx) (o := 0) (l := 0) (c := 0) (Rho.put_same _ _ _)
                simpa using this
        · cases hend
      · cases hend
  rename_i v' hb
  cases h
  refine ⟨HF.refl _ _ _, ?_⟩
  unfold sliceH at hb
  split at hb
  · rename_i p len cap e1
    rw [e1] at h1
    split at hb
    · rename_i m l hm hl
      have b1 := bound_some (d := len) ha hhi hm
      have b2 := bound_some (d := 0) ha hlo hl
      split at hb
      · rename_i hle
        obtain ⟨hle, hc⟩ := hle
        rcases vr_slices h1 with ⟨rfl, rfl, rfl, hV⟩ | ⟨b, q, r, rfl, hr, hV⟩ | ⟨b, q, a', rfl, rfl, rfl, hV⟩
        case inr.inr =>
          have hl0 : l = 0 := by omega
          have hm0 : m = 0 := by omega
          subst hl0; subst hm0
          have hrun := run_bounds (P := P) (len := 0) (cap := 0) b1 b2 (Nat.le_refl _) (Nat.le_refl _) W
          simp only [cutH, or_true, if_true] at hb
          cases hb
          exact does_value hs (V := .slice (some a') 0 0) (by simp [execOp, ho, Instr.sliceAt, Instr.slice, run_under hu, hV, hrun, run_size i1]) (.slice00 a')
        · cases hb
          have hl0 : l = 0 := by omega
          have hm0 : m = 0 := by omega
          subst hl0; subst hm0
          have hrun := run_bounds (P := P) (len := 0) (cap := 0) b1 b2 (Nat.le_refl _) (Nat.le_refl _) W
          exact does_value hs (V := .slice none 0 0) (by simp [execOp, ho, Instr.sliceAt, Instr.slice, run_under hu, hV, hrun, run_size i1]) .slice0
        · have hrun := run_bounds (P := P) (len := len) (cap := cap + r.extra) b1 b2 hle (by omega) W
          simp only [cutH] at hb
          split at hb
          · rename_i hcond
            cases hb
            refine does_value hs (V := .slice (some ⟨r.blk, r.off + (q + l * s), none⟩) (m - l) (cap - l + r.extra)) ?_ (.slice hr)
            have hcap : cap + r.extra - l = cap - l + r.extra := by omega
            by_cases e0 : cap + r.extra = l
            · have hl0 : l = 0 := by omega
              subst hl0
              simp [execOp, ho, Instr.sliceAt, Instr.slice, run_under hu, hV, hrun, run_size i1]
              omega
            · simp [execOp, ho, Instr.sliceAt, Instr.slice, run_under hu, hV, hrun, run_size i1, i2, e0, add_none, Nat.add_assoc, hcap]
          · rename_i hcond
            split at hb
            · rename_i cs hcs
              cases hb
              obtain ⟨r', C, e', z, hr', _, _, hk⟩ := hs.ok _ _ hcs
              rw [hr] at hr'; cases hr'
              have hx0 := hk.2.2
              have hcl : cap = l := by omega
              subst hcl
              refine does_value hs (V := .slice (some ⟨r.blk, r.off + q, none⟩) (m - cap) (cap - cap + r.extra)) ?_ (.slice hr)
              rw [hx0, Nat.add_zero] at hrun
              simp [execOp, ho, Instr.sliceAt, Instr.slice, run_under hu, hV, hrun, run_size i1, hx0]
            · cases hb
      · cases hb
    · cases hb
  · cases hb

/-! append -/
theorem read_s {σ : HS} {a : Nat × Nat} {n : Nat} {l : List HV} (h : σ.read a n = some l) : readS σ a n = some l := by
  unfold readS
  rw [cond_beq]
  split
  · rename_i e
    subst e
    unfold HS.read at h
    cases hc : σ.cells a.1 with
    | none => simp [hc] at h
    | some cs => simp [hc, takeN] at h; rw [h]
  · exact h
theorem first_cells {x : HV} {V : Value} {n size : Nat} {news : List HV} (hx : VR ρ x V) (h : ∃ p l c, x = .slice p l c ∧ (match p with | none => some [] | some a => readS σ a (n * size)) = some news ∧ n ≤ l) (hs : Sim P base σ.h.get ρ W) :
    ∃ U : List Value, LR ρ news U ∧ news.length = n * size ∧ (Builtin.firstCells size n V).run P W = .ok U.toArray W ∧ (Builtin.firstCells size n V).run P W.drew = .ok U.toArray W.drew := by
  obtain ⟨p, l, c, rfl, hr, hn⟩ := h
  rcases vr_slices hx with ⟨rfl, rfl, rfl, hV⟩ | ⟨b, q, r, rfl, hρ, hV⟩ | ⟨b, q, a', rfl, rfl, rfl, hV⟩
  case inr.inr =>
    have h0 : n = 0 := by omega
    subst h0
    have hr : readS σ (b, q) (0 * size) = some news := hr
    rw [Nat.zero_mul] at hr
    cases hr
    exact ⟨[], LR.nil ρ, by simp, by simp [hV, Builtin.firstCells, loadCells, loadCellsFrom], by simp [hV, Builtin.firstCells, loadCells, loadCellsFrom]⟩
  · cases hr
    have : n = 0 := by omega
    subst this
    exact ⟨[], LR.nil ρ, by simp, by simp [hV, Builtin.firstCells], by simp [hV, Builtin.firstCells]⟩
  · have hr : readS σ (b, q) (n * size) = some news := hr
    unfold readS at hr
    rw [cond_beq] at hr
    split at hr
    · rename_i h0
      cases hr
      refine ⟨[], LR.nil ρ, by simp [h0], ?_, ?_⟩
      · simp [hV, Builtin.firstCells, h0, loadCells, loadCellsFrom]
      · simp [hV, Builtin.firstCells, h0, loadCells, loadCellsFrom]
    obtain ⟨r', U, hr', hU, hl, hl', hcell⟩ := sim_read hs hr
    rw [hρ] at hr'; cases hr'
    refine ⟨U, hU, hl', ?_, ?_⟩
    · simp only [hV, Builtin.firstCells]
      exact run_loadCells_of hl hcell
    · simp only [hV, Builtin.firstCells]
      exact run_loadCells_of hl (fun j u hu => by rw [World.cell?_drew]; exact hcell j u hu)
theorem run_app_fits {ts : Array TypeId} {t0 t1 e e' ty : TypeId} {i : TypeInfo} {p : Option Addr} {sl sc : Nat} {X : Value} {xl : Nat} {U : Array Value} {W' : World} (ht0 : ts[0]? = some t0) (ht1 : ts[1]? = some t1) (hu0 : P.underlying t0 = some (.slice e)) (hu1 : P.underlying t1 = some (.slice e'))
    (hi : P.info? e = some i) (hl : ∀ W, (Builtin.lenOf X).run P W = .ok xl W) (hf : (Builtin.firstCells i.size xl X).run P W = .ok U W) (hle : sl + xl ≤ sc)
    (hst : ∀ a, p = some a → (storeCells (a.add (sl * i.size)) U.toList).run P W = .ok () W') (hn : p = none → W' = W) :
    (Builtin.append_ ts ty #[.slice p sl sc, X]).run P W = .ok (.slice p (sl + xl) sc) W' := by
  cases p with
  | none => simp [Builtin.append_, ht0, ht1, run_under hu0, run_under hu1, run_size hi, hl, hf, hle, hn rfl]
  | some a => simp [Builtin.append_, ht0, ht1, run_under hu0, run_under hu1, run_size hi, hl, hf, hle, hst a rfl]
theorem run_app_grows {ts : Array TypeId} {t0 t1 e e' ty : TypeId} {i : TypeInfo} {Z : Value} {p : Option Addr} {sl sc : Nat} {X : Value} {xl : Nat} {U O : Array Value} (ht0 : ts[0]? = some t0) (ht1 : ts[1]? = some t1) (hu0 : P.underlying t0 = some (.slice e)) (hu1 : P.underlying t1 = some (.slice e'))
    (hi : P.info? e = some i) (hz : i.zero = some Z) (hl : ∀ W, (Builtin.lenOf X).run P W = .ok xl W) (hf : (Builtin.firstCells i.size xl X).run P W.drew = .ok U W.drew) (ho : (Builtin.firstCells i.size sl (.slice p sl sc)).run P W.drew = .ok O W.drew)
    (hlt : ¬ sl + xl ≤ sc) (hb : (sl + xl) * i.bytes ≤ 140737488355328) (h63 : sl + xl ≤ 140737488355328) :
    ∃ c, sl + xl ≤ c ∧ (Builtin.append_ ts ty #[.slice p sl sc, X]).run P W = .ok (.slice (some ⟨W.heap.size, 0, none⟩) (sl + xl) c) (W.drew.alloc (.cells (O ++ U ++ Builtin.zeroCells Z.cells (c - (sl + xl))) e)) := by
  refine ⟨grownCap W (sl + xl) sc e, grownCap_ge W _ _ e, ?_⟩
  have h63' : ¬ (9223372036854775807 < ((sl : Int) + (xl : Int))) := by omega
  have hfit := growslice_fits (old := sc) (need := sl + xl) (bytes := i.bytes) (by omega) hb
  have h48' : ¬ (281474976710656 < Builtin.nextslicecap (sl + xl) sc * i.bytes) := by omega
  simp [Builtin.append_, ht0, ht1, run_under hu0, run_under hu1, run_size hi, run_info hi, run_zero hi hz, hl, hf, ho, hlt, h63', h48', Question.forced, newRow, grownCap]
theorem lr_toArray {C : Array Value} {cs : List HV} (h : LR ρ cs C.toList) : CellsOk ρ cs C 0 := by
  have := lr_cells h
  simpa using this
/-- A row that append has laid. -/
theorem post_opn {base fl : Nat} {σ : HS} {ρ : Rho} {W : World} {cs : List HV} {C R : Array Value} {e : TypeId} {s extra : Nat} (hs : Sim P base σ.h.get ρ W) (hb : base ≤ W.heap.size) (hn : ρ σ.nx = none) (hc : LR ρ cs C.toList) (hR : R.size = extra * s) :
    Post P base fl σ.nx (σ.nx + 1) σ.h.get (σ.new (.cells cs (.opn s))).h.get ρ (ρ.put σ.nx ⟨W.heap.size, 0, extra⟩) W (W.drew.alloc (.cells (C ++ R) e)) := by
  have hl : cs.length = C.size := by have := hc.1; simpa using this
  have hd : Sim P base σ.h.get ρ W.drew := ⟨fun b x hx => (hs.ok b x hx).keep (Rho.le_refl ρ) fun _ _ => rfl, hs.inj⟩
  have := post_new (fl := fl) (o := .cells (C ++ R) e) (r := ⟨W.heap.size, 0, extra⟩) hd hn (HS.get_new σ (.cells cs (.opn s))) rfl
    ⟨⟨W.heap.size, 0, extra⟩, C ++ R, e, (0, 0), Rho.put_same _ _ _, heap_alloc_new W.drew _, fun i v hi => by
      obtain ⟨u, hu, hv⟩ := lr_toArray (hc.mono (Rho.le_put _ hn)) i v hi
      refine ⟨u, ?_, hv⟩
      rw [Array.getElem?_append_left (by have := (Array.getElem?_eq_some_iff.1 hu).1; exact this)]
      exact hu, hb, rfl, by simp [hR, hl]⟩
  exact ⟨this.ext, this.out, this.sim, this.os, this.tape, this.output, this.frz, this.size, this.same, this.own⟩

/-- A block is given up, and what it was is a part of a new one. -/
theorem post_move {base fl nx b : Nat} {g g' : Hp} {ρ : Rho} {W W' : World} {x y : HBlk} {r r' : RI} (hs : Sim P base g ρ W) (hx : g b = some x) (ho : x.own = true) (hfl : fl ≤ b) (hr : ρ b = some r) (hn : ρ nx = none)
    (hg : ∀ j, g' j = if j = nx then some y else if j = b then none else g j) (hr' : r'.blk = r.blk) (hos : W'.os = W.os) (htape : W'.tape = W.tape) (hout : W'.output = W.output) (hfz : ∀ a, W'.frozen? a = W.frozen? a) (hsize : W.heap.size ≤ W'.heap.size)
    (hsame : ∀ k, k < W.heap.size → k ≠ r.blk → W'.heap[k]? = W.heap[k]?) (hy : BOk P base (ρ.put nx r') W' nx y) : Post P base fl nx (nx + 1) g g' ρ (ρ.put nx r') W W' := by
  have fact : ∀ j z, g' j = some z → j ≠ nx → j ≠ b ∧ g j = some z := fun j z hz e => by
    rw [hg, if_neg e] at hz
    split at hz
    · cases hz
    · rename_i h; exact ⟨h, hz⟩
  have apart : ∀ j z q, g j = some z → j ≠ b → ρ j = some q → q.blk ≠ r.blk := fun j z q hz e hq => by
    obtain ⟨q', hq', _, k1, k2⟩ := (hs.ok j z hz).has
    rw [hq] at hq'; cases hq'
    obtain ⟨r0, hr0, _, k3, _⟩ := (hs.ok b x hx).has
    rw [hr] at hr0; cases hr0
    cases hz' : z.own with
    | true => exact hs.inj j b z x q r hz hx hz' ho e hq hr
    | false => have := k2 hz'; have := k3 ho; omega
  refine ⟨Rho.le_put r' hn, fun j hj => Rho.put_other _ _ (by omega), ⟨fun j z hz => ?_, fun j j' z z' q q' h1 h2 h3 h4 h5 h6 h7 => ?_⟩, hos, htape, hout, hfz, hsize, fun k hk hm => hsame k hk fun e => hm ⟨b, x, r, hx, ho, hfl, hr, e.symm⟩, fun k ⟨j, z, q, h1, h2, h3, h4, h5⟩ => ?_⟩
  · by_cases e : j = nx
    · subst e; rw [hg, if_pos rfl] at hz; cases hz; exact hy
    · obtain ⟨e2, hz⟩ := fact j z hz e
      refine (hs.ok j z hz).keep (Rho.le_put r' hn) fun q hq => hsame _ ?_ (apart j z q hz e2 hq)
      obtain ⟨q', hq', hlt, _⟩ := (hs.ok j z hz).has
      rw [hq] at hq'; cases hq'; exact hlt
  · by_cases e : j = nx
    · subst e
      rw [Rho.put_same] at h6; cases h6
      have e' : j' ≠ j := fun h => h5 h.symm
      rw [Rho.put_other _ _ e'] at h7
      obtain ⟨e2, hz⟩ := fact _ _ h2 e'
      rw [hr']
      exact (apart j' z' q' hz e2 h7).symm
    · rw [Rho.put_other _ _ e] at h6
      obtain ⟨e2, hz⟩ := fact _ _ h1 e
      by_cases e' : j' = nx
      · subst e'
        rw [Rho.put_same] at h7; cases h7
        rw [hr']
        exact apart j z q hz e2 h6
      · rw [Rho.put_other _ _ e'] at h7
        obtain ⟨_, hz'⟩ := fact _ _ h2 e'
        exact hs.inj j j' z z' q q' hz hz' h3 h4 h5 h6 h7
  · by_cases e : j = nx
    · subst e; rw [Rho.put_same] at h4; cases h4
      exact .inr ⟨b, x, r, hx, ho, hfl, hr, hr'.symm.trans h5⟩
    · rw [Rho.put_other _ _ e] at h4
      obtain ⟨_, hz⟩ := fact _ _ h1 e
      exact .inr ⟨j, z, q, hz, h2, h3, h4, h5⟩
theorem lenOf_vr {ρ : Rho} {p : Option (Nat × Nat)} {l c : Nat} {V : Value} (h : VR ρ (.slice p l c) V) (W : World) : (Builtin.lenOf V).run P W = .ok l W := by
  obtain ⟨q, d, hV, _⟩ := vr_anyslice h
  simp [hV, Builtin.lenOf]
theorem op_append {xs : Array Operand} {y z : Lo} {t0 t1 e e' : TypeId} {sz by_ : Nat} {zv : HV} {ts : Array TypeId} (ho : o.op = .call { callee := .builtin .append, args := xs, argTypes := ts }) (hx : lowXs xs.toList = some [y, z]) (ht0 : ts[0]? = some t0) (ht1 : ts[1]? = some t1)
    (hu0 : P.underlying t0 = some (.slice e)) (hu1 : P.underlying t1 = some (.slice e')) (hsz : szOf P e = some sz) (hby : byOf P e = some by_) (hz : zeroV P e = some zv) (hzl : zv.cells.length = sz)
    (h : oAppend fl sz by_ y z a σ = some (v, σ')) (hs : Sim P base σ.h.get ρ W) (ha : AR ρ a A) (hb : base ≤ W.heap.size) (hn : ∀ b, σ.nx ≤ b → b < σ'.nx → ρ b = none) (hj : ∀ b x, σ.h.get b = some x → b < σ.nx) :
    HF fl σ.nx σ'.nx σ.h.get σ'.h.get ∧ Does P base fl σ σ' ρ W (execOp A.eval o) v := by
  obtain ⟨x1, x2, e1, hx1, hx2⟩ := lowXs_two hx
  have e1 := arr_two e1
  subst e1
  have h1 := ev_ok ha hx1
  have h2 := ev_ok ha hx2
  obtain ⟨i, Z, i1, i2, i3⟩ := info_zero hz ρ
  have ib : i.bytes = by_ := by simpa [byOf, i1] using hby
  have is : i.size = sz := by simpa [szOf, i1] using hsz
  have hZ : Z.cells.size = sz := by have := i3.cells.1; simp at this; omega
  have hrunB : ∀ V W', (Builtin.append_ ts o.type #[A.eval x1, A.eval x2]).run P W = .ok V W' → (execOp A.eval o).run P W = .ok (.value V) W' := fun V W' hr => by
    rw [builtin_call ho]; simp [builtin, hr]
  unfold oAppend appendH at h
  split at h
  · rename_i sa sl sc xa xl xc ey ez
    rw [ey] at h1
    rw [ez] at h2
    split at h
    · cases h
    · rename_i news hnews
      obtain ⟨U, hU, hUl, hf1, hf2⟩ := first_cells (P := P) (n := xl) (size := sz) (news := news) h2 ⟨_, _, _, rfl, hnews, Nat.le_refl _⟩ hs
      rw [← is] at hf1 hf2
      cases hfit : Nat.ble (sl + xl) sc with
      | true =>
        rw [hfit] at h
        simp only [cond_true] at h
        have hle := Nat.le_of_ble_eq_true hfit
        rcases vr_slices h1 with ⟨rfl, rfl, rfl, hV⟩ | ⟨b, q, r, rfl, hr, hV⟩ | ⟨b, q, a', rfl, rfl, rfl, hV⟩
        case inr.inr =>
          have hx0 : xl = 0 := by omega
          subst hx0
          have hnews0 : news = [] := List.length_eq_zero_iff.1 (by simpa using hUl)
          subst hnews0
          cases h
          have hU0 := LR.inv_nil hU
          subst hU0
          refine ⟨HF.refl _ _ _, does_value hs (V := .slice (some a') 0 0) (hrunB _ _ ?_) (.slice00 a')⟩
          rw [hV]
          exact run_app_fits ht0 ht1 hu0 hu1 i1 (lenOf_vr h2) hf1 hle (fun a h => by cases h; rfl) (fun h => by cases h)
        · have hx0 : xl = 0 := by omega
          subst hx0
          have hnews0 : news = [] := List.length_eq_zero_iff.1 (by simpa using hUl)
          subst hnews0
          cases h
          refine ⟨HF.refl _ _ _, does_value hs (V := .slice none 0 0) (hrunB _ _ ?_) .slice0⟩
          rw [hV]
          exact run_app_fits ht0 ht1 hu0 hu1 i1 (lenOf_vr h2) hf1 hle (fun a h => by cases h) (fun _ => rfl)
        · by_cases hne : news = []
          · subst hne
            cases h
            have hU0 := LR.inv_nil hU
            subst hU0
            refine ⟨HF.refl _ _ _, does_value hs (V := .slice (some ⟨r.blk, r.off + q, none⟩) (sl + xl) (sc + r.extra)) (hrunB _ _ ?_) (.slice hr)⟩
            rw [hV]
            exact run_app_fits ht0 ht1 hu0 hu1 i1 (lenOf_vr h2) hf1 (by omega) (fun a h => by cases h; rfl) (fun h => by cases h)
          · have h : ((σ.write fl (b, q + sl * sz) news).map fun σ => (HV.slice (some (b, q)) (sl + xl) sc, σ)) = some (v, σ') := by
              cases news with
              | nil => exact absurd rfl hne
              | cons n ns => exact h
            simp only [Option.map_eq_some_iff] at h
            obtain ⟨σ1, hw, he⟩ := h
            cases he
            obtain ⟨e2, r', W', hr', hrun, hpost⟩ := sim_write hs hw hU
            rw [hr] at hr'; cases hr'
            have hup : ∃ y, fl ≤ b ∧ b < σ.nx ∧ σ'.h.get = fun j => if j = b then y else σ.h.get j := by
              unfold HS.write at hw
              split at hw
              · cases hw
              · rename_i hb
                cases hc : (Nat.ble fl b && news.all HV.one) with
                | false => rw [hc] at hw; cases hw
                | true =>
                  rw [hc] at hw
                  simp only [cond_true, Option.map_eq_some_iff] at hw
                  simp only [Bool.and_eq_true, Nat.ble_eq] at hc
                  obtain ⟨cs', _, rfl⟩ := hw
                  exact ⟨_, hc.1, hj _ _ hb, funext fun j => HS.get_upd σ _ _ j⟩
              · cases hw
            obtain ⟨y, hy1, hy2, hy3⟩ := hup
            refine ⟨by rw [e2, hy3]; exact hf_upd hy1 hy2 (fun _ => rfl), .slice (some ⟨r.blk, r.off + q, none⟩) (sl + xl) (sc + r.extra), W', ρ, .inl (hrunB _ _ ?_), .slice hr, by rw [e2]; exact hpost⟩
            rw [hV]
            refine run_app_fits ht0 ht1 hu0 hu1 i1 (lenOf_vr h2) hf1 (by omega) (fun a h => ?_) (fun h => by cases h)
            cases h
            rw [add_none, is, Nat.add_assoc]
            exact hrun
      | false =>
        rw [hfit] at h
        simp only [cond_false] at h
        have hnle : ¬ sl + xl ≤ sc := fun hle => by rw [← Nat.ble_eq] at hle; rw [hle] at hfit; cases hfit
        cases hcond : (Nat.ble ((sl + xl) * by_) 35184372088832 && Nat.ble (sl + xl) 35184372088832 && Nat.blt 0 sz) with
        | false => rw [hcond] at h; cases h
        | true =>
          rw [hcond] at h
          simp only [cond_true] at h
          simp only [Bool.and_eq_true, Nat.ble_eq, Nat.blt_eq] at hcond
          obtain ⟨⟨c1, c2⟩, c3⟩ := hcond
          have hZc : ∀ c, (Builtin.zeroCells Z.cells c).size = c * sz := fun c => by rw [size_zeroCells, hZ]
          have two : (sa = none ∧ sl = 0 ∧ sc = 0 ∧ A.eval x1 = .slice none 0 0) ∨ ∃ (b q : Nat) (p0 : Option Addr) (ex : Nat), sa = some (b, q) ∧ A.eval x1 = .slice p0 sl (sc + ex) ∧ ((∃ r, ρ b = some r ∧ p0 = some ⟨r.blk, r.off + q, none⟩ ∧ ex = r.extra) ∨ (sl = 0 ∧ sc = 0 ∧ ex = 0)) := by
            rcases vr_slices h1 with ⟨e1, e2, e3, hV⟩ | ⟨b, q, r, e1, hr, hV⟩ | ⟨b, q, a', e1, e2, e3, hV⟩
            · exact .inl ⟨e1, e2, e3, hV⟩
            · exact .inr ⟨b, q, _, r.extra, e1, hV, .inl ⟨r, hr, rfl, rfl⟩⟩
            · subst e2; subst e3; exact .inr ⟨b, q, some a', 0, e1, hV, .inr ⟨rfl, rfl, rfl⟩⟩
          rcases two with ⟨rfl, rfl, rfl, hV⟩ | ⟨b, q, p0, ex, rfl, hV, hdis⟩
          · simp only [cond_beq, if_pos] at h
            cases h
            have hn0 := hn σ.nx (Nat.le_refl _) (by simp [HS.new])
            obtain ⟨c, hc, hrun⟩ := run_app_grows (P := P) (W := W) (ty := o.type) (p := none) (sl := 0) (sc := 0) (O := #[]) ht0 ht1 hu0 hu1 i1 i2 (lenOf_vr h2) hf2 (by simp [Builtin.firstCells]) hnle (by rw [ib]; omega) (by omega)
            refine ⟨hf_new (HS.get_new σ _), .slice (some ⟨W.heap.size, 0, none⟩) (0 + xl) c, _, ρ.put σ.nx ⟨W.heap.size, 0, c - (0 + xl)⟩, .inl (hrunB _ _ (by rw [hV]; exact hrun)), ?_, ?_⟩
            · have := VR.slice (ρ := ρ.put σ.nx ⟨W.heap.size, 0, c - (0 + xl)⟩) (b := σ.nx) (o := 0) (l := 0 + xl) (c := 0 + xl) (r := ⟨W.heap.size, 0, c - (0 + xl)⟩) (Rho.put_same _ _ _)
              have e : 0 + xl + (c - (0 + xl)) = c := by omega
              simp only [e] at this
              exact this
            · have := post_opn (fl := fl) (e := e) (C := #[] ++ U.toArray) hs hb hn0 (by simpa using hU) (hZc (c - (0 + xl)))
              exact this
          · have hold : ∀ old, σ.read (b, q) (sl * sz) = some old → ∃ O : List Value, LR ρ old O ∧ (Builtin.firstCells i.size sl (A.eval x1)).run P W.drew = .ok O.toArray W.drew := fun old hold => by
              obtain ⟨O, hO, _, _, hf⟩ := first_cells (P := P) (n := sl) (size := sz) (news := old) h1 ⟨_, _, _, rfl, read_s hold, Nat.le_refl _⟩ hs
              exact ⟨O, hO, by rw [is]; exact hf⟩
            have grow : ∀ (σ2 : HS) (old : List HV) (hs2 : Sim P base σ2.h.get ρ W) (_ : σ2.nx = σ.nx), σ.read (b, q) (sl * sz) = some old → v = .slice (some (σ.nx, 0)) (sl + xl) (sl + xl) → σ' = σ2.new (.cells (old ++ news) (.opn sz)) → (fitsIn : ¬ sl + xl ≤ sc + ex) →
                ∃ V W' ρ', (execOp A.eval o).run P W = .ok (.value V) W' ∧ VR ρ' v V ∧ Post P base fl σ.nx σ'.nx σ2.h.get σ'.h.get ρ ρ' W W' := by
              intro σ2 old hs2 hnx hrd hv hσ' hbig
              obtain ⟨O, hO, hfO⟩ := hold old hrd
              have hn0 : ρ σ.nx = none := hn σ.nx (Nat.le_refl _) (by rw [hσ']; simp [HS.new, hnx])
              obtain ⟨c, hc, hrun⟩ := run_app_grows (P := P) (W := W) (ty := o.type) (O := O.toArray) ht0 ht1 hu0 hu1 i1 i2 (lenOf_vr h2) hf2 (by rw [← hV]; exact hfO) hbig (by rw [ib]; omega) (by omega)
              refine ⟨.slice (some ⟨W.heap.size, 0, none⟩) (sl + xl) c, _, ρ.put σ.nx ⟨W.heap.size, 0, c - (sl + xl)⟩, hrunB _ _ (by rw [hV]; exact hrun), ?_, ?_⟩
              · subst hv
                have := VR.slice (ρ := ρ.put σ.nx ⟨W.heap.size, 0, c - (sl + xl)⟩) (b := σ.nx) (o := 0) (l := sl + xl) (c := sl + xl) (r := ⟨W.heap.size, 0, c - (sl + xl)⟩) (Rho.put_same _ _ _)
                have e : sl + xl + (c - (sl + xl)) = c := by omega
                simp only [e] at this
                exact this
              · subst hσ'
                have := post_opn (fl := fl) (e := e) (C := O.toArray ++ U.toArray) (cs := old ++ news) hs2 hb (by rw [hnx]; exact hn0) (by simpa using LR.append hO hU) (hZc (c - (sl + xl)))
                rw [hnx] at this
                have e2 : (σ2.new (.cells (old ++ news) (.opn sz))).nx = σ.nx + 1 := by simp [HS.new, hnx]
                rw [e2]
                exact this
            dsimp only at h
            split at h
            · rename_i cs old hcs hrd
              cases h
              obtain ⟨r', C, e', z', hr', _, _, hk⟩ := hs.ok _ _ hcs
              have hx0 : ex = 0 := by
                rcases hdis with ⟨r, hr, _, e2⟩ | ⟨_, _, e2⟩
                · rw [hr] at hr'; cases hr'; rw [e2]; exact hk.2.2
                · exact e2
              obtain ⟨V, W', ρ', g1, g2, g3⟩ := grow σ old hs rfl hrd rfl rfl (by omega)
              exact ⟨hf_new (HS.get_new σ _), V, W', ρ', .inl g1, g2, g3⟩
            · rename_i cs z' old hcs hrd
              cases hc2 : (Nat.ble fl b && Nat.beq z' sz && Nat.beq (q + sc * sz) cs.length && news.all HV.one) with
              | false => rw [hc2] at h; cases h
              | true =>
                rw [hc2] at h
                simp only [cond_true] at h
                cases h
                simp only [Bool.and_eq_true, Nat.ble_eq, Nat.beq_eq] at hc2
                obtain ⟨⟨⟨d1, d2⟩, d3⟩, d4⟩ := hc2
                subst d2
                have hbn := hj _ _ hcs
                obtain ⟨r, C, e', zz, hr, hw, hcell, k1, rfl, k3⟩ := hs.ok _ _ hcs
                have hhf : HF fl σ.nx (σ.nx + 1) σ.h.get ((σ.upd b none).new (.cells (old ++ news) (.opn z'))).h.get := by
                  have e1 : HF fl σ.nx σ.nx σ.h.get (σ.upd b none).h.get := hf_upd d1 hbn (HS.get_upd σ b none)
                  exact e1.trans (hf_new (HS.get_new (σ.upd b none) _))
                by_cases hbig : sl + xl ≤ sc + ex
                · rcases hdis with ⟨r', hr', rfl, rfl⟩ | ⟨e1, e2, e3⟩
                  case inr => omega
                  rw [hr] at hr'; cases hr'
                  obtain ⟨O, hO, hfO⟩ := hold old hrd
                  obtain ⟨r2, O', hr2, hO', hOl, hOl', hOc⟩ := sim_read hs hrd
                  rw [hr] at hr2; cases hr2
                  have hUl' : U.length = xl * z' := by rw [← hU.1]; exact hUl
                  have hmul : (sl + xl) * z' ≤ (sc + r.extra) * z' := Nat.mul_le_mul_right _ hbig
                  rw [Nat.add_mul, Nat.add_mul] at hmul
                  have hst := run_storeCells_at P r.blk (r.off + (q + sl * z')) e' U 0 C W hw (by rw [hUl']; omega) (hU.all_one d4)
                  have hn0 := hn σ.nx (Nat.le_refl _) (by simp [HS.new, HS.upd])
                  refine ⟨hhf, .slice (some ⟨r.blk, r.off + q, none⟩) (sl + xl) (sc + r.extra), W.setRow r.blk (C.toList.take (r.off + (q + sl * z') + 0) ++ U ++ C.toList.drop (r.off + (q + sl * z') + 0 + U.length)).toArray, ρ.put σ.nx ⟨r.blk, r.off + q, sc + r.extra - (sl + xl)⟩, .inl (hrunB _ _ ?_), ?_, ?_⟩
                  · rw [hV]
                    refine run_app_fits ht0 ht1 hu0 hu1 i1 (lenOf_vr h2) hf1 hbig (fun a h => ?_) (fun h => by cases h)
                    cases h
                    rw [add_none, is, Nat.add_assoc]
                    exact hst
                  · have := VR.slice (ρ := ρ.put σ.nx ⟨r.blk, r.off + q, sc + r.extra - (sl + xl)⟩) (b := σ.nx) (o := 0) (l := sl + xl) (c := sl + xl) (r := ⟨r.blk, r.off + q, sc + r.extra - (sl + xl)⟩) (Rho.put_same _ _ _)
                    have e : sl + xl + (sc + r.extra - (sl + xl)) = sc + r.extra := by omega
                    simp only [e] at this
                    exact this
                  · have hrow : ∀ D : Array Value, (W.setRow r.blk D).heap[r.blk]? = some (.cells D e' (0, 0)) := fun D => setRow_heap W r.blk C D e' (0, 0) hw
                    refine post_move (y := .cells (old ++ news) (.opn z')) hs hcs rfl d1 hr hn0 (fun j => ?_) rfl rfl rfl rfl (fun a => ?_) (by simp) (fun k _ hk => ?_) ?_
                    · rw [HS.get_new, HS.get_upd]; rfl
                    · rw [frozen_eq, frozen_eq]
                      by_cases ea : a.block = r.blk
                      · rw [ea, hrow, hw]; rfl
                      · simp only [World.setRow]
                        rw [Array.getElem?_modify, if_neg (by omega)]
                    · simp only [World.setRow]
                      rw [Array.getElem?_modify, if_neg (by omega)]
                    · refine ⟨_, _, e', (0, 0), Rho.put_same _ _ _, hrow _, fun j w hw' => ?_, k1, rfl, ?_⟩
                      · have hle := Rho.le_put (ρ := ρ) (b := σ.nx) ⟨r.blk, r.off + q, sc + r.extra - (sl + xl)⟩ hn0
                        rw [List.getElem?_toArray]
                        by_cases hjo : j < old.length
                        · rw [List.getElem?_append_left hjo] at hw'
                          have hjO : j < O'.length := by rw [← hO'.1]; exact hjo
                          have hu := hOc j O'[j] (List.getElem?_eq_getElem hjO)
                          rw [cell_of_row W r.blk _ C e' (0, 0) hw] at hu
                          refine ⟨O'[j], ?_, (hO'.2 _ _ _ hw' (List.getElem?_eq_getElem hjO)).mono hle⟩
                          rw [List.append_assoc, List.getElem?_append_left (by simp; have := (Array.getElem?_eq_some_iff.1 hu).1; simp at this; omega), List.getElem?_take, if_pos (by simp; omega), Array.getElem?_toList]
                          exact hu
                        · rw [List.getElem?_append_right (by omega)] at hw'
                          have hjU : j - old.length < U.length := by rw [← hU.1]; exact (List.getElem?_eq_some_iff.1 hw').1
                          refine ⟨U[j - old.length], ?_, (hU.2 _ _ _ hw' (List.getElem?_eq_getElem hjU)).mono hle⟩
                          rw [List.append_assoc, List.getElem?_append_right (by simp; omega), List.getElem?_append_left (by simp; omega), List.getElem?_eq_some_iff]
                          refine ⟨by simp; omega, ?_⟩
                          congr 1
                          simp
                          omega
                      · have e1 : (sc + r.extra - (sl + xl)) * z' = (sc + r.extra) * z' - (sl + xl) * z' := Nat.sub_mul _ _ _
                        rw [Nat.add_mul, Nat.add_mul] at e1
                        simp [e1, hUl']
                        omega
                · have hkill := post_upd (fl := fl) (nx := σ.nx) (y := none) hs hcs rfl d1 hr (HS.get_upd σ b none) rfl rfl rfl (fun _ => rfl) (Nat.le_refl _) (fun _ _ _ => rfl) (fun z hz => by cases hz)
                  obtain ⟨V, W', ρ', g1, g2, g3⟩ := grow (σ.upd b none) old hkill.sim rfl hrd rfl rfl hbig
                  exact ⟨hhf, V, W', ρ', .inl g1, g2, Post.trans (Nat.le_refl _) (by simp [HS.new, HS.upd]) hkill g3⟩
            · cases h
  · cases h
theorem run_app_zeros {ts : Array TypeId} {t0 t1 e ty : TypeId} {k kk : IntKind} {i : TypeInfo} {Z : Value} {n : Nat} (ht0 : ts[0]? = some t0) (ht1 : ts[1]? = some t1) (hu0 : P.underlying t0 = some (.slice e)) (hu1 : P.underlying t1 = some (.int k))
    (hi : P.info? e = some i) (hz : i.zero = some Z) (hn : 0 < n) (hsz : 0 < i.size) (hb : n * i.bytes ≤ 140737488355328) (h63 : n ≤ 140737488355328) :
    ∃ c, n ≤ c ∧ (Builtin.append_ ts ty #[.slice none 0 0, .int kk (n : Int)]).run P W = .ok (.slice (some ⟨W.heap.size, 0, none⟩) n c) (W.drew.alloc (.cells (Builtin.zeroCells Z.cells n ++ Builtin.zeroCells Z.cells (c - n)) e)) := by
  refine ⟨grownCap W n 0 e, grownCap_ge W _ _ e, ?_⟩
  have w1 : IntKind.i64.wrap (n : Int) = n := IntWalk.i64_in _ (by omega)
  have q0 : ¬ (n : Int) < 0 := by omega
  have q1 : ¬ (281474976710656 : Int) < n * i.bytes := by
    have e1 : ((n * i.bytes : Nat) : Int) = (n : Int) * i.bytes := by simp
    omega
  have q2 : ¬ n * i.size = 0 := by have := Nat.mul_pos hn hsz; omega
  have q3 : ¬ n = 0 := by omega
  have q4 : ¬ i.size = 0 := by omega
  have h63' : ¬ (9223372036854775807 < (n : Int)) := by omega
  have hfit := growslice_fits (old := 0) (need := n) (bytes := i.bytes) (by omega) hb
  have h48' : ¬ (281474976710656 < Builtin.nextslicecap n 0 * i.bytes) := by omega
  simp [Builtin.append_, ht0, ht1, run_under hu0, run_under hu1, run_size hi, run_info hi, run_zero hi hz, asInt, asIntOf, w1, q0, q1, q3, q4, h63', h48', Question.forced, newRow, grownCap, Builtin.firstCells]
  exact fun h0 => absurd h0 q2
theorem op_appendZ {xs : Array Operand} {y z : Lo} {t0 t1 e : TypeId} {k : IntKind} {sz by_ : Nat} {zv : HV} {ts : Array TypeId} (ho : o.op = .call { callee := .builtin .append, args := xs, argTypes := ts }) (hx : lowXs xs.toList = some [y, z]) (ht0 : ts[0]? = some t0) (ht1 : ts[1]? = some t1)
    (hu0 : P.underlying t0 = some (.slice e)) (hu1 : P.underlying t1 = some (.int k)) (hsz : szOf P e = some sz) (hby : byOf P e = some by_) (hz : zeroV P e = some zv) (hzl : zv.cells.length = sz)
    (h : oAppendZ zv.cells by_ y z a σ = some (v, σ')) (hs : Sim P base σ.h.get ρ W) (ha : AR ρ a A) (hb : base ≤ W.heap.size) (hn : ∀ b, σ.nx ≤ b → b < σ'.nx → ρ b = none) :
    HF fl σ.nx σ'.nx σ.h.get σ'.h.get ∧ Does P base fl σ σ' ρ W (execOp A.eval o) v := by
  obtain ⟨x1, x2, e1, hx1, hx2⟩ := lowXs_two hx
  have e1 := arr_two e1
  subst e1
  have h1 := ev_ok ha hx1
  have h2 := ev_ok ha hx2
  obtain ⟨i, Z, i1, i2, i3⟩ := info_zero hz ρ
  have ib : i.bytes = by_ := by simpa [byOf, i1] using hby
  have is : i.size = sz := by simpa [szOf, i1] using hsz
  have hZ : Z.cells.size = sz := by have := i3.cells.1; simp at this; omega
  have hrunB : ∀ V W', (Builtin.append_ ts o.type #[A.eval x1, A.eval x2]).run P W = .ok V W' → (execOp A.eval o).run P W = .ok (.value V) W' := fun V W' hr => by
    rw [builtin_call ho]; simp [builtin, hr]
  unfold oAppendZ at h
  split at h
  · rename_i n ey en
    rw [ey] at h1
    obtain ⟨kk, hk⟩ := nat_of h2 en
    cases hcond : (Nat.blt 0 n && Nat.ble (n * by_) 35184372088832 && Nat.ble n 35184372088832 && Nat.blt 0 zv.cells.length) with
    | false => rw [hcond] at h; cases h
    | true =>
      rw [hcond] at h
      simp only [Bool.and_eq_true, Nat.ble_eq, Nat.blt_eq] at hcond
      obtain ⟨⟨⟨c0, c1⟩, c2⟩, c3⟩ := hcond
      cases h
      have hV : A.eval x1 = .slice none 0 0 := by
        rcases vr_slices h1 with ⟨_, _, _, hV⟩ | ⟨_, _, _, h, _, _⟩ | ⟨_, _, _, h, _⟩
        case inr.inr => cases h
        · exact hV
        · cases h
      have hn0 := hn σ.nx (Nat.le_refl _) (by simp [HS.new])
      obtain ⟨c, hc, hrun⟩ := run_app_zeros (P := P) (W := W) (ty := o.type) (kk := kk) ht0 ht1 hu0 hu1 i1 i2 c0 (by omega) (by rw [ib]; omega) (by omega)
      have hrow : LR ρ (repl n zv.cells) (Builtin.zeroCells Z.cells n).toList := by
        exact lr_repl (c := n) (s := Z.cells.size) i3.cells (by omega)
      refine ⟨hf_new (HS.get_new σ _), .slice (some ⟨W.heap.size, 0, none⟩) n c, _, ρ.put σ.nx ⟨W.heap.size, 0, c - n⟩, .inl (hrunB _ _ (by rw [hV, hk]; exact hrun)), ?_, ?_⟩
      · have := VR.slice (ρ := ρ.put σ.nx ⟨W.heap.size, 0, c - n⟩) (b := σ.nx) (o := 0) (l := n) (c := n) (r := ⟨W.heap.size, 0, c - n⟩) (Rho.put_same _ _ _)
        have e : n + (c - n) = c := by omega
        simp only [e] at this
        exact this
      · exact post_opn (fl := fl) (e := e) hs hb hn0 hrow (by rw [size_zeroCells, hZ, hzl])
  · cases h
end Go.Hx

/- The plain machine and Go's: structs, arrays and slices written out; equality; maps. -/
namespace Go.Hx
variable {P : Program} {base fl : Nat} {a : HAct} {σ σ' : HS} {v : HV} {ρ : Rho} {A : Act} {W : World} {o : Oper}

theorem foldl_set (off : Nat) : ∀ (U : List Value) (k : Nat) (C : Array Value),
    ((U.zipIdx k).foldl (fun cs (p : Value × Nat) => cs.setIfInBounds (off + p.2) p.1) C).size = C.size ∧
    ∀ i, ((U.zipIdx k).foldl (fun cs (p : Value × Nat) => cs.setIfInBounds (off + p.2) p.1) C)[i]? = if off + k ≤ i ∧ i < off + k + U.length ∧ i < C.size then U[i - (off + k)]? else C[i]?
  | [], k, C => ⟨rfl, fun i => by simp only [List.zipIdx_nil, List.foldl_nil]; rw [if_neg (by simp only [List.length_nil]; omega)]⟩
  | u :: U, k, C => by
    simp only [List.zipIdx_cons, List.foldl_cons]
    obtain ⟨h1, h2⟩ := foldl_set off U (k + 1) (C.setIfInBounds (off + k) u)
    refine ⟨by rw [h1]; simp, fun i => ?_⟩
    rw [h2, Array.size_setIfInBounds]
    by_cases e : i = off + k
    · subst e
      rw [if_neg (by omega)]
      by_cases hlt : off + k < C.size
      · rw [if_pos (by simp only [List.length_cons]; omega)]
        simp [hlt]
      · rw [if_neg (by omega)]
        simp [hlt]
    · rw [Array.getElem?_setIfInBounds_ne (by omega)]
      by_cases hin : off + (k + 1) ≤ i ∧ i < off + (k + 1) + U.length ∧ i < C.size
      · rw [if_pos hin, if_pos (by simp only [List.length_cons]; omega)]
        have : i - (off + k) = (i - (off + (k + 1))) + 1 := by omega
        rw [this]; simp
      · rw [if_neg hin, if_neg (by simp only [List.length_cons]; omega)]
theorem lr_overwrite {cs vs cs' : List HV} {off : Nat} {C : Array Value} {U : List Value} (hc : LR ρ cs C.toList) (hv : LR ρ vs U) (h : overwrite cs off vs = some cs') :
    LR ρ cs' (((U.zipIdx 0).foldl (fun cs (p : Value × Nat) => cs.setIfInBounds (off + p.2) p.1) C)).toList := by
  obtain ⟨l1, l2, l3⟩ := overwrite_some h
  obtain ⟨h1, h2⟩ := foldl_set off U 0 C
  have hl := hc.1
  simp only [Array.length_toList] at hl
  refine ⟨by simp only [Array.length_toList]; rw [h1, l1, hl], fun i v u hv' hu => ?_⟩
  rw [Array.getElem?_toList, h2] at hu
  rw [l3] at hv'
  have hlen := hv.1
  by_cases hin : off ≤ i ∧ i < off + vs.length
  · rw [if_pos hin] at hv'
    have hne : vs ≠ [] := fun e => by subst e; simp at hin; omega
    have := l2 hne
    rw [if_pos (by omega)] at hu
    exact hv.2 _ _ _ hv' (by simpa using hu)
  · rw [if_neg hin] at hv'
    rw [if_neg (by omega)] at hu
    exact hc.2 _ _ _ hv' (by simpa using hu)
theorem fill_ok (ha : AR ρ a A) {place : Nat → Option (Nat × Nat)} : ∀ {ps : List (Nat × Operand)} {qs : List (Nat × Nat × Lo)} {cells cs : List HV} {C : Array Value}, lowParts place ps = some qs → fillH cells (evParts a qs) = some cs → LR ρ cells C.toList →
    ∃ D : Array Value, Instr.fill place C (ps.map fun (i, x) => (i, A.eval x)) = some D ∧ LR ρ cs D.toList
  | [], qs, cells, cs, C, h1, h2, h3 => by
    cases h1
    cases h2
    exact ⟨C, rfl, h3⟩
  | (i, x) :: ps, qs, cells, cs, C, h1, h2, h3 => by
    unfold lowParts at h1
    split at h1
    · rename_i off s y ps' e1 e2 e3
      cases h1
      have hv := ev_ok ha e2
      simp only [evParts, List.map_cons, fillH] at h2
      cases hc : (Nat.beq (a.ev y).cells.length s && Nat.ble (off + s) cells.length) with
      | false => rw [hc] at h2; cases h2
      | true =>
        rw [hc] at h2
        simp only [cond_true, Option.bind_eq_some_iff] at h2
        simp only [Bool.and_eq_true, Nat.beq_eq, Nat.ble_eq] at hc
        obtain ⟨ds, hd, hr⟩ := h2
        have hlr := lr_overwrite h3 hv.cells hd
        obtain ⟨D, hD, hD2⟩ := fill_ok ha e3 hr hlr
        refine ⟨D, ?_, hD2⟩
        have hs : (A.eval x).cells.size = s := by have := hv.cells.1; simp at this; omega
        have hC : C.size = cells.length := by have := h3.1; simpa using this.symm
        have hlt : ¬ off + s > C.size := by omega
        simp only [List.map_cons, Instr.fill, e1]
        rw [if_neg (by simp [hs, hlt]), ← hD]
        congr 1
        rw [← Array.foldl_toList, Array.toList_zipIdx]
    · cases h1
theorem run_places {fs : List Field} (h : fs.all (fun f => (szOf P f.type).isSome) = true) : (fs.mapM fun (f : Field) => Prod.mk f.offset <$> sizeOf f.type : Sem (List (Nat × Nat))).run P W = .ok (fs.map fun f => (f.offset, P.cellsOf f.type)) W := by
  induction fs with
  | nil => simp
  | cons f fs ih =>
    simp only [List.all_cons, Bool.and_eq_true] at h
    obtain ⟨n, hn⟩ := Option.isSome_iff_exists.1 h.1
    obtain ⟨i, i1, i2⟩ := info_size hn
    have hcells : P.cellsOf f.type = i.size := by simp [Program.cellsOf, i1]
    simp only [List.mapM_cons, Sem.run_bind, Sem.run_map, run_size i1, Result.andThen_ok, Sem.run_pure, ih h.2, List.map_cons, hcells]
theorem op_build_struct {t : TypeId} {parts : Array (Nat × Operand)} {ps : List (Nat × Nat × Lo)} {fs : Array Field} {z : List HV} (ho : o.op = .build t parts) (hu : P.underlying t = some (.struct fs)) (hz : zeroV P t = some (.agg z)) (hall : fs.toList.all (fun f => (szOf P f.type).isSome) = true)
    (hp : lowParts (fun i => (fs[i]?).bind fun f => (szOf P f.type).map (f.offset, ·)) parts.toList = some ps) (h : oBuild z ps a σ = some (v, σ')) (hs : Sim P base σ.h.get ρ W) (ha : AR ρ a A) : HF fl σ.nx σ'.nx σ.h.get σ'.h.get ∧ Does P base fl σ σ' ρ W (execOp A.eval o) v := by
  obtain ⟨i, Z, i1, i2, i3⟩ := info_zero hz ρ
  unfold oBuild at h
  split at h
  · rename_i cs hf
    cases h
    obtain ⟨D, hD, hlr⟩ := fill_ok ha hp hf i3.cells
    refine ⟨HF.refl _ _ _, does_value hs (V := .agg D) ?_ (by simpa using VR.aggL hlr)⟩
    have hpl : (fs.mapM fun (f : Field) => Prod.mk f.offset <$> sizeOf f.type : Sem (Array (Nat × Nat))).run P W = .ok (fs.map fun (f : Field) => (f.offset, P.cellsOf f.type)) W := by
      rw [Array.mapM_eq_mapM_toList]
      simp only [Sem.run_map, run_places hall, Result.andThen_ok]
      congr 1
      apply Array.ext'
      simp
    have hplace : (fun (i : Nat) => (fs[i]?).bind fun (f : Field) => (szOf P f.type).map (f.offset, ·)) = fun (i : Nat) => (fs.map fun (f : Field) => (f.offset, P.cellsOf f.type))[i]? := by
      funext j
      rw [Array.getElem?_map]
      cases hj : fs[j]? with
      | none => rfl
      | some f =>
        have hmem : f ∈ fs.toList := by rw [← Array.getElem?_toList] at hj; exact List.mem_of_getElem? hj
        obtain ⟨n, hn⟩ := Option.isSome_iff_exists.1 (List.all_eq_true.1 hall f hmem)
        obtain ⟨i, i1, i2⟩ := info_size hn
        simp [hn, Program.cellsOf, i1, i2]
    rw [hplace] at hD
    have hD' : Instr.fill (fun x => (fs.map fun (f : Field) => (f.offset, P.cellsOf f.type))[x]?) Z.cells (List.map (fun x => (x.fst, A.eval x.snd)) parts.toList) = some D := hD
    simp only [Array.getElem?_map] at hD'
    simp [execOp, ho, Instr.build, run_zero i1 i2, run_under hu, hpl, hD']
  · cases h
theorem op_build_array {t e : TypeId} {n s : Nat} {parts : Array (Nat × Operand)} {ps : List (Nat × Nat × Lo)} {z : List HV} (ho : o.op = .build t parts) (hu : P.underlying t = some (.array n e)) (hz : zeroV P t = some (.agg z)) (hsz : szOf P e = some s)
    (hp : lowParts (fun i => some (i * s, s)) parts.toList = some ps) (h : oBuild z ps a σ = some (v, σ')) (hs : Sim P base σ.h.get ρ W) (ha : AR ρ a A) : HF fl σ.nx σ'.nx σ.h.get σ'.h.get ∧ Does P base fl σ σ' ρ W (execOp A.eval o) v := by
  obtain ⟨i, Z, i1, i2, i3⟩ := info_zero hz ρ
  obtain ⟨j, j1, j2⟩ := info_size hsz
  unfold oBuild at h
  split at h
  · rename_i cs hf
    cases h
    obtain ⟨D, hD, hlr⟩ := fill_ok ha hp hf i3.cells
    refine ⟨HF.refl _ _ _, does_value hs (V := .agg D) ?_ (by simpa using VR.aggL hlr)⟩
    have hD' : Instr.fill (fun i => some (i * s, s)) Z.cells (List.map (fun x => (x.fst, A.eval x.snd)) parts.toList) = some D := hD
    simp [execOp, ho, Instr.build, run_zero i1 i2, run_under hu, run_size j1, j2, hD']
  · cases h
theorem op_buildSlice {t e : TypeId} {len s : Nat} {z : HV} {parts : Array (Nat × Operand)} {ps : List (Nat × Nat × Lo)} (ho : o.op = .buildSlice t len parts) (hu : P.underlying t = some (.slice e)) (hsz : szOf P e = some s) (hz : zeroV P e = some z) (hle : len * s ≤ 100000) (hzl : z.cells.length = s)
    (hp : lowParts (fun i => some (i * s, s)) parts.toList = some ps) (h : oBuildSlice len z.cells ps a σ = some (v, σ')) (hs : Sim P base σ.h.get ρ W) (ha : AR ρ a A) (hb : base ≤ W.heap.size) (hn : ∀ b, σ.nx ≤ b → b < σ'.nx → ρ b = none) : HF fl σ.nx σ'.nx σ.h.get σ'.h.get ∧ Does P base fl σ σ' ρ W (execOp A.eval o) v := by
  obtain ⟨i, Z, i1, i2, i3⟩ := info_zero hz ρ
  have is : i.size = s := by simpa [szOf, i1] using hsz
  unfold oBuildSlice at h
  split at h
  · rename_i cs hf
    cases h
    have hn0 := hn σ.nx (Nat.le_refl _) (by simp [HS.new])
    have hrow : LR ρ (repl len z.cells) ((Array.range (len * s)).map (Z.cells[· % Z.cells.size]!)).toList := lr_repl i3.cells hzl
    have hlim : ¬ 16777216 < len * s := by omega
    by_cases h0 : len * s = 0
    · rw [h0, map_range_zero] at hrow
      obtain ⟨D, hD, hlr⟩ := fill_ok ha hp hf hrow
      refine ⟨hf_new (HS.get_new σ _), _, _, _, .inl ?_, (vr_new ρ σ.nx W.heap.size len len).2, post_row (e := e) hs hb hn0 hlr⟩
      have hD' : Instr.fill (fun i => some (i * s, s)) #[] (List.map (fun x => (x.fst, A.eval x.snd)) parts.toList) = some D := hD
      simp [execOp, ho, Instr.buildSlice, run_under hu, run_size i1, is, h0, newRow]
      rw [map_range_zero]
      simp [hD']
    · obtain ⟨D, hD, hlr⟩ := fill_ok ha hp hf hrow
      refine ⟨hf_new (HS.get_new σ _), _, _, _, .inl ?_, (vr_new ρ σ.nx W.heap.size len len).2, post_row (e := e) hs hb hn0 hlr⟩
      have hD' : Instr.fill (fun i => some (i * s, s)) ((Array.range (len * s)).map (Z.cells[· % Z.cells.size]!)) (List.map (fun x => (x.fst, A.eval x.snd)) parts.toList) = some D := hD
      simp [execOp, ho, Instr.buildSlice, run_under hu, run_size i1, is, hlim, h0, run_zero i1 i2, hD', newRow]
  · cases h
end Go.Hx

/- The plain machine and Go's: equality of plain values; maps. -/
namespace Go.Hx
variable {P : Program} {base fl : Nat} {a : HAct} {σ σ' : HS} {v : HV} {ρ : Rho} {A : Act} {W : World} {o : Oper}

def leafFits : Leaf → TypeDesc → Prop
  | .b, .bool => True
  | .i k, .int k' => k' = k
  | .s, .string => True
  | _, _ => False
theorem bytes_eq {a b : ByteArray} (h : (a == b) = true) : a = b := by
  obtain ⟨x⟩ := a
  obtain ⟨y⟩ := b
  have h' : (x == y) = true := h
  rw [eq_of_beq h']
theorem eq_leaf {k : Leaf} {x y : HV} {X Y : Value} {b : Bool} (h : eqLeaf k x y = some b) (hx : VR ρ x X) (hy : VR ρ y Y) :
    (b = true → X = Y) ∧ (∀ n, b = true → Instr.sameBits n X Y = true) ∧ (∀ d t td, P.underlying t = some td → leafFits k td → (Op.equalIn (d + 1) t X Y).run P W = .ok b W) ∧ (∀ td, leafFits k td → Instr.sameNow td X Y = some b) := by
  unfold eqLeaf at h
  split at h
  · cases h
    rw [vr_bool hx, vr_bool hy]
    refine ⟨fun e => by simpa using e, fun n e => ?_, fun d t td hu hf => ?_, fun td hf => ?_⟩
    · cases n <;> simpa [Instr.sameBits] using e
    · cases td <;> simp [leafFits] at hf
      simp [Op.equalIn, run_under hu]
    · cases td <;> simp [leafFits] at hf
      rfl
  · split at h
    · rename_i hk
      obtain ⟨rfl, rfl⟩ := hk
      cases h
      rw [vr_int hx, vr_int hy]
      refine ⟨fun e => by simpa using e, fun n e => ?_, fun d t td hu hf => ?_, fun td hf => ?_⟩
      · cases n <;> simpa [Instr.sameBits] using e
      · cases td <;> simp [leafFits] at hf
        simp [Op.equalIn, run_under hu]
      · cases td <;> simp [leafFits] at hf
        simp [Instr.sameNow]
    · cases h
  · cases h
    rw [vr_str hx, vr_str hy]
    refine ⟨fun e => by rw [bytes_eq e], fun n e => ?_, fun d t td hu hf => ?_, fun td hf => ?_⟩
    · cases n <;> simpa [Instr.sameBits] using e
    · cases td <;> simp [leafFits] at hf
      simp [Op.equalIn, run_under hu]
    · cases td <;> simp [leafFits] at hf
      rfl
  · cases h
theorem eq_row_len : ∀ {ks : List Leaf} {xs ys : List HV} {b : Bool}, eqRow ks xs ys = some b → xs.length = ks.length ∧ ys.length = ks.length
  | [], [], [], b, h => ⟨rfl, rfl⟩
  | k :: ks, x :: xs, y :: ys, b, h => by
    unfold eqRow at h
    split at h
    · rename_i e1 e2
      have := eq_row_len e2
      simp [this.1, this.2]
    · cases h
  | [], [], _ :: _, b, h => by simp [eqRow] at h
  | [], _ :: _, _, b, h => by simp [eqRow] at h
  | _ :: _, [], _, b, h => by simp [eqRow] at h
  | _ :: _, _ :: _, [], b, h => by simp [eqRow] at h
theorem eq_row_split : ∀ {k1 k2 : List Leaf} {xs ys : List HV} {b : Bool}, eqRow (k1 ++ k2) xs ys = some b →
    ∃ b1 b2, eqRow k1 (xs.take k1.length) (ys.take k1.length) = some b1 ∧ eqRow k2 (xs.drop k1.length) (ys.drop k1.length) = some b2 ∧ b = (b1 && b2)
  | [], k2, xs, ys, b, h => ⟨true, b, by simp [eqRow], by simpa using h, by simp⟩
  | k :: k1, k2, xs, ys, b, h => by
    cases xs with
    | nil => simp [eqRow] at h
    | cons x xs =>
      cases ys with
      | nil => simp [eqRow] at h
      | cons y ys =>
        simp only [List.cons_append, eqRow] at h
        split at h
        · rename_i a1 a2 e1 e2
          cases h
          obtain ⟨b1, b2, f1, f2, f3⟩ := eq_row_split e2
          refine ⟨a1 && b1, b2, ?_, by simpa using f2, by rw [f3, Bool.and_assoc]⟩
          simp [eqRow, e1, f1]
        · cases h
theorem eq_row_true : ∀ {ks : List Leaf} {xs ys : List HV} {X Y : List Value} {b : Bool}, eqRow ks xs ys = some b → LR ρ xs X → LR ρ ys Y → b = true → X = Y ∧ ∀ n, (X.zip Y).all (fun (p : Value × Value) => Instr.sameBits n p.1 p.2) = true
  | [], [], [], X, Y, b, h, hx, hy, _ => by
    rw [LR.inv_nil hx, LR.inv_nil hy]
    exact ⟨rfl, fun n => rfl⟩
  | k :: ks, x :: xs, y :: ys, X, Y, b, h, hx, hy, hb => by
    unfold eqRow at h
    split at h
    · rename_i a1 a2 e1 e2
      cases h
      simp only [Bool.and_eq_true] at hb
      obtain ⟨u, X', rfl, hu, hx'⟩ := LR.inv hx
      obtain ⟨w, Y', rfl, hw, hy'⟩ := LR.inv hy
      obtain ⟨g1, g2⟩ := eq_row_true e2 hx' hy' hb.2
      obtain ⟨f1, f2, _⟩ := eq_leaf (P := default) (W := default) e1 hu hw
      refine ⟨by rw [f1 hb.1, g1], fun n => ?_⟩
      simp only [List.zip_cons_cons, List.all_cons, Bool.and_eq_true]
      exact ⟨f2 n hb.1, g2 n⟩
    · cases h
  | [], [], _ :: _, X, Y, b, h, _, _, _ => by simp [eqRow] at h
  | [], _ :: _, _, X, Y, b, h, _, _, _ => by simp [eqRow] at h
  | _ :: _, [], _, X, Y, b, h, _, _, _ => by simp [eqRow] at h
  | _ :: _, _ :: _, [], X, Y, b, h, _, _, _ => by simp [eqRow] at h
theorem LR.take {ρ : Rho} {cs : List HV} {C : List Value} (h : LR ρ cs C) (n : Nat) : LR ρ (cs.take n) (C.take n) := by
  refine ⟨by simp [h.1], fun i v u hv hu => ?_⟩
  rw [List.getElem?_take] at hv hu
  split at hv
  · rw [if_pos (by assumption)] at hu; exact h.2 i v u hv hu
  · cases hv
theorem LR.drop {ρ : Rho} {cs : List HV} {C : List Value} (h : LR ρ cs C) (n : Nat) : LR ρ (cs.drop n) (C.drop n) := by
  refine ⟨by simp [h.1], fun i v u hv hu => ?_⟩
  rw [List.getElem?_drop] at hv hu
  exact h.2 _ v u hv hu

/-- A variable of a type: its cells, as one value. -/
def mk (P : Program) (t : TypeId) (X : List Value) : Value :=
  match aggOf P t with
  | some true => .agg X.toArray
  | _ => X.getD 0 Go.undef
theorem part_mk {t : TypeId} {n off : Nat} {C : List Value} {g : Bool} (hg : aggOf P t = some g) (hz : szOf P t = some n) (hn : g = false → n = 1) (hl : off + n ≤ C.length) :
    (part t C.toArray off).run P W = .ok (mk P t ((C.drop off).take n)) W := by
  obtain ⟨i, hi, hi2⟩ := info_size hz
  cases g with
  | true =>
    simp only [part, Sem.run_bind, run_agg hg, Result.andThen_ok, if_true, run_size hi, hi2, Sem.run_pure, mk, hg]
    congr 2
    apply Array.ext'
    simp
  | false =>
    have := hn rfl
    subst this
    have hlt : off < C.length := by omega
    have e : ((C.drop off).take 1).getD 0 Go.undef = C[off] := by
      simp [List.getD, hlt]
    simp [part, run_agg hg, mk, hg, hlt]

theorem leaves_agg {d : Nat} {t : TypeId} {ks : List Leaf} (h : leaves P d t = some ks) : ∃ g, aggOf P t = some g ∧ (g = false → ks.length = 1) := by
  cases d with
  | zero => simp [leaves] at h
  | succ d =>
    unfold leaves at h
    split at h
    · rename_i hu; cases h; exact ⟨false, by simp [aggOf, hu], fun _ => rfl⟩
    · rename_i hu; cases h; exact ⟨false, by simp [aggOf, hu], fun _ => rfl⟩
    · rename_i hu; cases h; exact ⟨false, by simp [aggOf, hu], fun _ => rfl⟩
    · rename_i hu; exact ⟨true, by simp [aggOf, hu], fun h => by cases h⟩
    · rename_i hu; exact ⟨true, by simp [aggOf, hu], fun h => by cases h⟩
    · cases h
/-- An array of plain kinds: what its cells are. -/
theorem leaves_arr {d : Nat} {e : TypeId} {n : Nat} {ks : List Leaf} (h : (match leaves P d e, szOf P e with
      | some ks, some s => bif Nat.beq s ks.length && Nat.ble 1 s then some (repL n ks) else none
      | _, _ => none) = some ks) : ∃ k1, leaves P d e = some k1 ∧ szOf P e = some k1.length ∧ 1 ≤ k1.length ∧ ks = repL n k1 := by
  split at h
  · rename_i k1 s e1 e2
    cases hc : (Nat.beq s k1.length && Nat.ble 1 s) with
    | false => rw [hc] at h; cases h
    | true =>
      rw [hc] at h
      simp only [Bool.and_eq_true] at hc
      have h1 := Nat.eq_of_beq_eq_true hc.1
      have h2 := Nat.le_of_ble_eq_true hc.2
      subst h1
      cases h
      exact ⟨k1, e1, e2, h2, rfl⟩
  · cases h
theorem repL_len (n : Nat) (ks : List Leaf) : (repL n ks).length = n * ks.length := by
  induction n with
  | zero => simp [repL]
  | succ n ih => simp [repL, ih, Nat.add_mul]; omega
theorem eq_items {d m s : Nat} {e : TypeId} {ks : List Leaf} (IH : ∀ (xs ys : List HV) (X Y : List Value) (b : Bool), eqRow ks xs ys = some b → LR ρ xs X → LR ρ ys Y → (Op.equalIn (d + m) e (mk P e X) (mk P e Y)).run P W = .ok b W) (hk : leaves P d e = some ks) (hz : szOf P e = some ks.length) (hs : s = ks.length) (hp : 1 ≤ ks.length) :
    ∀ (n off : Nat) (xs ys : List HV) (X Y : List Value) (b : Bool), eqRow (repL n ks) (xs.drop (off * s)) (ys.drop (off * s)) = some b → LR ρ xs X → LR ρ ys Y →
      (Op.eqItems (d + m) e s X.toArray Y.toArray (List.range' off n)).run P W = .ok b W
  | 0, off, xs, ys, X, Y, b, he, hx, hy => by
    have : b = true := by
      unfold repL at he
      cases h1 : xs.drop (off * s) <;> cases h2 : ys.drop (off * s) <;> simp [h1, h2, eqRow] at he
      exact he
    subst this
    simp [Op.eqItems]
  | n + 1, off, xs, ys, X, Y, b, he, hx, hy => by
    obtain ⟨g, hg, hgn⟩ := leaves_agg hk
    unfold repL at he
    obtain ⟨b1, b2, g1, g2, rfl⟩ := eq_row_split he
    obtain ⟨l1, l2⟩ := eq_row_len he
    simp only [List.length_drop, List.length_append] at l1 l2
    have hxl := hx.1
    have hyl := hy.1
    have p1 := part_mk (P := P) (W := W) (off := off * s) (C := X) hg hz hgn (by omega)
    have p2 := part_mk (P := P) (W := W) (off := off * s) (C := Y) hg hz hgn (by omega)
    have hrun := IH _ _ _ _ b1 g1 ((hx.drop (off * s)).take ks.length) ((hy.drop (off * s)).take ks.length)
    have hrest := eq_items IH hk hz hs hp n (off + 1) xs ys X Y b2 (by rw [Nat.add_mul, Nat.one_mul, ← List.drop_drop, ← List.drop_drop, hs]; rw [hs] at g2; exact g2) hx hy
    simp only [List.range'_succ, Op.eqItems, Sem.run_bind, p1, p2, Result.andThen_ok, hrun]
    cases b1
    · simp
    · simpa using hrest
theorem eq_fields {d m : Nat} (IH : ∀ (t : TypeId) (ks : List Leaf), leaves P d t = some ks → ∀ (xs ys : List HV) (X Y : List Value) (b : Bool), eqRow ks xs ys = some b → LR ρ xs X → LR ρ ys Y → (Op.equalIn (d + m) t (mk P t X) (mk P t Y)).run P W = .ok b W) :
    ∀ (fs : List Field) (off : Nat) (ks : List Leaf), leavesF P (leaves P d) fs off = some ks → ∀ (xs ys : List HV) (X Y : List Value) (b : Bool), eqRow ks (xs.drop off) (ys.drop off) = some b → LR ρ xs X → LR ρ ys Y →
      (Op.eqFields (d + m) X.toArray Y.toArray fs).run P W = .ok b W
  | [], off, ks, h, xs, ys, X, Y, b, he, hx, hy => by
    cases h
    have : b = true := by
      cases h1 : xs.drop off <;> cases h2 : ys.drop off <;> simp [h1, h2, eqRow] at he
      exact he
    subst this
    simp [Op.eqFields]
  | f :: fs, off, ks, h, xs, ys, X, Y, b, he, hx, hy => by
    unfold leavesF at h
    split at h
    · rename_i k1 n e1 e2
      cases hc : (f.name != "_" && Nat.beq f.offset off && Nat.beq n k1.length) with
      | false => rw [hc] at h; cases h
      | true =>
        rw [hc] at h
        simp only [cond_true, Option.map_eq_some_iff] at h
        simp only [Bool.and_eq_true, bne_iff_ne, ne_eq, Nat.beq_eq] at hc
        obtain ⟨⟨c1, c2⟩, c3⟩ := hc
        obtain ⟨k2, e3, rfl⟩ := h
        obtain ⟨b1, b2, g1, g2, rfl⟩ := eq_row_split he
        obtain ⟨l1, l2⟩ := eq_row_len he
        simp only [List.length_drop, List.length_append] at l1 l2
        obtain ⟨g, hg, hgn⟩ := leaves_agg e1
        have hxl := hx.1
        have hyl := hy.1
        by_cases h0 : n = 0
        · have hk : k1.length = 0 := by omega
          have hgt : g = true := by
            cases g
            · have := hgn rfl; omega
            · rfl
          subst hgt
          obtain ⟨i, hi, hi2⟩ := info_size e2
          have pX : ∀ C : List Value, (part f.type C.toArray f.offset).run P W = .ok (mk P f.type []) W := fun C => by
            simp only [part, Sem.run_bind, run_agg hg, Result.andThen_ok, if_true, run_size hi, hi2, h0, Sem.run_pure, mk, hg]
            congr 2
            apply Array.ext'
            simp
          have hrun := IH f.type k1 e1 [] [] [] [] b1 (by rw [hk] at g1; simpa using g1) (LR.nil ρ) (LR.nil ρ)
          have hrest := eq_fields IH fs (off + n) k2 e3 xs ys X Y b2 (by rw [h0]; rw [hk] at g2; simpa using g2) hx hy
          simp only [Op.eqFields, c1, ne_eq, not_false_eq_true, if_true, Sem.run_bind, pX, Result.andThen_ok, hrun]
          cases b1
          · simp
          · simpa using hrest
        · have p1 := part_mk (P := P) (W := W) (off := f.offset) (C := X) hg e2 (fun e => by rw [c3]; exact hgn e) (by omega)
          have p2 := part_mk (P := P) (W := W) (off := f.offset) (C := Y) hg e2 (fun e => by rw [c3]; exact hgn e) (by omega)
          have hrun := IH f.type k1 e1 _ _ _ _ b1 g1 ((hx.drop off).take k1.length) ((hy.drop off).take k1.length)
          have hrest := eq_fields IH fs (off + n) k2 e3 xs ys X Y b2 (by rw [c3, ← List.drop_drop, ← List.drop_drop]; exact g2) hx hy
          rw [← c3] at hrun
          rw [c2] at p1 p2
          simp only [Op.eqFields, c1, ne_eq, not_false_eq_true, if_true, Sem.run_bind, c2, p1, p2, Result.andThen_ok, hrun]
          cases b1
          · simp
          · simpa using hrest
    · cases h
theorem eq_leaves (m : Nat) : ∀ (d : Nat) (t : TypeId) (ks : List Leaf), leaves P d t = some ks → ∀ (xs ys : List HV) (X Y : List Value) (b : Bool), eqRow ks xs ys = some b → LR ρ xs X → LR ρ ys Y → (Op.equalIn (d + m) t (mk P t X) (mk P t Y)).run P W = .ok b W
  | 0, t, ks, h, _, _, _, _, _, _, _, _ => by simp [leaves] at h
  | d + 1, t, ks, h, xs, ys, X, Y, b, he, hx, hy => by
    have one : ∀ (k : Leaf) (td : TypeDesc), P.underlying t = some td → leafFits k td → aggOf P t = some false → ks = [k] → (Op.equalIn (d + 1 + m) t (mk P t X) (mk P t Y)).run P W = .ok b W := by
      intro k td hu hf hg hk
      subst hk
      obtain ⟨l1, l2⟩ := eq_row_len he
      cases xs with
      | nil => simp at l1
      | cons x xs =>
        cases ys with
        | nil => simp at l2
        | cons y ys =>
          have h1 : xs = [] := by simpa using l1
          have h2 : ys = [] := by simpa using l2
          subst h1; subst h2
          obtain ⟨u, X', rfl, hu', hX'⟩ := LR.inv hx
          obtain ⟨w, Y', rfl, hw', hY'⟩ := LR.inv hy
          have hb : eqLeaf k x y = some b := by
            simp only [eqRow] at he
            split at he
            · rename_i a1 a2 e1 e2
              cases e2
              simp at he
              subst he
              exact e1
            · cases he
          have := (eq_leaf (P := P) (W := W) hb hu' hw').2.2.1 (d + m) t td hu hf
          have e : d + 1 + m = d + m + 1 := by omega
          rw [e]
          simpa [mk, hg] using this
    unfold leaves at h
    split at h
    · rename_i hu; cases h; exact one .b _ hu trivial (by simp [aggOf, hu]) rfl
    · rename_i k hu; cases h; exact one (.i k) _ hu rfl (by simp [aggOf, hu]) rfl
    · rename_i hu; cases h; exact one .s _ hu trivial (by simp [aggOf, hu]) rfl
    · rename_i fs hu
      cases hst : P.stoodInHeld t with
      | true => rw [hst] at h; cases h
      | false =>
        rw [hst] at h
        simp only [cond_false] at h
        have hfo : P.fieldsOf t = fs := by simp [Program.fieldsOf, hu]
        have hg : aggOf P t = some true := by simp [aggOf, hu]
        have e : d + 1 + m = d + m + 1 := by omega
        rw [e]
        simp only [mk, hg]
        rw [run_equalIn_struct W (d + m) t X.toArray Y.toArray (by rw [hfo]; exact hu) hst, hfo]
        exact eq_fields (eq_leaves m d) fs.toList 0 ks h xs ys X Y b (by simpa using he) hx hy
    · rename_i n e hu
      obtain ⟨k1, e1, e2, e3, rfl⟩ := leaves_arr h
      obtain ⟨i, hi, hi2⟩ := info_size e2
      have hg : aggOf P t = some true := by simp [aggOf, hu]
      have hc : P.cellsOf e = k1.length := by simp [Program.cellsOf, hi, hi2]
      have ee : d + 1 + m = d + m + 1 := by omega
      rw [ee]
      simp only [mk, hg]
      rw [run_equalIn_array W (d + m) X.toArray Y.toArray hu hi, hc, List.range_eq_range']
      exact eq_items (eq_leaves m d e k1 e1) e1 e2 rfl e3 n 0 xs ys X Y b (by simpa using he) hx hy
    · cases h
end Go.Hx

/- The plain machine and Go's: '==' and '!=', maps read and written. -/
namespace Go.Hx
variable {P : Program} {base fl : Nat} {a : HAct} {σ σ' : HS} {v : HV} {ρ : Rho} {A : Act} {W : World} {o : Oper}

theorem guard_fields {d n : Nat} (IH : ∀ (t : TypeId) (ks : List Leaf), leaves P d t = some ks → P.eqGuardType n t = false) : ∀ (fs : List Field) (off : Nat) (ks : List Leaf), leavesF P (leaves P d) fs off = some ks →
    (fs.any fun f => f.name != "_" && P.eqGuardType n f.type) = false
  | [], _, _, _ => rfl
  | f :: fs, off, ks, h => by
    unfold leavesF at h
    split at h
    · rename_i k1 m e1 e2
      cases hc : (f.name != "_" && Nat.beq f.offset off && Nat.beq m k1.length) with
      | false => rw [hc] at h; cases h
      | true =>
        rw [hc] at h
        simp only [cond_true, Option.map_eq_some_iff] at h
        obtain ⟨k2, e3, _⟩ := h
        simp [IH _ _ e1]
        have := guard_fields IH fs _ _ e3
        simpa using this
    · cases h
theorem guard_leaves : ∀ (d : Nat) (t : TypeId) (ks : List Leaf), leaves P d t = some ks → ∀ n, d ≤ n → P.eqGuardType n t = false
  | 0, t, ks, h, _, _ => by simp [leaves] at h
  | d + 1, t, ks, h, n, hn => by
    obtain ⟨m, rfl⟩ : ∃ m, n = m + 1 := ⟨n - 1, by omega⟩
    unfold leaves at h
    split at h
    · rename_i hu; simp [Program.eqGuardType, hu]
    · rename_i hu; simp [Program.eqGuardType, hu]
    · rename_i hu; simp [Program.eqGuardType, hu]
    · rename_i fs hu
      cases hst : P.stoodInHeld t with
      | true => rw [hst] at h; cases h
      | false =>
        rw [hst] at h
        simp only [cond_false] at h
        have := guard_fields (fun t ks h => guard_leaves d t ks h m (by omega)) fs.toList 0 ks h
        simp only [Program.eqGuardType, hu]
        rw [← Array.any_toList]
        exact this
    · rename_i e hu
      obtain ⟨k1, e1, _⟩ := leaves_arr h
      simp only [Program.eqGuardType, hu]
      exact guard_leaves d e k1 e1 m (by omega)
    · cases h

def EdFits (P : Program) (t : TypeId) : ED → Prop
  | .cell k => ∃ td, P.underlying t = some td ∧ leafFits k td
  | .row ks => 20 ≤ P.depth ∧ leaves P 20 t = some ks ∧ aggOf P t = some true
  | .nilSlice => ∃ e, P.underlying t = some (.slice e)
  | .nilPtr => ∃ e, P.underlying t = some (.pointer e)
  | .nilMap => ∃ k e, P.underlying t = some (.map k e)
  | .nilFunc => ∃ p r q, P.underlying t = some (.func p r q)
theorem ed_fits {t : TypeId} {d : ED} (h : edOf P t = some d) : EdFits P t d := by
  unfold edOf at h
  split at h
  · rename_i hu; cases h; exact ⟨_, hu⟩
  · rename_i hu; cases h; exact ⟨_, hu⟩
  · rename_i hu; cases h; exact ⟨_, _, hu⟩
  · rename_i hu; cases h; exact ⟨_, _, _, hu⟩
  · rename_i hu; cases h; exact ⟨_, hu, trivial⟩
  · rename_i hu; cases h; exact ⟨_, hu, rfl⟩
  · rename_i hu; cases h; exact ⟨_, hu, trivial⟩
  · rename_i hu
    cases hc : Nat.ble 20 P.depth with
    | false => rw [hc] at h; cases h
    | true =>
      rw [hc] at h
      simp only [cond_true, Option.map_eq_some_iff] at h
      obtain ⟨ks, h1, rfl⟩ := h
      exact ⟨Nat.le_of_ble_eq_true hc, h1, by simp [aggOf, hu]⟩
  · rename_i hu
    cases hc : Nat.ble 20 P.depth with
    | false => rw [hc] at h; cases h
    | true =>
      rw [hc] at h
      simp only [cond_true, Option.map_eq_some_iff] at h
      obtain ⟨ks, h1, rfl⟩ := h
      exact ⟨Nat.le_of_ble_eq_true hc, h1, by simp [aggOf, hu]⟩
  · cases h
theorem vr_anyptr {ρ : Rho} {p : Option (Nat × Nat)} {V : Value} (h : VR ρ (.ptr p) V) : ∃ q, V = .pointer q ∧ p.isNone = q.isNone := by
  cases h
  · exact ⟨_, rfl, rfl⟩
  · exact ⟨_, rfl, rfl⟩
theorem vr_anymap {ρ : Rho} {p : Option Nat} {V : Value} (h : VR ρ (.map p) V) : ∃ q, V = .map q ∧ p.isNone = q.isNone := by
  cases h
  · exact ⟨_, rfl, rfl⟩
  · exact ⟨_, rfl, rfl⟩
theorem vr_nilfunc {ρ : Rho} {V : Value} (h : VR ρ .nilFunc V) : V = .nilFunc := by cases h; rfl
/-- Whether two values are equal, as Go's machine finds it. -/
theorem equal_runD (m : Nat) {d : ED} {t : TypeId} {x y : HV} {X Y : Value} {b : Bool} (hd : EdFits P t d) (h : eqH d x y = some b) (hx : VR ρ x X) (hy : VR ρ y Y) : (Op.equalIn (20 + m) t X Y).run P W = .ok b W := by
  have e : 20 + m = (19 + m) + 1 := by omega
  cases d with
  | cell k =>
    obtain ⟨td, hu, hf⟩ := hd
    rw [e]
    exact (eq_leaf (P := P) (W := W) h hx hy).2.2.1 _ t td hu hf
  | row ks =>
    obtain ⟨_, hl, hg⟩ := hd
    unfold eqH at h
    split at h <;> first | contradiction | skip
    rename_i xs ys heq
    cases heq
    obtain ⟨C, rfl, hC⟩ := VR.inv_agg hx
    obtain ⟨D, rfl, hD⟩ := VR.inv_agg hy
    have := eq_leaves (P := P) (W := W) (ρ := ρ) m 20 t ks hl xs ys C D b h hC hD
    simpa [mk, hg] using this
  | nilSlice =>
    obtain ⟨e', hu⟩ := hd
    rw [e]
    unfold eqH at h
    split at h <;> first | contradiction | skip
    obtain ⟨q1, d1, rfl, h1⟩ := vr_anyslice hx
    obtain ⟨q2, d2, rfl, h2⟩ := vr_anyslice hy
    rw [h1, h2] at h
    cases q1 with
    | none => cases h; cases hx; simp [Op.equalIn, run_under hu]
    | some q1 =>
      cases q2 with
      | none => cases h; cases hy; simp [Op.equalIn, run_under hu]
      | some q2 => cases h
  | nilPtr =>
    obtain ⟨e', hu⟩ := hd
    rw [e]
    unfold eqH at h
    split at h <;> first | contradiction | skip
    obtain ⟨q1, rfl, h1⟩ := vr_anyptr hx
    obtain ⟨q2, rfl, h2⟩ := vr_anyptr hy
    rw [h1, h2] at h
    cases q1 with
    | none => cases h; simp [Op.equalIn, run_under hu]
    | some q1 =>
      cases q2 with
      | none => cases h; simp [Op.equalIn, run_under hu]
      | some q2 => cases h
  | nilMap =>
    obtain ⟨k, e', hu⟩ := hd
    rw [e]
    unfold eqH at h
    split at h <;> first | contradiction | skip
    obtain ⟨q1, rfl, h1⟩ := vr_anymap hx
    obtain ⟨q2, rfl, h2⟩ := vr_anymap hy
    rw [h1, h2] at h
    cases q1 with
    | none => cases h; simp [Op.equalIn, run_under hu]
    | some q1 =>
      cases q2 with
      | none => cases h; simp [Op.equalIn, run_under hu]
      | some q2 => cases h
  | nilFunc =>
    obtain ⟨p, r, q, hu⟩ := hd
    rw [e]
    unfold eqH at h
    split at h <;> first | contradiction | skip
    · cases h
      rw [vr_nilfunc hx, vr_nilfunc hy]
      simp [Op.equalIn, run_under hu]
    · cases h
      obtain ⟨F, C, rfl, _, _⟩ := vr_func hy
      rw [vr_nilfunc hx]
      simp [Op.equalIn, run_under hu]
    · cases h
      obtain ⟨F, C, rfl, _, _⟩ := vr_func hx
      rw [vr_nilfunc hy]
      simp [Op.equalIn, run_under hu]
theorem equal_run {d : ED} {t : TypeId} {x y : HV} {X Y : Value} {b : Bool} (hd : EdFits P t d) (h : eqH d x y = some b) (hx : VR ρ x X) (hy : VR ρ y Y) : (Op.equal t X Y).run P W = .ok b W :=
  equal_runD 9980 hd h hx hy
/-- 'op' is '==' or '!=': what it makes of whether they are equal. -/
theorem eq_run {d : ED} {neg : Bool} {op : BinOp} {t : TypeId} {x y : HV} {X Y : Value} {b : Bool} (hop : op = if neg then .neq else .eql) (hd : EdFits P t d) (h : eqH d x y = some b) (hx : VR ρ x X) (hy : VR ρ y Y) (p q : Operand) :
    (eqGuard op t p q X Y).run P W = .ok () W ∧ (binOp op t X Y).run P W = .ok (.bool (b != neg)) W := by
  have he := equal_run (W := W) hd h hx hy
  cases d with
  | cell k =>
    unfold eqH at h
    simp only at h
    unfold eqLeaf at h
    split at h
    · cases h
      rw [vr_bool hx, vr_bool hy] at he ⊢
      subst hop
      cases neg <;> simp [eqGuard, binOp, he]
    · split at h
      · rename_i hk
        obtain ⟨rfl, rfl⟩ := hk
        cases h
        rw [vr_int hx, vr_int hy]
        subst hop
        cases neg <;> simp [eqGuard, binOp, Op.intCmp, bne]
      · cases h
    · cases h
      rw [vr_str hx, vr_str hy]
      subst hop
      cases neg <;> simp [eqGuard, binOp, Op.stringOp, beq_toListBytes]
    · cases h
  | row ks =>
    obtain ⟨hdep, hl, hg⟩ := hd
    unfold eqH at h
    split at h <;> first | contradiction | skip
    rename_i xs ys heq
    cases heq
    obtain ⟨C, rfl, hC⟩ := VR.inv_agg hx
    obtain ⟨D, rfl, hD⟩ := VR.inv_agg hy
    have hgd := guard_leaves 20 t ks hl P.depth hdep
    subst hop
    cases neg <;> simp [eqGuard, binOp, he, hgd]
  | nilSlice =>
    unfold eqH at h
    split at h <;> first | contradiction | skip
    all_goals
      obtain ⟨q1, d1, rfl, _⟩ := vr_anyslice hy
      obtain ⟨q2, d2, rfl, _⟩ := vr_anyslice hx
      subst hop
      cases neg <;> simp [eqGuard, binOp, he]
  | nilPtr =>
    unfold eqH at h
    split at h <;> first | contradiction | skip
    all_goals
      obtain ⟨q1, rfl, _⟩ := vr_anyptr hy
      obtain ⟨q2, rfl, _⟩ := vr_anyptr hx
      subst hop
      cases neg <;> simp [eqGuard, binOp, he]
  | nilMap =>
    unfold eqH at h
    split at h <;> first | contradiction | skip
    all_goals
      obtain ⟨q1, rfl, _⟩ := vr_anymap hy
      obtain ⟨q2, rfl, _⟩ := vr_anymap hx
      subst hop
      cases neg <;> simp [eqGuard, binOp, he]
  | nilFunc =>
    unfold eqH at h
    split at h <;> first | contradiction | skip
    · rw [vr_nilfunc hx, vr_nilfunc hy] at he ⊢
      subst hop
      cases neg <;> simp [eqGuard, binOp, he]
    · obtain ⟨F, C, rfl, _, _⟩ := vr_func hy
      rw [vr_nilfunc hx] at he ⊢
      subst hop
      cases neg <;> simp [eqGuard, binOp, he]
    · obtain ⟨F, C, rfl, _, _⟩ := vr_func hx
      rw [vr_nilfunc hy] at he ⊢
      subst hop
      cases neg <;> simp [eqGuard, binOp, he]
theorem op_eq {d : ED} {neg : Bool} {op : BinOp} {t t' : TypeId} {x z : Operand} {y w : Lo} (ho : o.op = .binOp op t x z t') (hop : op = if neg then .neq else .eql) (hd : edOf P t = some d) (hx : lowX x = some y) (hz : lowX z = some w) (h : oEq d neg y w a σ = some (v, σ'))
    (hs : Sim P base σ.h.get ρ W) (ha : AR ρ a A) : HF fl σ.nx σ'.nx σ.h.get σ'.h.get ∧ Does P base fl σ σ' ρ W (execOp A.eval o) v := by
  unfold oEq at h
  split at h
  · rename_i b hb
    cases h
    obtain ⟨g1, g2⟩ := eq_run (W := W) hop (ed_fits hd) hb (ev_ok ha hx) (ev_ok ha hz) x z
    exact ⟨HF.refl _ _ _, does_value hs (V := .bool (b != neg)) (by simp [execOp, ho, g1, g2]) (.bool _)⟩
  · cases h
end Go.Hx

/- The plain machine and Go's: maps. -/
namespace Go.Hx
variable {P : Program} {base fl : Nat} {a : HAct} {σ σ' : HS} {v : HV} {ρ : Rho} {A : Act} {W : World} {o : Oper}

theorem check_fields {d n : Nat} {em : Bool} (IH : ∀ (t : TypeId) (ks : List Leaf), leaves P d t = some ks → ∀ X : List Value, X.length = ks.length → (Instr.checkKey em n t (mk P t X)).run P W = .ok () W) :
    ∀ (fs : List Field) (off : Nat) (ks : List Leaf), leavesF P (leaves P d) fs off = some ks → ∀ X : List Value, X.length = off + ks.length →
      (forIn fs PUnit.unit (fun (f : Field) (_ : PUnit) => (if f.name ≠ "_" then do
          let y ← part f.type X.toArray f.offset
          Instr.checkKey em n f.type y
          pure (ForInStep.yield PUnit.unit)
        else pure (ForInStep.yield PUnit.unit) : Sem (ForInStep PUnit)))).run P W = .ok PUnit.unit W
  | [], _, _, _, _, _ => by simp
  | f :: fs, off, ks, h, X, hX => by
    unfold leavesF at h
    split at h
    · rename_i k1 m e1 e2
      cases hc : (f.name != "_" && Nat.beq f.offset off && Nat.beq m k1.length) with
      | false => rw [hc] at h; cases h
      | true =>
        rw [hc] at h
        simp only [cond_true, Option.map_eq_some_iff] at h
        simp only [Bool.and_eq_true, bne_iff_ne, ne_eq, Nat.beq_eq] at hc
        obtain ⟨⟨c1, c2⟩, c3⟩ := hc
        obtain ⟨k2, e3, rfl⟩ := h
        simp only [List.length_append] at hX
        obtain ⟨g, hg, hgn⟩ := leaves_agg e1
        have p1 := part_mk (P := P) (W := W) (off := f.offset) (C := X) hg e2 (fun e => by rw [c3]; exact hgn e) (by omega)
        have hk := IH f.type k1 e1 ((X.drop f.offset).take m) (by simp; omega)
        have hrest := check_fields IH fs (off + m) k2 e3 X (by omega)
        simp only [List.forIn_cons, c1, ne_eq, not_false_eq_true, if_true, Sem.run_bind, p1, Result.andThen_ok, hk, Sem.run_pure]
        exact hrest
    · cases h
theorem check_items {d n : Nat} {em : Bool} {e : TypeId} {ks : List Leaf} (IH : ∀ X : List Value, X.length = ks.length → (Instr.checkKey em n e (mk P e X)).run P W = .ok () W) (hk : leaves P d e = some ks) (hz : szOf P e = some ks.length) :
    ∀ (len off : Nat) (X : List Value), X.length = (off + len) * ks.length →
      (forIn (List.range' off len) PUnit.unit (fun (i : Nat) (_ : PUnit) => (do
          let z ← sizeOf e
          let y ← part e X.toArray (i * z)
          Instr.checkKey em n e y
          pure (ForInStep.yield PUnit.unit) : Sem (ForInStep PUnit)))).run P W = .ok PUnit.unit W
  | 0, off, X, hX => by simp
  | len + 1, off, X, hX => by
    obtain ⟨g, hg, hgn⟩ := leaves_agg hk
    obtain ⟨i, hi, hi2⟩ := info_size hz
    have hX' : X.length = off * ks.length + ks.length + len * ks.length := by rw [hX, show off + (len + 1) = off + 1 + len by omega, Nat.add_mul, Nat.add_mul, Nat.one_mul]
    have p1 := part_mk (P := P) (W := W) (off := off * ks.length) (C := X) hg hz hgn (by omega)
    have hc := IH ((X.drop (off * ks.length)).take ks.length) (by simp; omega)
    have hrest := check_items IH hk hz len (off + 1) X (by rw [hX]; congr 1; omega)
    simp only [List.range'_succ, List.forIn_cons, Sem.run_bind, run_size hi, hi2, p1, Result.andThen_ok, hc, Sem.run_pure]
    simpa only [Sem.run_bind] using hrest
theorem check_leaves (em : Bool) : ∀ (d : Nat) (t : TypeId) (ks : List Leaf), leaves P d t = some ks → ∀ n, d ≤ n → ∀ X : List Value, X.length = ks.length → (Instr.checkKey em n t (mk P t X)).run P W = .ok () W
  | 0, t, ks, h, _, _, _, _ => by simp [leaves] at h
  | d + 1, t, ks, h, n, hn, X, hX => by
    obtain ⟨m, rfl⟩ : ∃ m, n = m + 1 := ⟨n - 1, by omega⟩
    have flat : ∀ V, (P.underlying t = some .bool ∨ (∃ k, P.underlying t = some (.int k)) ∨ P.underlying t = some .string) → (Instr.checkKey em (m + 1) t V).run P W = .ok () W := by
      intro V hu
      rcases hu with hu | ⟨k, hu⟩ | hu <;> simp [Instr.checkKey, run_under hu]
    have h' := h
    unfold leaves at h
    split at h
    · rename_i hu; exact flat _ (.inl hu)
    · rename_i k hu; exact flat _ (.inr (.inl ⟨k, hu⟩))
    · rename_i hu; exact flat _ (.inr (.inr hu))
    · rename_i fs hu
      cases hst : P.stoodInHeld t with
      | true => rw [hst] at h; cases h
      | false =>
        rw [hst] at h
        simp only [cond_false] at h
        have hg : aggOf P t = some true := by simp [aggOf, hu]
        have := check_fields (em := em) (W := W) (fun t ks h X hX => check_leaves em d t ks h m (by omega) X hX) fs.toList 0 ks h X (by omega)
        simp only [mk, hg, Instr.checkKey, Sem.run_bind, run_under hu, Result.andThen_ok]
        rw [← Array.forIn_toList]
        simp at this ⊢
        rw [this]
        rfl
    · rename_i len e hu
      obtain ⟨k1, e1, e2, _, rfl⟩ := leaves_arr h
      have hg : aggOf P t = some true := by simp [aggOf, hu]
      have := check_items (em := em) (W := W) (check_leaves em d e k1 e1 m (by omega)) e1 e2 len 0 X (by rw [hX, repL_len, Nat.zero_add])
      simp only [mk, hg, Instr.checkKey, Sem.run_bind, run_under hu, Result.andThen_ok]
      simp only [Std.Legacy.Range.forIn_eq_forIn_range', Std.Legacy.Range.size, Nat.sub_zero, Nat.add_one_sub_one, Nat.div_one]
      simp at this ⊢
      rw [this]
      rfl
    · cases h
theorem key_ed {t : TypeId} {d : ED} (h : keyEd P t = some d) : edOf P t = some d ∧ ((∃ k, d = .cell k) ∨ ∃ ks, d = .row ks) := by
  unfold keyEd at h
  split at h
  · rename_i k hk; cases h; exact ⟨hk, .inl ⟨k, rfl⟩⟩
  · rename_i k hk; cases h; exact ⟨hk, .inr ⟨k, rfl⟩⟩
  · cases h
theorem check_key {em : Bool} {d : ED} {t : TypeId} {x : HV} {X : Value} (hd : keyEd P t = some d) (he : keyOk d x = true) (hx : VR ρ x X) : (Instr.checkKey em 10000 t X).run P W = .ok () W := by
  obtain ⟨b, hb⟩ := Option.isSome_iff_exists.1 he
  obtain ⟨h1, h2⟩ := key_ed hd
  have hf := ed_fits h1
  rcases h2 with ⟨k, rfl⟩ | ⟨ks, rfl⟩
  · obtain ⟨td, hu, hl⟩ := hf
    show (Instr.checkKey em (9999 + 1) t X).run P W = .ok () W
    generalize 9999 = n
    cases td <;> cases k <;> simp [leafFits] at hl <;> simp [Instr.checkKey, run_under hu]
  · obtain ⟨_, hl, hg⟩ := hf
    cases x <;> simp only [eqH] at hb <;> first | contradiction | skip
    rename_i xs
    obtain ⟨C, rfl, hC⟩ := VR.inv_agg hx
    have hlen := (eq_row_len hb).1
    have := check_leaves (P := P) (W := W) em 20 t ks hl 10000 (by omega) C (by rw [← hC.1]; exact hlen)
    simpa [mk, hg] using this
def Found (ρ : Rho) : Option HV → Option (Nat × Value) → Prop
  | none, none => True
  | some v, some (_, V) => VR ρ v V
  | _, _ => False
/-- Looking for a key among a map's entries. -/
theorem find_asking {d : ED} {t : TypeId} {k : HV} {K : Value} (hd : EdFits P t d) (hk : VR ρ k K) : ∀ (es : List (HV × HV)) (E : List MapEntry) (i : Nat) (r : Option HV), findH d k es = some r → ER ρ es E →
    ∃ R, (Instr.findAsking t K E i).run P W = .ok R W ∧ Found ρ r R
  | [], E, i, r, h, he => by
    have : E = [] := by have := he.1; simp at this; exact List.length_eq_zero_iff.1 this.symm
    subst this
    cases h
    exact ⟨none, by simp [Instr.findAsking], trivial⟩
  | (x, w) :: es, E, i, r, h, he => by
    cases E with
    | nil => have := he.1; simp at this
    | cons e E =>
      obtain ⟨hx, hw⟩ := he.2 0 _ _ rfl rfl
      have he' : ER ρ es E := ⟨by have := he.1; simpa using this, fun j p q hp hq => he.2 (j + 1) p q (by simpa using hp) (by simpa using hq)⟩
      unfold findH at h
      split at h
      · rename_i hq
        cases h
        have := equal_run (W := W) hd hq hk hx
        exact ⟨some (i, e.val), by simp [Instr.findAsking, this], hw⟩
      · rename_i hq
        have := equal_run (W := W) hd hq hk hx
        obtain ⟨R, h1, h2⟩ := find_asking hd hk es E (i + 1) r h he'
        exact ⟨R, by simp [Instr.findAsking, this, h1], h2⟩
      · cases h
theorem find_now {k : Leaf} {td : TypeDesc} {x : HV} {K : Value} (hf : leafFits k td) (hk : VR ρ x K) : ∀ (es : List (HV × HV)) (E : List MapEntry) (i : Nat) (r : Option HV), findH (.cell k) x es = some r → ER ρ es E →
    ∃ R, Instr.findNow td K E i = some R ∧ Found ρ r R
  | [], E, i, r, h, he => by
    have : E = [] := by have := he.1; simp at this; exact List.length_eq_zero_iff.1 this.symm
    subst this
    cases h
    exact ⟨none, rfl, trivial⟩
  | (y, w) :: es, E, i, r, h, he => by
    cases E with
    | nil => have := he.1; simp at this
    | cons e E =>
      obtain ⟨hx, hw⟩ := he.2 0 _ _ rfl rfl
      have he' : ER ρ es E := ⟨by have := he.1; simpa using this, fun j p q hp hq => he.2 (j + 1) p q (by simpa using hp) (by simpa using hq)⟩
      unfold findH at h
      split at h
      · rename_i hq
        cases h
        have := (eq_leaf (P := default) (W := default) hq hk hx).2.2.2 td hf
        exact ⟨some (i, e.val), by simp [Instr.findNow, this], hw⟩
      · rename_i hq
        have := (eq_leaf (P := default) (W := default) hq hk hx).2.2.2 td hf
        obtain ⟨R, h1, h2⟩ := find_now hf hk es E (i + 1) r h he'
        exact ⟨R, by simp [Instr.findNow, this, h1], h2⟩
      · cases h
theorem find_key {d : ED} {t : TypeId} {k : HV} {K : Value} (hd : keyEd P t = some d) (hk : VR ρ k K) {es : List (HV × HV)} {E : List MapEntry} {r : Option HV} (h : findH d k es = some r) (he : ER ρ es E) :
    ∃ R, (Instr.findKey t K E).run P W = .ok R W ∧ Found ρ r R := by
  obtain ⟨h1, h2⟩ := key_ed hd
  have hf := ed_fits h1
  rcases h2 with ⟨k, rfl⟩ | ⟨ks, rfl⟩
  · obtain ⟨td, hu, hl⟩ := hf
    obtain ⟨R, g1, g2⟩ := find_now hl hk es E 0 r h he
    exact ⟨R, by simp [Instr.findKey, run_under hu, g1], g2⟩
  · obtain ⟨R, g1, g2⟩ := find_asking (W := W) hf hk es E 0 r h he
    obtain ⟨_, hl, hg⟩ := hf
    have hu : (∃ fs, P.underlying t = some (.struct fs)) ∨ ∃ n e, P.underlying t = some (.array n e) := by
      unfold leaves at hl
      split at hl
      · rename_i hu; simp [aggOf, hu] at hg
      · rename_i hu; simp [aggOf, hu] at hg
      · rename_i hu; simp [aggOf, hu] at hg
      · rename_i fs hu; exact .inl ⟨fs, hu⟩
      · rename_i n e hu; exact .inr ⟨n, e, hu⟩
      · cases hl
    rcases hu with ⟨fs, hu⟩ | ⟨n, e', hu⟩
    · cases E with
      | nil =>
        have : es = [] := by have := he.1; simp at this; exact this
        subst this
        cases h
        exact ⟨none, by simp [Instr.findKey, run_under hu, Instr.findNow], trivial⟩
      | cons e E => exact ⟨R, by simp [Instr.findKey, run_under hu, Instr.findNow, Instr.sameNow, g1], g2⟩
    · cases E with
      | nil =>
        have : es = [] := by have := he.1; simp at this; exact this
        subst this
        cases h
        exact ⟨none, by simp [Instr.findKey, run_under hu, Instr.findNow], trivial⟩
      | cons e E => exact ⟨R, by simp [Instr.findKey, run_under hu, Instr.findNow, Instr.sameNow, g1], g2⟩

theorem op_lookup {t kt e : TypeId} {m k : Operand} {m' k' : Lo} {ok : Bool} {d : ED} {z : HV} (ho : o.op = .lookup t m k ok) (hu : P.underlying t = some (.map kt e)) (hd : keyEd P kt = some d) (hz : zeroV P e = some z) (hm : lowX m = some m') (hk : lowX k = some k')
    (h : oLookup d z ok m' k' a σ = some (v, σ')) (hs : Sim P base σ.h.get ρ W) (ha : AR ρ a A) : HF fl σ.nx σ'.nx σ.h.get σ'.h.get ∧ Does P base fl σ σ' ρ W (execOp A.eval o) v := by
  obtain ⟨i, Z, i1, i2, i3⟩ := info_zero hz ρ
  have h1 := ev_ok ha hm
  have h2 := ev_ok ha hk
  have fin : ∀ (w : HV) (is : Bool) (U : Value), found ok w is σ = some (v, σ') → VR ρ w U → ((execOp A.eval o).run P W = .ok (.value (if ok then .tuple #[U, .bool is] else U)) W) → HF fl σ.nx σ'.nx σ.h.get σ'.h.get ∧ Does P base fl σ σ' ρ W (execOp A.eval o) v := by
    intro w is U hf hw hr
    unfold found at hf
    cases ok with
    | true =>
      cases hf
      refine ⟨HF.refl _ _ _, does_value hs hr ?_⟩
      exact VR.tupleL (LR.cons hw (LR.cons (.bool is) (LR.nil ρ)))
    | false =>
      cases hf
      exact ⟨HF.refl _ _ _, does_value hs hr hw⟩
  unfold oLookup at h
  cases hc : keyOk d (a.ev k') with
  | false => rw [hc] at h; cases h
  | true =>
    rw [hc] at h
    simp only [cond_true] at h
    have hck : ∀ em, (Instr.checkKey em 10000 kt (A.eval k)).run P W = .ok () W := fun em => check_key hd hc h2
    split at h
    · rename_i e1
      rw [e1] at h1
      have hV := vr_nilmap h1
      obtain ⟨R, g1, g2⟩ := find_key (W := W) hd h2 (es := []) (E := []) (r := none) rfl ⟨rfl, fun j p q hp => by simp at hp⟩
      cases R with
      | some R => exact g2.elim
      | none =>
        refine fin z false Z h i3 ?_
        cases ok <;> simp [execOp, ho, hV, Instr.lookup, run_under hu, hck, g1, run_zero i1 i2]
    · rename_i r e1
      rw [e1] at h1
      obtain ⟨q, hq, hV⟩ := vr_map h1
      split at h
      · rename_i es hes
        obtain ⟨q', E, cl, hq', hw, _, her, _⟩ := hs.ok _ _ hes
        rw [hq] at hq'; cases hq'
        have hobj : (getObj q.blk).run P W = .ok (.map E cl) W := by simp [getObj, Sem.run, hw]
        split at h
        · rename_i w hf
          obtain ⟨R, g1, g2⟩ := find_key (W := W) hd h2 hf her
          cases R with
          | none => exact g2.elim
          | some R =>
            obtain ⟨j, U⟩ := R
            refine fin w true U h g2 ?_
            cases ok <;> simp [execOp, ho, hV, Instr.lookup, run_under hu, hobj, hck, g1]
        · rename_i hf
          obtain ⟨R, g1, g2⟩ := find_key (W := W) hd h2 hf her
          cases R with
          | some R => exact g2.elim
          | none =>
            refine fin z false Z h i3 ?_
            cases ok <;> simp [execOp, ho, hV, Instr.lookup, run_under hu, hobj, hck, g1, run_zero i1 i2]
        · cases h
      · cases h
    · cases h
end Go.Hx

/- The plain machine and Go's: a map written. -/
namespace Go.Hx
variable {P : Program} {base fl : Nat} {a : HAct} {σ σ' : HS} {v : HV} {ρ : Rho} {A : Act} {W : World} {o : Oper}

theorem same_of_eq {d : ED} {x y : HV} {X Y : Value} (hd : (∃ k, d = .cell k) ∨ ∃ ks, d = .row ks) (h : eqH d x y = some true) (hx : VR ρ x X) (hy : VR ρ y Y) : ∀ n, Instr.sameBits (n + 1) Y X = true := by
  intro n
  rcases hd with ⟨k, rfl⟩ | ⟨ks, rfl⟩
  · obtain ⟨h1, h2, _⟩ := eq_leaf (P := default) (W := default) h hx hy
    have := h1 rfl
    subst this
    exact h2 (n + 1) rfl
  · cases x <;> simp only [eqH] at h <;> first | contradiction | skip
    rename_i xs
    cases y <;> simp only [eqH] at h <;> first | contradiction | skip
    rename_i ys
    obtain ⟨C, rfl, hC⟩ := VR.inv_agg hx
    obtain ⟨D, rfl, hD⟩ := VR.inv_agg hy
    obtain ⟨h1, h2⟩ := eq_row_true h hC hD rfl
    subst h1
    simp only [Instr.sameBits, beq_self_eq_true, Bool.true_and]
    exact h2 n
/-- Where a map's entry is found that is to be written. -/
inductive Put (k v : HV) (es es' : List (HV × HV)) (E : List MapEntry) (K : Value) (i : Nat) : Option (Nat × Value) → Prop
  | here (j : Nat) (e : MapEntry) (U : Value) (h1 : E[j]? = some e) (h2 : ∀ n, Instr.sameBits (n + 1) e.key K = true) (h3 : es' = es.set j (k, v)) : Put k v es es' E K i (some (i + j, U))
  | new (h : es' = es ++ [(k, v)]) : Put k v es es' E K i none
theorem Put.cons {k v : HV} {x : HV × HV} {e : MapEntry} {es es' : List (HV × HV)} {E : List MapEntry} {K : Value} {i : Nat} {R : Option (Nat × Value)} (h : Put k v es es' E K (i + 1) R) : Put k v (x :: es) (x :: es') (e :: E) K i R := by
  cases h with
  | here j e' U h1 h2 h3 =>
    have : i + 1 + j = i + (j + 1) := by omega
    rw [this]
    exact .here (j + 1) e' U (by simpa using h1) h2 (by rw [h3]; rfl)
  | new h => exact .new (by rw [h]; rfl)
theorem upd_asking {d : ED} {t : TypeId} {k v : HV} {K : Value} (hd : EdFits P t d) (hc : (∃ k, d = .cell k) ∨ ∃ ks, d = .row ks) (hk : VR ρ k K) : ∀ (es es' : List (HV × HV)) (E : List MapEntry) (i : Nat), updH d k v es = some es' → ER ρ es E →
    ∃ R, (Instr.findAsking t K E i).run P W = .ok R W ∧ Put k v es es' E K i R
  | [], es', E, i, h, he => by
    have : E = [] := by have := he.1; simp at this; exact List.length_eq_zero_iff.1 this.symm
    subst this
    cases h
    exact ⟨none, by simp [Instr.findAsking], .new rfl⟩
  | (x, w) :: es, es', E, i, h, he => by
    cases E with
    | nil => have := he.1; simp at this
    | cons e E =>
      obtain ⟨hx, hw⟩ := he.2 0 _ _ rfl rfl
      have he' : ER ρ es E := ⟨by have := he.1; simpa using this, fun j p q hp hq => he.2 (j + 1) p q (by simpa using hp) (by simpa using hq)⟩
      unfold updH at h
      split at h
      · rename_i hq
        cases h
        have := equal_run (W := W) hd hq hk hx
        exact ⟨some (i, e.val), by simp [Instr.findAsking, this], .here 0 e e.val rfl (same_of_eq hc hq hk hx) rfl⟩
      · rename_i hq
        simp only [Option.map_eq_some_iff] at h
        obtain ⟨es2, h1, rfl⟩ := h
        have := equal_run (W := W) hd hq hk hx
        obtain ⟨R, h2, h3⟩ := upd_asking hd hc hk es es2 E (i + 1) h1 he'
        exact ⟨R, by simp [Instr.findAsking, this, h2], h3.cons⟩
      · cases h
theorem upd_now {k : Leaf} {td : TypeDesc} {x v : HV} {K : Value} (hf : leafFits k td) (hk : VR ρ x K) : ∀ (es es' : List (HV × HV)) (E : List MapEntry) (i : Nat), updH (.cell k) x v es = some es' → ER ρ es E →
    ∃ R, Instr.findNow td K E i = some R ∧ Put x v es es' E K i R
  | [], es', E, i, h, he => by
    have : E = [] := by have := he.1; simp at this; exact List.length_eq_zero_iff.1 this.symm
    subst this
    cases h
    exact ⟨none, rfl, .new rfl⟩
  | (y, w) :: es, es', E, i, h, he => by
    cases E with
    | nil => have := he.1; simp at this
    | cons e E =>
      obtain ⟨hx, hw⟩ := he.2 0 _ _ rfl rfl
      have he' : ER ρ es E := ⟨by have := he.1; simpa using this, fun j p q hp hq => he.2 (j + 1) p q (by simpa using hp) (by simpa using hq)⟩
      unfold updH at h
      split at h
      · rename_i hq
        cases h
        have := (eq_leaf (P := default) (W := default) hq hk hx).2.2.2 td hf
        exact ⟨some (i, e.val), by simp [Instr.findNow, this], .here 0 e e.val rfl (same_of_eq (.inl ⟨k, rfl⟩) hq hk hx) rfl⟩
      · rename_i hq
        simp only [Option.map_eq_some_iff] at h
        obtain ⟨es2, h1, rfl⟩ := h
        have := (eq_leaf (P := default) (W := default) hq hk hx).2.2.2 td hf
        obtain ⟨R, h2, h3⟩ := upd_now hf hk es es2 E (i + 1) h1 he'
        exact ⟨R, by simp [Instr.findNow, this, h2], h3.cons⟩
      · cases h
theorem upd_key {d : ED} {t : TypeId} {k v : HV} {K : Value} (hd : keyEd P t = some d) (hk : VR ρ k K) {es es' : List (HV × HV)} {E : List MapEntry} (h : updH d k v es = some es') (he : ER ρ es E) :
    ∃ R, (Instr.findKey t K E).run P W = .ok R W ∧ Put k v es es' E K 0 R := by
  obtain ⟨h1, h2⟩ := key_ed hd
  have hf := ed_fits h1
  rcases h2 with ⟨k, rfl⟩ | ⟨ks, rfl⟩
  · obtain ⟨td, hu, hl⟩ := hf
    obtain ⟨R, g1, g2⟩ := upd_now hl hk es es' E 0 h he
    exact ⟨R, by simp [Instr.findKey, run_under hu, g1], g2⟩
  · obtain ⟨R, g1, g2⟩ := upd_asking (W := W) hf (.inr ⟨ks, rfl⟩) hk es es' E 0 h he
    obtain ⟨_, hl, hg⟩ := hf
    have hu : (∃ fs, P.underlying t = some (.struct fs)) ∨ ∃ n e, P.underlying t = some (.array n e) := by
      unfold leaves at hl
      split at hl
      · rename_i hu; simp [aggOf, hu] at hg
      · rename_i hu; simp [aggOf, hu] at hg
      · rename_i hu; simp [aggOf, hu] at hg
      · rename_i fs hu; exact .inl ⟨fs, hu⟩
      · rename_i n e hu; exact .inr ⟨n, e, hu⟩
      · cases hl
    rcases hu with ⟨fs, hu⟩ | ⟨n, e', hu⟩
    · cases E with
      | nil =>
        have : es = [] := by have := he.1; simp at this; exact this
        subst this
        cases h
        exact ⟨none, by simp [Instr.findKey, run_under hu, Instr.findNow], .new rfl⟩
      | cons e E => exact ⟨R, by simp [Instr.findKey, run_under hu, Instr.findNow, Instr.sameNow, g1], g2⟩
    · cases E with
      | nil =>
        have : es = [] := by have := he.1; simp at this; exact this
        subst this
        cases h
        exact ⟨none, by simp [Instr.findKey, run_under hu, Instr.findNow], .new rfl⟩
      | cons e E => exact ⟨R, by simp [Instr.findKey, run_under hu, Instr.findNow, Instr.sameNow, g1], g2⟩

theorem bn_push {E : Array MapEntry} {cl : Nat} (h : Bn E.toList cl) (k v : Value) : Bn (E.push { key := k, val := v, born := cl }).toList (cl + 1) := by
  unfold Bn at h ⊢
  rw [Array.toList_push, List.map_append, h, List.range_succ]
  rfl
theorem born_modify (E : Array MapEntry) (j : Nat) (k v : Value) : (E.modify j (fun e => { e with key := k, val := v })).toList.map (·.born) = E.toList.map (·.born) := by
  apply List.ext_getElem?
  intro i
  rw [List.getElem?_map, List.getElem?_map, Array.getElem?_toList, Array.getElem?_toList, Array.getElem?_modify]
  by_cases e : j = i
  · subst e; rw [if_pos rfl]; cases E[j]? <;> rfl
  · rw [if_neg e]
theorem bn_modify {E : Array MapEntry} {cl : Nat} (h : Bn E.toList cl) (j : Nat) (k v : Value) : Bn (E.modify j (fun e => { e with key := k, val := v })).toList cl := (born_modify E j k v).trans h

theorem op_mapUpdate {t kt e : TypeId} {m k w : Operand} {m' k' w' : Lo} {d : ED} (ho : o.op = .mapUpdate t m k w ∨ o.op = .insert t m k w) (hu : P.underlying t = some (.map kt e)) (hd : keyEd P kt = some d) (hm : lowX m = some m') (hk : lowX k = some k') (hw : lowX w = some w')
    (h : oMapUpdate fl d m' k' w' a σ = some (v, σ')) (hs : Sim P base σ.h.get ρ W) (ha : AR ρ a A) (hj : ∀ b x, σ.h.get b = some x → b < σ.nx) : HF fl σ.nx σ'.nx σ.h.get σ'.h.get ∧ Does P base fl σ σ' ρ W (execOp A.eval o) v := by
  have h1 := ev_ok ha hm
  have h2 := ev_ok ha hk
  have h3 := ev_ok ha hw
  unfold oMapUpdate at h
  cases hc : keyOk d (a.ev k') with
  | false => rw [hc] at h; cases h
  | true =>
    rw [hc] at h
    simp only [cond_true] at h
    have hck : ∀ em, (Instr.checkKey em 10000 kt (A.eval k)).run P W = .ok () W := fun em => check_key hd hc h2
    split at h
    · rename_i r e1
      rw [e1] at h1
      obtain ⟨q, hq, hV⟩ := vr_map h1
      split at h
      · rename_i es hes
        obtain ⟨q', E, cl, hq', hw', hbase, her, hbn⟩ := hs.ok _ _ hes
        rw [hq] at hq'; cases hq'
        have hobj : (getObj q.blk).run P W = .ok (.map E cl) W := by simp [getObj, Sem.run, hw']
        cases hfl : Nat.ble fl r with
        | false => rw [hfl] at h; cases h
        | true =>
          rw [hfl] at h
          simp only [cond_true] at h
          have hfl := Nat.le_of_ble_eq_true hfl
          split at h
          · rename_i es' hupd
            cases h
            obtain ⟨R, g1, g2⟩ := upd_key (W := W) hd h2 hupd her
            have hlt := (Array.getElem?_eq_some_iff.1 hw').1
            have setO : ∀ O : Obj, (setObj q.blk O).run P W = .ok () { W with heap := W.heap.setIfInBounds q.blk O } := fun O => by simp [setObj, Sem.run, hw']
            have run : ∃ E' cl', (execOp A.eval o).run P W = .ok .skip { W with heap := W.heap.setIfInBounds q.blk (.map E' cl') } ∧ ER ρ es' E'.toList ∧ Bn E'.toList cl' := by
              cases g2 with
              | here j en U e1 e2 e3 =>
                refine ⟨E.modify (0 + j) (fun e => { e with key := A.eval k, val := A.eval w }), cl, ?_, ?_, bn_modify hbn _ _ _⟩
                · have hen : E[0 + j]? = some en := by rw [Nat.zero_add, ← Array.getElem?_toList]; exact e1
                  have hks : (Instr.keyThatStays (((E[0 + j]?).map (·.key)).getD (A.eval k)) (A.eval k)).run P W = .ok (A.eval k) W := by
                    rw [hen]
                    simp only [Option.map_some, Option.getD_some, Instr.keyThatStays]
                    rw [if_pos (e2 9999)]
                    rfl
                  rcases ho with ho | ho <;> simp only [execOp, ho, hV, Instr.mapUpdate, Sem.run_bind, run_under hu, Result.andThen_ok, hobj, hck, g1, hks, setO, Sem.run_pure]
                · subst e3
                  refine ⟨by have := her.1; simpa using this, fun i p x hp hx => ?_⟩
                  rw [Nat.zero_add, Array.getElem?_toList, Array.getElem?_modify] at hx
                  rw [List.getElem?_set] at hp
                  by_cases e : j = i
                  · subst e
                    rw [if_pos rfl] at hx hp
                    split at hp
                    · cases hp
                      rw [← Array.getElem?_toList, e1] at hx
                      cases hx
                      exact ⟨h2, h3⟩
                    · cases hp
                  · rw [if_neg e] at hx hp
                    exact her.2 i p x hp (by rw [Array.getElem?_toList]; exact hx)
              | new e3 =>
                refine ⟨E.push { key := A.eval k, val := A.eval w, born := cl }, cl + 1, ?_, ?_, bn_push hbn _ _⟩
                · rcases ho with ho | ho <;> simp only [execOp, ho, hV, Instr.mapUpdate, Sem.run_bind, run_under hu, Result.andThen_ok, hobj, hck, g1, setO, Sem.run_pure]
                · subst e3
                  refine ⟨by have := her.1; simp at this ⊢; exact this, fun i p x hp hx => ?_⟩
                  have hl := her.1
                  simp only [Array.toList_push] at hx
                  by_cases e : i < es.length
                  · rw [List.getElem?_append_left e] at hp
                    rw [List.getElem?_append_left (by omega)] at hx
                    exact her.2 i p x hp hx
                  · rw [List.getElem?_append_right (by omega)] at hp hx
                    rw [hl] at hp
                    cases hi : i - E.toList.length with
                    | zero => rw [hi] at hp hx; cases hp; cases hx; exact ⟨h2, h3⟩
                    | succ n => rw [hi] at hp; cases hp
            obtain ⟨E', cl', hrun, her', hbn'⟩ := run
            refine ⟨hf_upd hfl (hj _ _ hes) (HS.get_upd σ _ _), Go.undef, _, ρ, .inr ⟨hrun, rfl⟩, VR.undef ρ, ?_⟩
            refine post_upd hs hes rfl hfl hq (HS.get_upd σ _ _) rfl rfl rfl (frz_put hw' rfl) (by simp) (fun n _ hn => ?_) (fun z hz => ?_)
            · simp only
              rw [Array.getElem?_setIfInBounds_ne (fun e => hn e.symm)]
            · cases hz
              exact ⟨q, E', cl', hq, by simp [hlt], hbase, her', hbn'⟩
          · cases h
      · cases h
    · cases h
end Go.Hx

/- The plain machine and Go's: rows of arrays, and copies. -/
namespace Go.Hx
variable {P : Program} {base fl : Nat} {ρ : Rho} {W : World} {σ σ' : HS} {a : HAct} {A : Act} {v : HV} {o : Oper}
theorem run_boundsA {x y : Option Operand} {n l h : Nat} (h1 : (y = none ∧ h = n) ∨ ∃ w k, y = some w ∧ A.eval w = .int k (h : Int)) (h2 : (x = none ∧ l = 0) ∨ ∃ w k, x = some w ∧ A.eval w = .int k (l : Int))
    (hle : l ≤ h) (hc : h ≤ n) (W : World) : (Instr.sliceBounds false n n (x.map A.eval) (y.map A.eval) none).run P W = .ok (l, h, n) W := by
  rcases h1 with ⟨rfl, rfl⟩ | ⟨w, k, rfl, hw⟩ <;> rcases h2 with ⟨rfl, rfl⟩ | ⟨w', k', rfl, hw'⟩
  · simp [Instr.sliceBounds]
  · simp [Instr.sliceBounds, Instr.sliceBound, asIntOf, hw', hle]
  · simp [Instr.sliceBounds, Instr.sliceBound, asIntOf, hw, hc]
  · simp [Instr.sliceBounds, Instr.sliceBound, asIntOf, hw, hw', hc, hle]
theorem op_sliceA {t e : TypeId} {n s : Nat} {x : Operand} {y : Lo} {lo hi : Option Operand} {lo' hi' : Option Lo} (ho : o.op = .slice t x lo hi none) (hu : P.underlying t = some (.array n e)) (hz : szOf P e = some s) (hx : lowX x = some y)
    (hlo : lowO lo = some lo') (hhi : lowO hi = some hi') (h : oSliceA n s y lo' hi' a σ = some (v, σ')) (hs : Sim P base σ.h.get ρ W) (ha : AR ρ a A) : HF fl σ.nx σ'.nx σ.h.get σ'.h.get ∧ Does P base fl σ σ' ρ W (execOp A.eval o) v := by
  have h1 := ev_ok ha hx
  obtain ⟨i, i1, i2⟩ := info_size hz
  unfold oSliceA at h
  cases hb : sliceArrH σ n s (a.ev y) (lo'.map a.ev) (hi'.map a.ev) with
  | none => rw [hb] at h; cases h
  | some v' =>
    rw [hb] at h
    cases h
    refine ⟨HF.refl _ _ _, ?_⟩
    unfold sliceArrH at hb
    split at hb
    · rename_i b q e1
      rw [e1] at h1
      obtain ⟨r, hr, hV⟩ := vr_ptr h1
      split at hb
      · rename_i cs m l hg hm hl
        have b1 := bound_some (d := n) ha hhi hm
        have b2 := bound_some (d := 0) ha hlo hl
        revert hb
        cases hc : (Nat.ble l m && Nat.ble m n && Nat.blt l n) with
        | false => intro hb; cases hb
        | true =>
          intro hb
          cases hb
          simp only [Bool.and_eq_true, Nat.ble_eq, Nat.blt_eq] at hc
          obtain ⟨⟨c1, c2⟩, c3⟩ := hc
          obtain ⟨r', C, e', z, hr', _, _, hk⟩ := hs.ok _ _ hg
          rw [hr] at hr'; cases hr'
          have hx0 : r.extra = 0 := hk.2.2
          have hrun := run_boundsA (P := P) (n := n) b1 b2 c1 c2 W
          refine does_value hs (V := .slice (some ⟨r.blk, r.off + (q + l * s), none⟩) (m - l) (n - l + r.extra)) ?_ (.slice hr)
          have e0 : ¬ n = l := by omega
          simp [execOp, ho, Instr.sliceAt, Instr.sureAddr, run_under hu, hV, hrun, run_size i1, i2, e0, add_none, Nat.add_assoc, hx0]
      · cases hb
    · cases hb
theorem op_copy {xs : Array Operand} {y z : Lo} {t0 e : TypeId} {sz : Nat} {ts : Array TypeId} (ho : o.op = .call { callee := .builtin .copy, args := xs, argTypes := ts }) (hx : lowXs xs.toList = some [y, z]) (ht0 : ts[0]? = some t0)
    (hu0 : P.underlying t0 = some (.slice e)) (hsz : szOf P e = some sz)
    (h : oCopy fl sz y z a σ = some (v, σ')) (hs : Sim P base σ.h.get ρ W) (ha : AR ρ a A) (hj : ∀ b x, σ.h.get b = some x → b < σ.nx) :
    HF fl σ.nx σ'.nx σ.h.get σ'.h.get ∧ Does P base fl σ σ' ρ W (execOp A.eval o) v := by
  obtain ⟨x1, x2, e1, hx1, hx2⟩ := lowXs_two hx
  have e1 := arr_two e1
  subst e1
  have h1 := ev_ok ha hx1
  have h2 := ev_ok ha hx2
  obtain ⟨i, i1, i2⟩ := info_size hsz
  have hrunB : ∀ V W', (Builtin.copy_ ts o.type #[A.eval x1, A.eval x2]).run P W = .ok V W' → (execOp A.eval o).run P W = .ok (.value V) W' := fun V W' hr => by
    rw [builtin_call ho]; simp [builtin, hr]
  unfold oCopy copyH at h
  split at h
  · rename_i da dl dc sa sl sc ey ez
    rw [ey] at h1
    rw [ez] at h2
    split at h
    · cases h
    · rename_i news hnews
      obtain ⟨U, hU, hUl, hf1, _⟩ := first_cells (P := P) (n := Nat.min sl dl) (size := sz) (news := news) h2 ⟨_, _, _, rfl, hnews, Nat.min_le_left _ _⟩ hs
      have hlen := lenOf_vr (P := P) h2 W
      have is : i.size = sz := i2
      rw [← is] at hf1
      rcases vr_slices h1 with ⟨rfl, rfl, rfl, hV⟩ | ⟨b, q, r, rfl, hr, hV⟩ | ⟨b, q, a', rfl, rfl, rfl, hV⟩
      case inr.inr =>
        have hm : Nat.min sl 0 = 0 := Nat.min_zero _
        have hnews0 : news = [] := List.length_eq_zero_iff.1 (by rw [hUl, hm, Nat.zero_mul])
        subst hnews0
        cases h
        have hU0 := LR.inv_nil hU
        subst hU0
        rw [hm] at hf1
        refine ⟨HF.refl _ _ _, does_value hs (V := .int .i64 (Nat.min sl 0 : Nat)) (hrunB _ _ ?_) (.int _ _)⟩
        simp [Builtin.copy_, ht0, run_under hu0, hV, hlen, run_size i1, hf1, goInt, storeCells]
      · have hm : Nat.min sl 0 = 0 := Nat.min_zero _
        have hnews0 : news = [] := List.length_eq_zero_iff.1 (by rw [hUl, hm, Nat.zero_mul])
        subst hnews0
        cases h
        rw [hm] at hf1
        refine ⟨HF.refl _ _ _, does_value hs (V := .int .i64 (Nat.min sl 0 : Nat)) (hrunB _ _ ?_) (.int _ _)⟩
        simp [Builtin.copy_, ht0, run_under hu0, hV, hlen, run_size i1, hf1, goInt]
      · by_cases hne : news = []
        · subst hne
          cases h
          have hU0 := LR.inv_nil hU
          subst hU0
          refine ⟨HF.refl _ _ _, does_value hs (V := .int .i64 (Nat.min sl dl : Nat)) (hrunB _ _ ?_) (.int _ _)⟩
          simp [Builtin.copy_, ht0, run_under hu0, hV, hlen, run_size i1, hf1, goInt, storeCells]
        · have h : ((σ.write fl (b, q) news).map fun σ => (HV.int .i64 (Nat.min sl dl : Nat), σ)) = some (v, σ') := by
            cases news with
            | nil => exact absurd rfl hne
            | cons n ns => exact h
          simp only [Option.map_eq_some_iff] at h
          obtain ⟨σ1, hw, he⟩ := h
          cases he
          obtain ⟨e2, r', W', hr', hrun, hpost⟩ := sim_write hs hw hU
          rw [hr] at hr'; cases hr'
          have hup : ∃ y, fl ≤ b ∧ b < σ.nx ∧ σ'.h.get = fun j => if j = b then y else σ.h.get j := by
            unfold HS.write at hw
            split at hw
            · cases hw
            · rename_i hb
              cases hc : (Nat.ble fl b && news.all HV.one) with
              | false => rw [hc] at hw; cases hw
              | true =>
                rw [hc] at hw
                simp only [cond_true, Option.map_eq_some_iff] at hw
                simp only [Bool.and_eq_true, Nat.ble_eq] at hc
                obtain ⟨cs', _, rfl⟩ := hw
                exact ⟨_, hc.1, hj _ _ hb, funext fun j => HS.get_upd σ _ _ j⟩
            · cases hw
          obtain ⟨y, hy1, hy2, hy3⟩ := hup
          refine ⟨by rw [e2, hy3]; exact hf_upd hy1 hy2 (fun _ => rfl), .int .i64 (Nat.min sl dl : Nat), W', ρ, .inl (hrunB _ _ ?_), .int _ _, by rw [e2]; exact hpost⟩
          simp [Builtin.copy_, ht0, run_under hu0, hV, hlen, run_size i1, hf1, goInt, hrun]
  · cases h
end Go.Hx

/- The plain machine and Go's: every operation that calls nothing, in one. -/
namespace Go.Hx
variable {P : Program} {o : Oper}

theorem low_no_defer {op : Op} {l : LOp} (h : lowOp P op = some l) : ∀ c, op ≠ .defer c := by
  intro c e
  subst e
  simp [lowOp] at h
def Plain (P : Program) (o : Oper) (l : LOp) : Prop :=
  ∀ (lp : Nat → Option LFunc) (ex : Ex) (fl : Nat) (a : HAct) (σ σ' : HS) (v : HV), opH lp ex fl l a σ = some (v, σ') → (∀ b x, σ.h.get b = some x → b < σ.nx) →
    ∀ (base : Nat) (ρ : Rho) (A : Act) (W : World), Sim P base σ.h.get ρ W → AR ρ a A → base ≤ W.heap.size → (∀ b, σ.nx ≤ b → b < σ'.nx → ρ b = none) →
    HF fl σ.nx σ'.nx σ.h.get σ'.h.get ∧ Does P base fl σ σ' ρ W (execOp A.eval o) v
theorem plain_of {l : LOp} (h : Plain P o l) : Plain P o l := h
def IsCall (o : Oper) (l : LOp) : Prop := ∃ f args g xs ts, l = .call f args ∧ o.op = .call { callee := .value g, args := xs, argTypes := ts } ∧ lowX g = some f ∧ lowXs xs.toList = some args
theorem op_any {l : LOp} (hl : lowOp P o.op = some l) : IsCall o l ∨ Plain P o l := by
  unfold lowOp at hl
  split at hl
  · rename_i x ho
    simp only [Option.map_eq_some_iff] at hl
    obtain ⟨y, hy, rfl⟩ := hl
    exact .inr (plain_of fun lp ex fl a σ σ' v h hj base ρ A W hs ha hb hn => op_move (.inl ho) hy h hs ha)
  · rename_i x ho
    simp only [Option.map_eq_some_iff] at hl
    obtain ⟨y, hy, rfl⟩ := hl
    exact .inr (plain_of fun lp ex fl a σ σ' v h hj base ρ A W hs ha hb hn => op_move (.inr ho) hy h hs ha)
  · rename_i c x y ho
    split at hl
    · rename_i e1 e2 e3; cases hl
      exact .inr (plain_of fun lp ex fl a σ σ' v h hj base ρ A W hs ha hb hn => op_pick ho e1 e2 e3 h hs ha)
    · cases hl
  · rename_i t ho
    simp only [Option.map_eq_some_iff] at hl
    obtain ⟨z, hz, rfl⟩ := hl
    exact .inr (plain_of fun lp ex fl a σ σ' v h hj base ρ A W hs ha hb hn => op_alloc (a := a) ho hz h hs hb (hn _ (Nat.le_refl _) (by cases h; simp [HS.new])))
  · rename_i t x ho
    simp only [Option.map_eq_some_iff] at hl
    obtain ⟨y, hy, rfl⟩ := hl
    exact .inr (plain_of fun lp ex fl a σ σ' v h hj base ρ A W hs ha hb hn => op_box ho hy h hs ha hb (hn _ (Nat.le_refl _) (by cases h; simp [HS.new])))
  · rename_i t parts ho
    split at hl
    · rename_i fs z hu hz
      cases hall : fs.toList.all (fun f => (szOf P f.type).isSome) with
      | false => rw [hall] at hl; cases hl
      | true =>
        rw [hall] at hl
        simp only [Bool.not_true, cond_false, Option.map_eq_some_iff] at hl
        obtain ⟨ps, hp, rfl⟩ := hl
        exact .inr (plain_of fun lp ex fl a σ σ' v h hj base ρ A W hs ha hb hn => op_build_struct ho hu hz hall hp h hs ha)
    · rename_i n e z hu hz
      split at hl
      · rename_i s hs'
        simp only [Option.map_eq_some_iff] at hl
        obtain ⟨ps, hp, rfl⟩ := hl
        exact .inr (plain_of fun lp ex fl a σ σ' v h hj base ρ A W hs ha hb hn => op_build_array ho hu hz hs' hp h hs ha)
      · cases hl
    · cases hl
  · rename_i t len parts ho
    split at hl
    · rename_i e hu
      split at hl
      · rename_i s z hs' hz
        cases hc : (Nat.ble (len * s) 100000 && Nat.beq z.cells.length s) with
        | false => rw [hc] at hl; cases hl
        | true =>
          rw [hc] at hl
          simp only [cond_true, Option.map_eq_some_iff] at hl
          simp only [Bool.and_eq_true, Nat.ble_eq, Nat.beq_eq] at hc
          obtain ⟨ps, hp, rfl⟩ := hl
          exact .inr (plain_of fun lp ex fl a σ σ' v h hj base ρ A W hs ha hb hn => op_buildSlice ho hu hs' hz hc.1 hc.2 hp h hs ha hb hn)
      · cases hl
    · cases hl
  · rename_i t x ho
    split at hl
    · rename_i n y e1 e2 e3; cases hl
      exact .inr (plain_of fun lp ex fl a σ σ' v h hj base ρ A W hs ha hb hn => op_load ho e1 e2 rfl e3 h hs ha)
    · rename_i n y e1 e2 e3; cases hl
      exact .inr (plain_of fun lp ex fl a σ σ' v h hj base ρ A W hs ha hb hn => op_load ho e1 e2 rfl e3 h hs ha)
    · cases hl
  · rename_i t x w ho
    split at hl
    · rename_i e1 e2 e3; cases hl
      exact .inr (plain_of fun lp ex fl a σ σ' v h hj base ρ A W hs ha hb hn => op_store ho e1 e2 e3 h hs ha hj)
    · cases hl
  · rename_i x ho
    simp only [Option.map_eq_some_iff] at hl
    obtain ⟨y, hy, rfl⟩ := hl
    exact .inr (plain_of fun lp ex fl a σ σ' v h hj base ρ A W hs ha hb hn => op_nilCheck ho hy h hs ha)
  · rename_i op t x y t' ho
    split at hl
    · rename_i e1 e2
      split at hl
      · simp only [Option.map_eq_some_iff] at hl
        obtain ⟨d, hd, rfl⟩ := hl
        exact .inr (plain_of fun lp ex fl a σ σ' v h hj base ρ A W hs ha hb hn => op_eq ho rfl hd e1 e2 h hs ha)
      · simp only [Option.map_eq_some_iff] at hl
        obtain ⟨d, hd, rfl⟩ := hl
        exact .inr (plain_of fun lp ex fl a σ σ' v h hj base ρ A W hs ha hb hn => op_eq ho rfl hd e1 e2 h hs ha)
      · cases hl
        exact .inr (plain_of fun lp ex fl a σ σ' v h hj base ρ A W hs ha hb hn => op_bin ho e1 e2 h hs ha)
    · cases hl
  · rename_i op t x ho
    simp only [Option.map_eq_some_iff] at hl
    obtain ⟨y, hy, rfl⟩ := hl
    exact .inr (plain_of fun lp ex fl a σ σ' v h hj base ρ A W hs ha hb hn => op_un ho hy h hs ha)
  · rename_i s d x ho
    split at hl
    · rename_i e1 e2 e3; cases hl
      exact .inr (plain_of fun lp ex fl a σ σ' v h hj base ρ A W hs ha hb hn => op_convInt ho e1 e2 e3 h hs ha)
    · cases hl
  · rename_i f xs cs ho
    split at hl
    · rename_i e1 e2; cases hl
      exact .inr (plain_of fun lp ex fl a σ σ' v h hj base ρ A W hs ha hb hn => op_makeFunc ho e1 e2 h hs ha)
    · cases hl
  · rename_i t name xs cs ho
    split at hl
    · rename_i e1 e2 e0; cases hl
      have e3 : xs = #[] := by simpa using e2
      have e4 : cs = #[] := by simpa using e0
      subst e3; subst e4
      exact .inr (plain_of fun lp ex fl a σ σ' v h hj base ρ A W hs ha hb hn => op_via ho h hs ha)
    · cases hl
  · rename_i t ho
    cases hl
    exact .inr (plain_of fun lp ex fl a σ σ' v h hj base ρ A W hs ha hb hn => op_makeMap (a := a) ho h hs hb (hn _ (Nat.le_refl _) (by cases h; simp [HS.new])))
  · rename_i t l c ho
    split at hl
    · rename_i e hu
      split at hl
      · rename_i b s z l' c' e1 e2 e3 e4 e5
        rw [cond_beq] at hl
        split at hl
        · rename_i hzl
          cases hl
          refine .inr (plain_of fun lp ex fl a σ σ' v h hj base ρ A W hs ha hb hn => op_makeSlice ho hu e1 e2 e3 hzl e4 e5 h hs ha hb (hn _ (Nat.le_refl _) ?_))
          have h' : oMakeSlice z.cells b l' c' a σ = some (v, σ') := h
          unfold oMakeSlice at h'
          split at h'
          · rename_i m n _ _
            cases hcond : (Nat.ble m n && Nat.ble (n * b) 35184372088832 && Nat.ble n 35184372088832) with
            | false => rw [hcond] at h'; cases h'
            | true => rw [hcond] at h'; cases h'; simp [HS.new]
          · cases h'
        · cases hl
      · cases hl
    · cases hl
  · rename_i t x lo hi ho
    split at hl
    · rename_i e hu
      split at hl
      · rename_i e1 e2 e3 e4; cases hl
        exact .inr (plain_of fun lp ex fl a σ σ' v h hj base ρ A W hs ha hb hn => op_sliceS ho hu e1 e2 e3 e4 h hs ha hn)
      · cases hl
    · rename_i n e hu
      split at hl
      · rename_i e1 e2 e3 e4; cases hl
        exact .inr (plain_of fun lp ex fl a σ σ' v h hj base ρ A W hs ha hb hn => op_sliceA ho hu e1 e2 e3 e4 h hs ha)
      · cases hl
    · cases hl
  · rename_i t x f ho
    split at hl
    · rename_i fs hu
      split at hl
      · rename_i fd hf
        split at hl
        · rename_i e1 e2; cases hl
          exact .inr (plain_of fun lp ex fl a σ σ' v h hj base ρ A W hs ha hb hn => op_fieldAddr ho hu hf e1 e2 h hs ha)
        · cases hl
      · cases hl
    · cases hl
  · rename_i t x f ho
    split at hl
    · rename_i fs hu
      split at hl
      · rename_i fd hf
        split at hl
        · rename_i e1 e2 e3; cases hl
          exact .inr (plain_of fun lp ex fl a σ σ' v h hj base ρ A W hs ha hb hn => op_field ho hu hf e1 e2 e3 h hs ha)
        · cases hl
      · cases hl
    · cases hl
  · rename_i t x i ho
    split at hl
    · rename_i e hu
      split at hl
      · rename_i e1 e2 e3; cases hl
        exact .inr (plain_of fun lp ex fl a σ σ' v h hj base ρ A W hs ha hb hn => op_indexAddrS ho hu e1 e2 e3 h hs ha)
      · cases hl
    · rename_i len e hu
      split at hl
      · rename_i e1 e2 e3; cases hl
        exact .inr (plain_of fun lp ex fl a σ σ' v h hj base ρ A W hs ha hb hn => op_indexAddrA ho hu e1 e2 e3 h hs ha)
      · cases hl
    · cases hl
  · rename_i t x i ho
    split at hl
    · rename_i len e hu
      split at hl
      · rename_i e1 e2 e3 e4; cases hl
        exact .inr (plain_of fun lp ex fl a σ σ' v h hj base ρ A W hs ha hb hn => op_indexA ho hu e1 e2 e3 e4 h hs ha)
      · cases hl
    · cases hl
  · rename_i t m k ok ho
    split at hl
    · rename_i kt e hu
      split at hl
      · rename_i e1 e2 e3 e4; cases hl
        exact .inr (plain_of fun lp ex fl a σ σ' v h hj base ρ A W hs ha hb hn => op_lookup ho hu e1 e2 e3 e4 h hs ha)
      · cases hl
    · cases hl
  · rename_i t m k w ho
    split at hl
    · rename_i kt e hu
      split at hl
      · rename_i e1 e2 e3 e4; cases hl
        exact .inr (plain_of fun lp ex fl a σ σ' v h hj base ρ A W hs ha hb hn => op_mapUpdate (.inl ho) hu e1 e2 e3 e4 h hs ha hj)
      · cases hl
    · cases hl
  · rename_i t m k w ho
    split at hl
    · rename_i kt e hu
      split at hl
      · rename_i e1 e2 e3 e4; cases hl
        exact .inr (plain_of fun lp ex fl a σ σ' v h hj base ρ A W hs ha hb hn => op_mapUpdate (.inr ho) hu e1 e2 e3 e4 h hs ha hj)
      · cases hl
    · cases hl
  · rename_i x i ho
    simp only [Option.map_eq_some_iff] at hl
    obtain ⟨y, hy, rfl⟩ := hl
    exact .inr (plain_of fun lp ex fl a σ σ' v h hj base ρ A W hs ha hb hn => op_extract ho hy h hs ha)
  · rename_i f xs ts ho
    split at hl
    · rename_i e1 e2; cases hl
      exact .inl ⟨_, _, f, xs, ts, rfl, ho, e1, e2⟩
    · cases hl
  · rename_i b xs ts ho
    split at hl
    · rename_i y t e1 e2
      split at hl
      · rename_i hu; cases hl
        exact .inr (plain_of fun lp ex fl a σ σ' v h hj base ρ A W hs ha hb hn => op_len (k := .str) ho e1 e2 hu h hs ha)
      · rename_i hu; cases hl
        exact .inr (plain_of fun lp ex fl a σ σ' v h hj base ρ A W hs ha hb hn => op_len (k := .slice) ho e1 e2 ⟨_, hu⟩ h hs ha)
      · rename_i hu; cases hl
        exact .inr (plain_of fun lp ex fl a σ σ' v h hj base ρ A W hs ha hb hn => op_len (k := .map) ho e1 e2 ⟨_, _, hu⟩ h hs ha)
      · cases hl
    · rename_i y t e1 e2
      split at hl
      · rename_i hu; cases hl
        exact .inr (plain_of fun lp ex fl a σ σ' v h hj base ρ A W hs ha hb hn => op_cap ho e1 e2 hu h hs ha)
      · cases hl
    · rename_i ys e1; cases hl
      exact .inr (plain_of fun lp ex fl a σ σ' v h hj base ρ A W hs ha hb hn => op_min ho e1 h hs ha)
    · rename_i ys e1; cases hl
      exact .inr (plain_of fun lp ex fl a σ σ' v h hj base ρ A W hs ha hb hn => op_max ho e1 h hs ha)
    · rename_i y z t e1 e2
      split at hl
      · rename_i e e' hu0 hu1
        simp only [Option.bind_eq_some_iff] at hu1
        obtain ⟨t1, ht1, hu1⟩ := hu1
        split at hl
        · rename_i sz by_ zv e3 e4 e5
          rw [cond_beq] at hl
          split at hl
          · rename_i hzl
            cases hl
            exact .inr (plain_of fun lp ex fl a σ σ' v h hj base ρ A W hs ha hb hn => op_append ho e1 e2 ht1 hu0 hu1 e3 e4 e5 hzl h hs ha hb hn hj)
          · cases hl
        · cases hl
      · rename_i e k hu0 hu1
        simp only [Option.bind_eq_some_iff] at hu1
        obtain ⟨t1, ht1, hu1⟩ := hu1
        split at hl
        · rename_i sz by_ zv e3 e4 e5
          rw [cond_beq] at hl
          split at hl
          · rename_i hzl
            cases hl
            exact .inr (plain_of fun lp ex fl a σ σ' v h hj base ρ A W hs ha hb hn => op_appendZ ho e1 e2 ht1 hu0 hu1 e3 e4 e5 hzl h hs ha hb hn)
          · cases hl
        · cases hl
      · cases hl
    · rename_i t e1 e2
      split at hl
      · rename_i e hu0
        simp only [Option.map_eq_some_iff] at hl
        obtain ⟨sz, e3, rfl⟩ := hl
        exact .inr (plain_of fun lp ex fl a σ σ' v h hj base ρ A W hs ha hb hn => op_copy ho e1 e2 hu0 e3 h hs ha hj)
      · cases hl
    · cases hl
  · cases hl
end Go.Hx

/- The plain machine and Go's: calls of functions, rounds of ranges over functions, and what a function hands back. -/
namespace Go.Hx
variable {P : Program}

def FR (R : Option Nat) : Fence := { Fence.wide with round := R }
def exitOf : HExit → Exit
  | .normal => .normal
  | .exit id => .exit id
  | .ret => .ret
def RdOk (ρ : Rho) : Option Nat → Option Nat → Prop
  | none, none => True
  | some l, some L => ∃ r, ρ l = some r ∧ r.blk = L
  | _, _ => False
theorem RdOk.mono {ρ ρ' : Rho} (hle : Rho.le ρ ρ') {rd R : Option Nat} (h : RdOk ρ rd R) : RdOk ρ' rd R := by
  cases rd <;> cases R <;> first | trivial | exact h | (obtain ⟨r, h1, h2⟩ := h; exact ⟨r, hle _ _ h1, h2⟩)
def Dom (σ : HS) : Prop := ∀ b x, σ.h.get b = some x → b < σ.nx
theorem HF.dom {fl : Nat} {σ σ' : HS} (h : HF fl σ.nx σ'.nx σ.h.get σ'.h.get) (hd : Dom σ) : Dom σ' := fun b x hx => by
  by_cases hb : b < σ'.nx
  · exact hb
  · rw [h.high b (by omega)] at hx
    have := hd b x hx
    have := h.le
    omega
/-- What is asked of a world before a run. -/
structure In (P : Program) (base : Nat) (σ σ' : HS) (ρ : Rho) (W : World) : Prop where
  low : base ≤ W.heap.size
  sim : Sim P base σ.h.get ρ W
  fresh : ∀ b, σ.nx ≤ b → b < σ'.nx → ρ b = none
abbrev PostS (P : Program) (base fl : Nat) (σ σ' : HS) (ρ ρ' : Rho) (W W' : World) : Prop := Post P base fl σ.nx σ'.nx σ.h.get σ'.h.get ρ ρ' W W'
abbrev HFS (fl : Nat) (σ σ' : HS) : Prop := HF fl σ.nx σ'.nx σ.h.get σ'.h.get
theorem In.next {base fl : Nat} {σ σ1 σ' : HS} {ρ ρ1 : Rho} {W W1 : World} (h : In P base σ σ' ρ W) (p : PostS P base fl σ σ1 ρ ρ1 W W1) (hf : σ.nx ≤ σ1.nx) : In P base σ1 σ' ρ1 W1 :=
  ⟨Nat.le_trans h.low p.size, p.sim, fun b h1 h2 => by rw [p.out b (.inr h1)]; exact h.fresh b (by omega) h2⟩
theorem In.less {base : Nat} {σ σ1 σ' : HS} {ρ : Rho} {W : World} (h : In P base σ σ' ρ W) (hn : σ1.nx ≤ σ'.nx) : In P base σ σ1 ρ W :=
  ⟨h.low, h.sim, fun b h1 h2 => h.fresh b h1 (by omega)⟩

def ExSound (P : Program) (ex : Ex) : Prop :=
  ∀ (c : Code) (fl : Nat) (rd : Option Nat) (a : HAct) (σ : HS) (e : HExit) (a' : HAct) (σ' : HS), ex fl rd (lowC P c) a σ = some (e, a', σ') → Dom σ →
    ∀ (base : Nat) (ρ : Rho) (A : Act) (W : World) (R : Option Nat), In P base σ σ' ρ W → AR ρ a A → RdOk ρ rd R →
      HFS fl σ σ' ∧ c.wpIn (FR R) 0 P (fun E A' W' => ∃ ρ', PostS P base fl σ σ' ρ ρ' W W' ∧ E = exitOf e ∧ AR ρ' a' A') A W
def ExLe (ex : Ex) : Prop := ∀ (fl : Nat) (rd : Option Nat) (lc : LCode) (a : HAct) (σ : HS) (e : HExit) (a' : HAct) (σ' : HS), ex fl rd lc a σ = some (e, a', σ') → σ.nx ≤ σ'.nx
/-- The lowered functions are the program's. -/
def SpecOk (P : Program) (f : Nat) (g : List HV → HS → Option (HV × HS)) : Prop := ∀ (args : List HV) (σ : HS) (v : HV) (σ' : HS), g args σ = some (v, σ') → Dom σ → ∀ (fl base : Nat) (ρ : Rho) (Args : Array Value) (W : World), In P base σ σ' ρ W → LR ρ args Args.toList →
  HFS fl σ σ' ∧ (∃ fn, P.funcs[f]? = some fn ∧ fn.body.isSome = true ∧ (fn.name == "runtime.NumGoroutine") = false) ∧
  CallsIn (FR none) 0 P f Args W (fun E W' => ∃ V ρ', E = .returned V ∧ VR ρ' v V ∧ PostS P base fl σ σ' ρ ρ' W W')
def LpOk (P : Program) (lp : Nat → Option LFunc) : Prop := ∀ f lf, lp f = some lf → (∀ g, lf.spec = some g → SpecOk P f g) ∧ (lf.spec = none → ∃ fn c, P.funcs[f]? = some fn ∧ fn.body = some c ∧ (fn.name == "runtime.NumGoroutine") = false ∧ lf.nt = fn.ntmps ∧ lf.body = lowC P c ∧ lowRes P fn.results.toList = some lf.res) ∧ (∀ t name r, lf.via t name = some r → viaOff P t name = some r)
theorem lowP_ok {imps : List Nat} : LpOk P (lowP P imps) := by
  intro f lf h
  simp only [lowP, Option.bind_eq_some_iff] at h
  obtain ⟨fn, h1, h2⟩ := h
  unfold lowF at h2
  split at h2
  · rename_i c rs h3 h4
    cases hn : (fn.name == "runtime.NumGoroutine") with
    | true => rw [hn] at h2; cases h2
    | false => rw [hn] at h2; cases h2; exact ⟨fun g hg => (by cases hg), fun _ => ⟨fn, c, h1, h3, hn, rfl, rfl, h4⟩, fun _ _ _ h => h⟩
  · cases h2

/-! entering -/
theorem putAll_get : ∀ (vs : List HV) (t : Tr HV) (i j : Nat), (putAll t i vs).get j = if i ≤ j ∧ j < i + vs.length then vs[j - i]? else t.get j
  | [], t, i, j => by simp only [putAll, List.length_nil]; rw [if_neg (by omega)]
  | v :: vs, t, i, j => by
    simp only [putAll, putAll_get vs, Tr.get_set, List.length_cons]
    by_cases e : j = i
    · subst e; rw [if_neg (by omega), if_pos rfl, if_pos (by omega)]; simp
    · by_cases h : i + 1 ≤ j ∧ j < i + 1 + vs.length
      · rw [if_pos h, if_pos (by omega)]
        have : j - i = (j - (i + 1)) + 1 := by omega
        rw [this]; simp
      · rw [if_neg h, if_neg e, if_neg (by omega)]
theorem ar_enter {ρ : Rho} {args : List HV} {Args : Array Value} {nt : Nat} (h : LR ρ args Args.toList) :
    AR ρ ⟨Nat.max nt args.length, putAll .e 0 args, []⟩ { tmps := Args ++ Array.replicate (nt - Args.size) Go.undef, defers := [] } := by
  have hl : args.length = Args.size := by have := h.1; simpa using this
  refine ⟨⟨?_, fun t => ?_⟩, rfl, fun m hm => by cases hm⟩
  · simp only [Array.size_append, Array.size_replicate]
    show _ = max nt args.length
    omega
  · rw [putAll_get]
    by_cases ht : t < args.length
    · rw [if_pos (by omega)]
      have h1 : args[t - 0]? = some args[t] := by simp [ht]
      have h2 : Args.toList[t]? = some Args[t] := by simp [hl ▸ ht]
      rw [h1]
      have : (Args ++ Array.replicate (nt - Args.size) Go.undef).getD t Go.undef = Args[t] := by
        simp [Array.getD_eq_getD_getElem?, Array.getElem?_append, hl ▸ ht]
      rw [this]
      exact h.2 t _ _ (by simpa using h1) h2
    · rw [if_neg (by omega), Tr.get_e]
      have : (Args ++ Array.replicate (nt - Args.size) Go.undef).getD t Go.undef = Go.undef := by
        rw [Array.getD_eq_getD_getElem?, Array.getElem?_append, if_neg (by omega), Array.getElem?_replicate]
        split <;> rfl
      rw [this]
      exact VR.undef ρ

/-! leaving -/
theorem take_marks {base fl : Nat} {ρ : Rho} {fn : Func} {T : Array Value} {R : Ending → World → Prop} : ∀ (ms : List Nat) (σ σ' : HS) (W : World), takeMarks fl ms σ = some σ' → Dom σ → Sim P base σ.h.get ρ W →
    (∀ m ∈ ms, (ρ m).isSome = true) → HFS fl σ σ' ∧ σ'.nx = σ.nx ∧ ∃ W', PostS P base fl σ σ' ρ ρ W W' ∧ ((LeavesInM (FR none) 0 P fn T R [] .returning W') → LeavesInM (FR none) 0 P fn T R (ms.map fun m => ⟨.collected ((ρ m).elim 0 RI.blk), #[]⟩) .returning W)
  | [], σ, σ', W, h, hd, hs, hm => by
    cases h
    exact ⟨HF.refl _ _ _, rfl, W, Post.refl hs, fun h => h⟩
  | m :: ms, σ, σ', W, h, hd, hs, hm => by
    unfold takeMarks at h
    split at h
    · rename_i hmk
      cases hfl : Nat.ble fl m with
      | false => rw [hfl] at h; cases h
      | true =>
        rw [hfl] at h
        simp only [cond_true] at h
        have hfl := Nat.le_of_ble_eq_true hfl
        obtain ⟨r, hr, hw, hbase⟩ := hs.ok _ _ hmk
        have hlt := (Array.getElem?_eq_some_iff.1 hw).1
        have p1 : PostS P base fl σ (σ.upd m none) ρ ρ W (W.putObj r.blk (.deferred none)) :=
          post_upd hs hmk rfl hfl hr (HS.get_upd σ _ _) rfl rfl rfl (frz_put hw rfl) (by simp) (fun k _ hk => World.putObj_heap_other hk) (fun z hz => by cases hz)
        have f1 : HFS fl σ (σ.upd m none) := hf_upd hfl (hd _ _ hmk) (HS.get_upd σ _ _)
        obtain ⟨f2, e2, W', p2, hl⟩ := take_marks ms (σ.upd m none) σ' _ h (f1.dom hd) p1.sim (fun m hm' => hm m (List.mem_cons_of_mem _ hm'))
        refine ⟨f1.trans f2, e2, W', Post.trans f1.le f2.le p1 p2, fun h => ?_⟩
        simp only [List.map_cons, LeavesInM]
        refine ⟨by simp, .inl ⟨r.blk, _, by simp [hr], run_takeDeferred hw, hl h⟩⟩
    · cases h
def resOne (T : Array Value) : ResultVar → Sem Value
  | .tmp t => pure (T.getD t Go.undef)
  | .cell a t => do loadVar t (← asAddr (T.getD a Go.undef))
theorem results_eq (fn : Func) (T : Array Value) : results fn T = (do let vs ← fn.results.mapM (resOne T); pure (if h : vs.size = 1 then vs[0] else .tuple vs)) := rfl
theorem res_ok {base : Nat} {σ : HS} {ρ : Rho} {W : World} {a : HAct} {T : Array Value} (hs : Sim P base σ.h.get ρ W) (ht : ∀ t, VR ρ (a.tmp t) (T.getD t Go.undef)) : ∀ (rs : List ResultVar) (lrs : List LRes) (vs : List HV), lowRes P rs = some lrs → resH a σ lrs = some vs →
    ∃ U : List Value, LR ρ vs U ∧ (rs.mapM (resOne T)).run P W = .ok U W
  | [], lrs, vs, h1, h2 => by
    cases h1
    cases h2
    exact ⟨[], LR.nil ρ, by simp⟩
  | .tmp t :: rs, lrs, vs, h1, h2 => by
    simp only [lowRes, Option.map_eq_some_iff] at h1
    obtain ⟨lrs', h1, rfl⟩ := h1
    unfold resH at h2
    split at h2
    · rename_i vs' h3
      cases h2
      obtain ⟨U, hU, hr⟩ := res_ok hs ht rs lrs' vs' h1 h3
      exact ⟨_ :: U, LR.cons (ht t) hU, by simp only [List.mapM_cons, resOne, Sem.run_bind, Sem.run_pure, Result.andThen_ok, hr]⟩
    · cases h2
  | .cell x t :: rs, lrs, vs, h1, h2 => by
    have key : ∀ (g : Bool) (n0 : Nat) (lrs' : List LRes), aggOf P t = some g → szOf P t = some n0 → lowRes P rs = some lrs' → lrs = .cell x g (if g then n0 else 1) :: lrs' →
        ∃ U : List Value, LR ρ vs U ∧ ((ResultVar.cell x t :: rs).mapM (resOne T)).run P W = .ok U W := by
      intro g n0 lrs' hg hz hl he
      subst he
      unfold resH at h2
      split at h2
      · rename_i p hp
        obtain ⟨b, q⟩ := p
        have hx := ht x
        rw [hp] at hx
        obtain ⟨r, hr, hV⟩ := vr_ptr hx
        split at h2
        · rename_i cs vs' hc h3
          split at h2
          · rename_i w hw
            cases h2
            obtain ⟨U, hU, hrun⟩ := res_ok hs ht rs lrs' vs' hl h3
            obtain ⟨r', C, hr', hC, hl1, hl2, hcell⟩ := sim_read hs hc
            rw [hr] at hr'; cases hr'
            obtain ⟨i, hi, hi2⟩ := info_size hz
            cases g with
            | true =>
              have hw : w = .agg cs := by simpa [whole] using hw.symm
              subst hw
              have hl1 : C.length = n0 := hl1
              refine ⟨.agg C.toArray :: U, LR.cons (VR.aggL hC) hU, ?_⟩
              have h0 : (resOne T (.cell x t)).run P W = .ok (.agg C.toArray) W := by
                simp only [resOne, Sem.run_bind, hV, asAddr, Sem.run_pure, Result.andThen_ok, loadVar, run_agg hg, if_true, run_size hi, hi2, run_loadCells_of hl1 hcell]
              simp only [List.mapM_cons, Sem.run_bind, h0, Sem.run_pure, Result.andThen_ok, hrun]
            | false =>
              have hw : ∃ u, cs = [u] ∧ u = w := by
                rcases cs with _ | ⟨u, _ | ⟨u2, rest⟩⟩
                · simp [whole] at hw
                · exact ⟨u, rfl, by simpa [whole] using hw⟩
                · simp [whole] at hw
              obtain ⟨u, rfl, rfl⟩ := hw
              obtain ⟨u', C', rfl, hv, _⟩ := LR.inv hC
              have hcell0 := hcell 0 u' rfl
              refine ⟨u' :: U, LR.cons hv hU, ?_⟩
              have h0 : (resOne T (.cell x t)).run P W = .ok u' W := by
                simp only [resOne, Sem.run_bind, hV, asAddr, Sem.run_pure, Result.andThen_ok, loadVar, run_agg hg, Bool.false_eq_true, if_false, run_load, show W.cell? ⟨r.blk, r.off + q, none⟩ = some u' from hcell0]
              simp only [List.mapM_cons, Sem.run_bind, h0, Sem.run_pure, Result.andThen_ok, hrun]
          · cases h2
        · cases h2
      · cases h2
    unfold lowRes at h1
    split at h1
    · rename_i n rs' e1 e2 e3; cases h1; exact key true n rs' e1 e2 e3 rfl
    · rename_i n rs' e1 e2 e3; cases h1; exact key false n rs' e1 e2 e3 rfl
    · cases h1
theorem results_ok {base : Nat} {σ : HS} {ρ : Rho} {W : World} {a : HAct} {T : Array Value} {fn : Func} {lrs : List LRes} {vs : List HV} (hs : Sim P base σ.h.get ρ W) (ht : ∀ t, VR ρ (a.tmp t) (T.getD t Go.undef)) (h1 : lowRes P fn.results.toList = some lrs) (h2 : resH a σ lrs = some vs) :
    ∃ V, (results fn T).run P W = .ok V W ∧ VR ρ (oneOf vs) V := by
  obtain ⟨U, hU, hr⟩ := res_ok hs ht _ _ _ h1 h2
  have hr' : (fn.results.mapM (resOne T)).run P W = .ok U.toArray W := by
    rw [Array.mapM_eq_mapM_toList]
    simp only [Sem.run_map, hr, Result.andThen_ok]
  have hr2 : (results fn T).run P W = .ok (if h : U.toArray.size = 1 then U.toArray[0] else .tuple U.toArray) W := by
    rw [results_eq]
    simp only [Sem.run_bind, hr', Result.andThen_ok, Sem.run_pure]
  refine ⟨_, hr2, ?_⟩
  have hlen := hU.1
  rcases vs with _ | ⟨v, _ | ⟨v2, vs⟩⟩
  · rw [dif_neg (by simp at hlen; simp [← hlen])]
    exact VR.tupleL hU
  · obtain ⟨u, U', rfl, hu, hU'⟩ := LR.inv hU
    have := LR.inv_nil hU'
    subst this
    simpa [oneOf] using hu
  · rw [dif_neg (by simp at hlen; simp [← hlen])]
    exact VR.tupleL hU
end Go.Hx

/- The plain machine and Go's: a function called, a round run. -/
namespace Go.Hx
variable {P : Program} {lp : Nat → Option LFunc} {ex : Ex}

theorem takeMarks_nx {fl : Nat} : ∀ (ms : List Nat) (σ σ' : HS), takeMarks fl ms σ = some σ' → σ'.nx = σ.nx
  | [], σ, σ', h => by cases h; rfl
  | m :: ms, σ, σ', h => by
    unfold takeMarks at h
    split at h
    · cases hfl : Nat.ble fl m with
      | false => rw [hfl] at h; cases h
      | true => rw [hfl] at h; exact (takeMarks_nx ms _ σ' h).trans rfl
    · cases h
theorem leave_some {fl : Nat} {a : HAct} {res : List LRes} {σ σ' : HS} {v : HV} (h : leaveH fl a res σ = some (v, σ')) : ∃ vs, takeMarks fl a.defers σ = some σ' ∧ resH a σ' res = some vs ∧ v = oneOf vs := by
  unfold leaveH at h
  split at h
  · rename_i σ1 h1
    split at h
    · rename_i vs h2; cases h; exact ⟨vs, h1, h2, rfl⟩
    · cases h
  · cases h
theorem callB_le (hle : ExLe ex) {fl : Nat} {lf : LFunc} {args : List HV} {σ σ' : HS} {v : HV} (h : callB ex fl lf args σ = some (v, σ')) : σ.nx ≤ σ'.nx := by
  unfold callB at h
  split at h
  · rename_i hrun
    obtain ⟨vs, hm, _, _⟩ := leave_some h
    rw [takeMarks_nx _ _ _ hm]; exact hle _ _ _ _ _ _ _ _ hrun
  · rename_i hrun
    obtain ⟨vs, hm, _, _⟩ := leave_some h
    rw [takeMarks_nx _ _ _ hm]; exact hle _ _ _ _ _ _ _ _ hrun
  · cases h
theorem specH_some {g : List HV → HS → Option (HV × HS)} {args : List HV} {σ σ' : HS} {v : HV} (h : specH g args σ = some (v, σ')) : g args σ = some (v, σ') ∧ σ.nx ≤ σ'.nx := by
  unfold specH at h
  split at h
  · rename_i v1 σ1 h1
    cases hb : Nat.ble σ.nx σ1.nx with
    | false => rw [hb] at h; cases h
    | true => rw [hb] at h; cases h; exact ⟨h1, Nat.le_of_ble_eq_true hb⟩
  · cases h
theorem specH_le {g : List HV → HS → Option (HV × HS)} {args : List HV} {σ σ' : HS} {v : HV} (h : specH g args σ = some (v, σ')) : σ.nx ≤ σ'.nx := (specH_some h).2
theorem callF_le (hle : ExLe ex) {fl f : Nat} {args : List HV} {σ σ' : HS} {v : HV} (h : callF lp ex fl f args σ = some (v, σ')) : σ.nx ≤ σ'.nx := by
  unfold callF at h
  split at h
  · cases h
  · rename_i lf _
    split at h
    · exact specH_le h
    cases hi : lf.imp with
    | true => rw [hi] at h; exact callB_le hle h
    | false =>
      rw [hi] at h
      simp only [cond_false] at h
      split at h
      · rename_i v1 σ1 h1; cases h; have := callB_le hle h1; exact this
      · cases h
theorem callB_sound (hlp : LpOk P lp) (hle : ExLe ex) (hex : ExSound P ex) {fl f : Nat} {lf : LFunc} (hlf : lp f = some lf) (hsp : lf.spec = none) {args : List HV} {σ σ' : HS} {v : HV} (h : callB ex fl lf args σ = some (v, σ')) (hd : Dom σ) :
    ∀ (base : Nat) (ρ : Rho) (Args : Array Value) (W : World), In P base σ σ' ρ W → LR ρ args Args.toList →
      HFS fl σ σ' ∧ (∃ fn, P.funcs[f]? = some fn ∧ fn.body.isSome = true ∧ (fn.name == "runtime.NumGoroutine") = false) ∧
      CallsIn (FR none) 0 P f Args W (fun E W' => ∃ V ρ', E = .returned V ∧ VR ρ' v V ∧ PostS P base fl σ σ' ρ ρ' W W') := by
  unfold callB at h
  · obtain ⟨fn, c, hf, hb, hname, hnt, hbody, hres⟩ := (hlp f lf hlf).2.1 hsp
    have key : ∀ (e : HExit) (a : HAct) (σ1 : HS), ex fl none lf.body ⟨Nat.max lf.nt args.length, putAll .e 0 args, []⟩ σ = some (e, a, σ1) → (exitOf e = .normal ∨ exitOf e = .ret) → leaveH fl a lf.res σ1 = some (v, σ') →
        ∀ (base : Nat) (ρ : Rho) (Args : Array Value) (W : World), In P base σ σ' ρ W → LR ρ args Args.toList →
          HFS fl σ σ' ∧ (∃ fn, P.funcs[f]? = some fn ∧ fn.body.isSome = true ∧ (fn.name == "runtime.NumGoroutine") = false) ∧
          CallsIn (FR none) 0 P f Args W (fun E W' => ∃ V ρ', E = .returned V ∧ VR ρ' v V ∧ PostS P base fl σ σ' ρ ρ' W W') := by
      intro e a σ1 hrun he hl
      obtain ⟨vs, hm, hr, rfl⟩ := leave_some hl
      have hnx := takeMarks_nx _ _ _ hm
      have hle1 := hle _ _ _ _ _ _ _ _ hrun
      rw [hbody] at hrun
      have hsound := hex c fl none _ σ e a σ1 hrun hd
      intro base ρ Args W hin hargs
      have hin1 := hin.less (σ1 := σ1) (by omega)
      rw [hnt] at hsound
      obtain ⟨hf1, hwp⟩ := hsound base ρ _ W none hin1 (ar_enter hargs) trivial
      have hd1 := hf1.dom hd
      have hff : HFS fl σ σ' := by
        -- the marks are taken in a world that the run leads to; of the store alone this says the same
        have : ∀ (ms : List Nat) (s s' : HS), takeMarks fl ms s = some s' → Dom s → HFS fl s s' := by
          intro ms
          induction ms with
          | nil => intro s s' h _; cases h; exact HF.refl _ _ _
          | cons m ms ih =>
            intro s s' h hds
            unfold takeMarks at h
            split at h
            · rename_i hmk
              cases hfl : Nat.ble fl m with
              | false => rw [hfl] at h; cases h
              | true =>
                rw [hfl] at h
                have f1 : HFS fl s (s.upd m none) := hf_upd (Nat.le_of_ble_eq_true hfl) (hds _ _ hmk) (HS.get_upd s _ _)
                exact f1.trans (ih _ _ h (f1.dom hds))
            · cases h
        exact hf1.trans (this _ _ _ hm hd1)
      refine ⟨hff, ⟨fn, hf, by simp [hb], hname⟩, ?_⟩
      refine callsIn_of_wp_marks hf hb trivial (wpIn_mono hwp ?_)
      rintro E A' W' ⟨ρ', hp, rfl, ha⟩
      have leave : LeavesInM (FR none) 0 P fn A'.tmps (fun E W' => ∃ V ρ', E = .returned V ∧ VR ρ' (oneOf vs) V ∧ PostS P base fl σ σ' ρ ρ' W W') A'.defers .returning W' := by
        rw [ha.defers]
        obtain ⟨g1, g2, W2, g3, g4⟩ := take_marks (fn := fn) (T := A'.tmps) (R := fun E W' => ∃ V ρ', E = .returned V ∧ VR ρ' (oneOf vs) V ∧ PostS P base fl σ σ' ρ ρ' W W') a.defers σ1 σ' W' hm hd1 hp.sim ha.marks
        refine g4 ?_
        obtain ⟨V, hV, hv⟩ := results_ok (fn := fn) g3.sim ha.tmps.2 hres hr
        exact ⟨V, hV, V, ρ', rfl, hv, Post.trans hf1.le g1.le hp g3⟩
      rcases he with he | he <;> rw [he] <;> exact leave
    split at h
    · rename_i a σ1 hrun
      exact key .normal a σ1 hrun (.inl rfl) h
    · rename_i a σ1 hrun
      exact key .ret a σ1 hrun (.inr rfl) h
    · cases h

def Kept (h1 : Tr HBlk) (nx : Nat) (h h' : Tr HBlk) : Prop := ∀ b, (b < nx → h'.get b = h.get b) ∧ ∀ x, h'.get b = some x → h.get b = some x ∨ (nx ≤ b ∧ h1.get b = some x)
theorem Kept.refl (h1 : Tr HBlk) (nx : Nat) (h : Tr HBlk) : Kept h1 nx h h := fun _ => ⟨fun _ => rfl, fun _ hx => .inl hx⟩
theorem Kept.trans {h1 : Tr HBlk} {nx : Nat} {h h' h'' : Tr HBlk} (a : Kept h1 nx h h') (c : Kept h1 nx h' h'') : Kept h1 nx h h'' := fun b =>
  ⟨fun hb => ((c b).1 hb).trans ((a b).1 hb), fun x hx => by
    rcases (c b).2 x hx with h3 | h3
    · exact (a b).2 x h3
    · exact .inr h3⟩
theorem kept_put {h1 : Tr HBlk} {nx : Nat} (h : Tr HBlk) {c : Nat} {y : HBlk} (hc : Nat.blt c nx = false) (hy : h1.get c = some y) : Kept h1 nx h (h.set c (some y)) := by
  have hc' : nx ≤ c := by
    rcases Nat.lt_or_ge c nx with hlt | hge
    · rw [← Nat.blt_eq] at hlt; rw [hlt] at hc; cases hc
    · exact hge
  intro b
  rw [Tr.get_set]
  by_cases e : b = c
  · subst e; exact ⟨fun hb => by omega, fun x hx => by rw [if_pos rfl] at hx; cases hx; exact .inr ⟨hc', hy⟩⟩
  · rw [if_neg e]; exact ⟨fun _ => rfl, fun x hx => .inl hx⟩
theorem kept_v (h1 : Tr HBlk) (nx : Nat) {k : List HV → Tr HBlk → Tr HBlk} (hk : ∀ vs h, Kept h1 nx h (k vs h)) (h : Tr HBlk) (v : HV) : Kept h1 nx h (keepV h1 nx k h v) := by
  unfold keepV
  split
  · rename_i c _ _ _
    cases hc : Nat.blt c nx with
    | true => exact Kept.refl _ _ _
    | false =>
      simp only [cond_false]
      split
      · rename_i hg; exact (kept_put h hc hg).trans (hk _ _)
      · exact Kept.refl _ _ _
  · rename_i c _
    cases hc : Nat.blt c nx with
    | true => exact Kept.refl _ _ _
    | false =>
      simp only [cond_false]
      split
      · rename_i hg; exact (kept_put h hc hg).trans (hk _ _)
      · exact Kept.refl _ _ _
  · rename_i c
    cases hc : Nat.blt c nx with
    | true => exact Kept.refl _ _ _
    | false =>
      simp only [cond_false]
      split
      · rename_i hg; exact (kept_put h hc hg).trans (hk _ _)
      · exact Kept.refl _ _ _
  · exact hk _ _
  · exact hk _ _
  · exact hk _ _
  · exact Kept.refl _ _ _
theorem kept_d (h1 : Tr HBlk) (nx : Nat) : ∀ (d : Nat) (vs : List HV) (h : Tr HBlk), Kept h1 nx h (keepD h1 nx d vs h)
  | 0, vs, h => Kept.refl _ _ _
  | d + 1, [], h => Kept.refl _ _ _
  | d + 1, v :: vs, h => by
    unfold keepD
    rw [List.foldl_cons]
    exact (kept_v h1 nx (kept_d h1 nx d) h v).trans (kept_d h1 nx (d + 1) vs _)
theorem callF_sound (hlp : LpOk P lp) (hle : ExLe ex) (hex : ExSound P ex) {fl f : Nat} {args : List HV} {σ σ' : HS} {v : HV} (h : callF lp ex fl f args σ = some (v, σ')) (hd : Dom σ) :
    ∀ (base : Nat) (ρ : Rho) (Args : Array Value) (W : World), In P base σ σ' ρ W → LR ρ args Args.toList →
      HFS fl σ σ' ∧ (∃ fn, P.funcs[f]? = some fn ∧ fn.body.isSome = true ∧ (fn.name == "runtime.NumGoroutine") = false) ∧
      CallsIn (FR none) 0 P f Args W (fun E W' => ∃ V ρ', E = .returned V ∧ VR ρ' v V ∧ PostS P base fl σ σ' ρ ρ' W W') := by
  unfold callF at h
  split at h
  · cases h
  · rename_i lf hlf
    split at h
    · rename_i g hg
      intro base ρ Args W hin hargs
      exact (hlp f lf hlf).1 g hg args σ v σ' (specH_some h).1 hd fl base ρ Args W hin hargs
    rename_i hsp
    cases hi : lf.imp with
    | true => rw [hi] at h; exact callB_sound hlp hle hex hlf hsp h hd
    | false =>
      rw [hi] at h
      simp only [cond_false] at h
      split at h
      · rename_i v1 σ1 h1
        cases h
        intro base ρ Args W hin hargs
        obtain ⟨hf, hfn, hcall⟩ := callB_sound hlp hle hex hlf hsp h1 hd base ρ Args W ⟨hin.low, hin.sim, hin.fresh⟩ hargs
        have kg : ∀ b, (b < σ.nx → (gcH σ σ1 v).h.get b = σ.h.get b) ∧ ∀ x, (gcH σ σ1 v).h.get b = some x → σ.h.get b = some x ∨ (σ.nx ≤ b ∧ σ1.h.get b = some x) := fun b => kept_d _ _ _ _ _ b
        have sub : ∀ b x, (gcH σ σ1 v).h.get b = some x → σ1.h.get b = some x := by
          intro b x hx
          rcases (kg b).2 x hx with h2 | h2
          · rw [hf.low b (hd _ _ h2) (hd _ _ h2)]; exact h2
          · exact h2.2
        have hnm : ∀ k, ¬ May σ.nx σ.h.get ρ k := fun k ⟨b, x, r, g1, _, g3, _⟩ => by have := hd _ _ g1; omega
        refine ⟨⟨hf.le, fun b _ hb => (kg b).1 hb, fun b hb => ?_⟩, hfn, hcall.mono ?_⟩
        · have hb' : σ1.nx ≤ b := hb
          have h0 : σ.h.get b = none := by
            cases e : σ.h.get b with
            | none => rfl
            | some x => have := hd _ _ e; have := hf.le; omega
          cases e : (gcH σ σ1 v).h.get b with
          | none => rw [h0]
          | some x => have h2 := hf.high b hb'; rw [sub b x e, h0] at h2; cases h2
        · rintro E W' ⟨V, ρ', rfl, hv, hp⟩
          refine ⟨V, ρ', rfl, hv, hp.ext, hp.out, hp.sim.less sub, hp.os, hp.tape, hp.output, hp.frz, hp.size, fun k hk _ => hp.same k hk (hnm k), fun k ⟨b, x, r, g1, g2, g3, g4, g5⟩ => ?_⟩
          rcases (kg b).2 x g1 with g6 | g6
          · obtain ⟨r0, hr0, _⟩ := (hin.sim.ok b x g6).has
            have : r0 = r := Option.some.inj ((hp.ext b r0 hr0).symm.trans g4)
            subst this
            exact .inr ⟨b, x, r0, g6, g2, g3, hr0, g5⟩
          · rcases hp.own k ⟨b, x, r, g6.2, g2, g6.1, g4, g5⟩ with g7 | g7
            · exact .inl g7
            · exact absurd g7 (hnm k)
      · cases h

theorem zip_put {ρ : Rho} : ∀ (ps : List Nat) (vs : List HV) (nt : Nat) (t t' : Tr HV) (T : Array Value) (U : List Value), zipPut nt t ps vs = some t' → TR ρ nt t T → LR ρ vs U → ps.length = vs.length ∧
    TR ρ nt t' ((ps.zip U).foldl (fun (t : Array Value) (p : Nat × Value) => t.setIfInBounds p.1 p.2) T)
  | [], [], nt, t, t', T, U, h, ht, hu => by
    cases h
    rw [LR.inv_nil hu]
    exact ⟨rfl, ht⟩
  | p :: ps, v :: vs, nt, t, t', T, U, h, ht, hu => by
    obtain ⟨u, U', rfl, hv, hu'⟩ := LR.inv hu
    unfold zipPut at h
    have step : TR ρ nt (bif Nat.blt p nt then t.set p (some v) else t) (T.setIfInBounds p u) := by
      cases hb : Nat.blt p nt with
      | true => exact ht.put (blt_lt hb) hv
      | false =>
        have hd : ¬ p < nt := by intro h; rw [← Nat.blt_eq] at h; rw [h] at hb; cases hb
        have hT : T.setIfInBounds p u = T := by simp [Array.setIfInBounds]; intro h; have := ht.1; omega
        rw [hT]; exact ht
    obtain ⟨h1, h2⟩ := zip_put ps vs nt _ t' _ U' h step hu'
    exact ⟨by simp [h1], h2⟩
  | [], _ :: _, _, _, _, _, _, h, _, _ => by cases h
  | _ :: _, [], _, _, _, _, _, h, _, _ => by cases h

theorem begin_ok {base fl l : Nat} {σ σ' : HS} {ρ : Rho} {W : World} (h : beginRoundH fl l σ = some σ') (hd : Dom σ) (hs : Sim P base σ.h.get ρ W) :
    σ'.nx = σ.nx ∧ HFS fl σ σ' ∧ ∃ r W', ρ l = some r ∧ (Instr.beginRound r.blk).run P W = .ok () W' ∧ PostS P base fl σ σ' ρ ρ W W' := by
  unfold beginRoundH at h
  split at h
  · rename_i q hq
    split at h
    · rename_i hst
      cases hfl : Nat.ble fl l with
      | false => rw [hfl] at h; cases h
      | true =>
        rw [hfl] at h
        cases h
        have hfl := Nat.le_of_ble_eq_true hfl
        obtain ⟨r, m, L, hr, hw, hb, hm, hdf, hl⟩ := hs.ok _ _ hq
        have hlt := (Array.getElem?_eq_some_iff.1 hw).1
        have hready : L.state = .ready := by rw [hl.state, hst]; rfl
        refine ⟨rfl, hf_upd hfl (hd _ _ hq) (HS.get_upd σ _ _), r, _, hr, run_beginRound hw hready, ?_⟩
        refine post_upd hs hq rfl hfl hr (HS.get_upd σ _ _) rfl rfl rfl (frz_put hw rfl) (by simp) (fun k _ hk => World.putObj_heap_other hk) (fun z hz => ?_)
        cases hz
        exact ⟨r, m, _, hr, World.putObj_heap_same hlt, hb, hm, hdf, rfl, hl.pending, hl.tmps, hl.params, hl.assign, hl.body⟩
    · cases h
  · cases h
theorem end_ok {base fl l : Nat} {σ σ' : HS} {ρ : Rho} {W : World} {e : HExit} {v : HV} (h : endRoundH l e σ = some (v, σ')) (hfl : fl ≤ l) (hd : Dom σ) (hs : Sim P base σ.h.get ρ W) :
    σ'.nx = σ.nx ∧ HFS fl σ σ' ∧ ∃ r V W', ρ l = some r ∧ (Instr.endRound r.blk (jumpOf e)).run P W = .ok V W' ∧ VR ρ v V ∧ PostS P base fl σ σ' ρ ρ W W' := by
  unfold endRoundH at h
  split at h
  · rename_i q hq
    obtain ⟨r, m, L, hr, hw, hb, hm, hdf, hl⟩ := hs.ok _ _ hq
    have hlt := (Array.getElem?_eq_some_iff.1 hw).1
    have fin : ∀ (st : LState) (pe : HExit), jumpOf pe = jumpOf e → stateOf st = (if (jumpOf e).isNone then .ready else .done) → v = .bool (jumpOf e).isNone → σ' = σ.upd l (some (.loop { q with state := st, pending := pe })) →
        σ'.nx = σ.nx ∧ HFS fl σ σ' ∧ ∃ r V W', ρ l = some r ∧ (Instr.endRound r.blk (jumpOf e)).run P W = .ok V W' ∧ VR ρ v V ∧ PostS P base fl σ σ' ρ ρ W W' := by
      intro st pe h1 h2 h3 h4
      subst h3; subst h4
      refine ⟨rfl, hf_upd hfl (hd _ _ hq) (HS.get_upd σ _ _), r, _, _, hr, run_endRound (jumpOf e) hw, .bool _, ?_⟩
      refine post_upd hs hq rfl hfl hr (HS.get_upd σ _ _) rfl rfl rfl (frz_put hw rfl) (by simp) (fun k _ hk => World.putObj_heap_other hk) (fun z hz => ?_)
      cases hz
      exact ⟨r, m, _, hr, World.putObj_heap_same hlt, hb, hm, hdf, h2.symm, h1.symm, hl.tmps, hl.params, hl.assign, hl.body⟩
    split at h
    · cases h; exact fin .ready .normal rfl rfl rfl rfl
    · rename_i hne
      cases h
      cases e with
      | normal => exact absurd rfl hne
      | exit id => exact fin .done (.exit id) rfl rfl rfl rfl
      | ret => exact fin .done .ret rfl rfl rfl rfl
  · cases h
end Go.Hx

