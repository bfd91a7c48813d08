/- The plain machine and Go's: make, slices of slices, append. -/
import Derived.Test.YtojkmobfhkjfnaaHxG
import Derived.Laws.AppendOwn
import Derived.IntWalk
set_option linter.all false
namespace Go.Hx
variable {P : Program} {base fl : Nat} {a : HAct} {σ σ' : HS} {v : HV} {ρ : Rho} {A : Act} {W : World} {o : Oper}

theorem repl_get (zs : List HV) : ∀ c i, (repl c zs)[i]? = if i < c * zs.length then zs[i % zs.length]? else none
  | 0, i => by simp [repl]
  | c + 1, i => by
    have e : repl (c + 1) zs = zs ++ repl c zs := by simp [repl, List.replicate_succ]
    rw [e, List.getElem?_append]
    by_cases h : i < zs.length
    · rw [if_pos h, if_pos (by rw [Nat.add_mul]; omega), Nat.mod_eq_of_lt h]
    · rw [if_neg h, repl_get zs c, Nat.add_mul, Nat.one_mul]
      by_cases h2 : i - zs.length < c * zs.length
      · rw [if_pos h2, if_pos (by omega)]
        congr 1
        exact (Nat.mod_eq_sub_mod (by omega)).symm
      · rw [if_neg h2, if_neg (by omega)]
theorem repl_len (zs : List HV) (c : Nat) : (repl c zs).length = c * zs.length := by simp [repl]
theorem lr_repl {ρ : Rho} {zs : List HV} {Z : Array Value} {s c : Nat} (h : LR ρ zs Z.toList) (hz : zs.length = s) : LR ρ (repl c zs) ((Array.range (c * s)).map (Z[· % Z.size]!)).toList := by
  have hl : Z.size = s := by have := h.1; simp at this; omega
  refine ⟨by simp [repl_len, hz], fun i v u hv hu => ?_⟩
  rw [repl_get, hz] at hv
  split at hv
  · rename_i hi
    have hs : 0 < s := by
      rcases Nat.eq_zero_or_pos s with e | e
      · subst e; simp at hi
      · exact e
    have hm : i % s < Z.size := by rw [hl]; exact Nat.mod_lt _ hs
    have hu : Z[i % Z.size]! = u := by simpa [hi] using hu
    subst hu
    refine h.2 _ _ _ hv ?_
    rw [hl] at hm ⊢
    rw [Array.getElem?_toList]
    simp [hm, hl]
  · cases hv
theorem map_range_zero (f : Nat → Value) : (Array.range 0).map f = #[] := Array.eq_empty_of_size_eq_zero (by simp)
theorem op_makeSlice {t e : TypeId} {l c : Operand} {l' c' : Lo} {b s : Nat} {z : HV} (ho : o.op = .makeSlice t l c) (hu : P.underlying t = some (.slice e)) (hb' : byOf P e = some b) (hs' : szOf P e = some s) (hz : zeroV P e = some z)
    (hzl : z.cells.length = s) (hl : lowX l = some l') (hc : lowX c = some c') (h : oMakeSlice z.cells b l' c' a σ = some (v, σ'))
    (hs : Sim P base σ.h.get ρ W) (ha : AR ρ a A) (hb : base ≤ W.heap.size) (hn : ρ σ.nx = none) : HF fl σ.nx σ'.nx σ.h.get σ'.h.get ∧ Does P base fl σ σ' ρ W (execOp A.eval o) v := by
  have h1 := ev_ok ha hl
  have h2 := ev_ok ha hc
  unfold oMakeSlice at h
  split at h
  · rename_i m n e1 e2
    obtain ⟨k1, hk1⟩ := nat_of h1 e1
    obtain ⟨k2, hk2⟩ := nat_of h2 e2
    cases hcond : (Nat.ble m n && Nat.ble (n * b) 35184372088832 && Nat.ble n 35184372088832) with
    | false => rw [hcond] at h; cases h
    | true =>
      rw [hcond] at h
      simp only [Bool.and_eq_true, Nat.ble_eq] at hcond
      obtain ⟨⟨c1, c2⟩, c3⟩ := hcond
      cases h
      obtain ⟨i, Z, i1, i2, i3⟩ := info_zero hz ρ
      have ib : i.bytes = b := by simpa [byOf, i1] using hb'
      have is : i.size = s := by simpa [szOf, i1] using hs'
      have w1 : IntKind.i64.wrap (m : Int) = m := IntWalk.i64_in _ (by omega)
      have w2 : IntKind.i64.wrap (n : Int) = n := IntWalk.i64_in _ (by omega)
      have q1 : ¬ (281474976710656 : Int) < b * n := by
        have e1 : ((b * n : Nat) : Int) = (b : Int) * n := by simp
        have e2 : b * n ≤ 35184372088832 := by rw [Nat.mul_comm]; exact c2
        omega
      have hrow : LR ρ (repl n z.cells) ((Array.range (n * s)).map (Z.cells[· % Z.cells.size]!)).toList := lr_repl i3.cells hzl
      refine ⟨hf_new (HS.get_new σ _), _, _, _, .inl ?_, (vr_new ρ σ.nx W.heap.size m n).2, post_row (e := e) hs hb hn hrow⟩
      by_cases h0 : n * s = 0
      · simp [execOp, ho, hk1, hk2, Instr.makeSlice, run_under hu, asInt, asIntOf, run_info i1, run_size i1, is, ib, w1, w2, q1, c1, h0, newRow, show ¬ n < m by omega]
        rw [if_neg (by omega), map_range_zero]
      · simp [execOp, ho, hk1, hk2, Instr.makeSlice, run_under hu, asInt, asIntOf, run_info i1, run_size i1, is, ib, w1, w2, q1, h0, newRow, run_zero i1 i2, show ¬ n < m by omega]
        rw [if_neg (by omega)]
        congr 3
        apply Array.ext'
        simp
  · cases h

theorem vr_slices {ρ : Rho} {p : Option (Nat × Nat)} {l c : Nat} {V : Value} (h : VR ρ (.slice p l c) V) :
    (p = none ∧ l = 0 ∧ c = 0 ∧ V = .slice none 0 0) ∨ ∃ b q r, p = some (b, q) ∧ ρ b = some r ∧ V = .slice (some ⟨r.blk, r.off + q, none⟩) l (c + r.extra) := by
  cases h with
  | slice0 => exact .inl ⟨rfl, rfl, rfl, rfl⟩
  | slice h => exact .inr ⟨_, _, _, rfl, h, rfl⟩
theorem bound_some {ρ : Rho} {x : Option Operand} {y : Option Lo} {d n : Nat} (ha : AR ρ a A) (hx : lowO x = some y) (h : boundH d (y.map a.ev) = some n) :
    (x = none ∧ n = d) ∨ ∃ w k, x = some w ∧ A.eval w = .int k (n : Int) := by
  cases x with
  | none => cases hx; cases h; exact .inl ⟨rfl, rfl⟩
  | some w =>
    simp only [lowO, Option.map_eq_some_iff] at hx
    obtain ⟨y', hy, rfl⟩ := hx
    obtain ⟨k, hk⟩ := nat_of (ev_ok ha hy) h
    exact .inr ⟨w, k, rfl, hk⟩
theorem run_bounds {x y : Option Operand} {len cap l h : Nat} (h1 : (y = none ∧ h = len) ∨ ∃ w k, y = some w ∧ A.eval w = .int k (h : Int)) (h2 : (x = none ∧ l = 0) ∨ ∃ w k, x = some w ∧ A.eval w = .int k (l : Int))
    (hle : l ≤ h) (hc : h ≤ cap) (W : World) : (Instr.sliceBounds true len cap (x.map A.eval) (y.map A.eval) none).run P W = .ok (l, h, cap) W := by
  rcases h1 with ⟨rfl, rfl⟩ | ⟨w, k, rfl, hw⟩ <;> rcases h2 with ⟨rfl, rfl⟩ | ⟨w', k', rfl, hw'⟩
  · simp [Instr.sliceBounds]
  · simp [Instr.sliceBounds, Instr.sliceBound, asIntOf, hw', hle]
  · simp [Instr.sliceBounds, Instr.sliceBound, asIntOf, hw, hc]
  · simp [Instr.sliceBounds, Instr.sliceBound, asIntOf, hw, hw', hc, hle]
theorem post_ghost {base fl : Nat} {σ : HS} {ρ : Rho} {W : World} {r : RI} (hs : Sim P base σ.h.get ρ W) (hn : ρ σ.nx = none) : Post P base fl σ.nx (σ.nx + 1) σ.h.get σ.h.get ρ (ρ.put σ.nx r) W W := by
  have old : ∀ b x, σ.h.get b = some x → b ≠ σ.nx := fun b x hx e => by
    obtain ⟨q, hq, _⟩ := (hs.ok b x hx).has
    rw [e, hn] at hq; cases hq
  refine ⟨Rho.le_put r hn, fun j hj => Rho.put_other _ _ (by omega), ⟨fun b x hx => (hs.ok b x hx).keep (Rho.le_put r hn) fun _ _ => rfl, fun b b' x x' q q' h1 h2 h3 h4 h5 h6 h7 => ?_⟩, rfl, rfl, rfl, fun _ => rfl, Nat.le_refl _, fun _ _ _ => rfl, fun k ⟨b, x, q, h1, h2, h3, h4, h5⟩ => ?_⟩
  · rw [Rho.put_other _ _ (old b x h1)] at h6
    rw [Rho.put_other _ _ (old b' x' h2)] at h7
    exact hs.inj b b' x x' q q' h1 h2 h3 h4 h5 h6 h7
  · rw [Rho.put_other _ _ (old b x h1)] at h4
    exact .inr ⟨b, x, q, h1, h2, h3, h4, h5⟩
theorem op_sliceS {t e : TypeId} {s : Nat} {x : Operand} {y : Lo} {lo hi : Option Operand} {lo' hi' : Option Lo} (ho : o.op = .slice t x lo hi none) (hu : P.underlying t = some (.slice e)) (hz : szOf P e = some s) (hx : lowX x = some y)
    (hlo : lowO lo = some lo') (hhi : lowO hi = some hi') (h : oSliceS s y lo' hi' a σ = some (v, σ')) (hs : Sim P base σ.h.get ρ W) (ha : AR ρ a A) (hn : ∀ b, σ.nx ≤ b → b < σ'.nx → ρ b = none) : HF fl σ.nx σ'.nx σ.h.get σ'.h.get ∧ Does P base fl σ σ' ρ W (execOp A.eval o) v := by
  have h1 := ev_ok ha hx
  obtain ⟨i, i1, i2⟩ := info_size hz
  unfold oSliceS at h
  split at h
  case h_2 =>
    revert h
    cases hend : endH (a.ev y) (lo'.map a.ev) (hi'.map a.ev) with
    | false => intro h; cases h
    | true =>
      intro h
      cases h
      unfold endH at hend
      split at hend
      · rename_i p len cap e1
        rw [e1] at h1
        split at hend
        · rename_i m l hm hl
          simp only [Bool.and_eq_true] at hend
          have q1 := Nat.eq_of_beq_eq_true hend.1
          have q2 := Nat.eq_of_beq_eq_true hend.2
          subst q1; subst q2
          have b1 := bound_some (d := len) ha hhi hm
          have b2 := bound_some (d := 0) ha hlo hl
          rcases vr_slices h1 with ⟨e, _⟩ | ⟨b, q, r, _, hr, hV⟩
          · cases e
          · have hrun := run_bounds (P := P) (len := len) (cap := m + r.extra) b1 b2 (Nat.le_refl _) (by omega) W
            have hn0 := hn σ.nx (Nat.le_refl _) (Nat.lt_succ_self _)
            refine ⟨⟨Nat.le_succ _, fun _ _ _ => rfl, fun _ _ => rfl⟩, ?_⟩
            by_cases e0 : r.extra = 0
            · refine ⟨.slice (some ⟨r.blk, r.off + q, none⟩) 0 0, W, ρ.put σ.nx ⟨r.blk, r.off + q, 0⟩, .inl ?_, ?_, post_ghost hs hn0⟩
              · rw [e0, Nat.add_zero] at hrun
                simp [execOp, ho, Instr.sliceAt, Instr.slice, run_under hu, hV, hrun, run_size i1, e0]
              · have := VR.slice (ρ := ρ.put σ.nx ⟨r.blk, r.off + q, 0⟩) (b := σ.nx) (o := 0) (l := 0) (c := 0) (Rho.put_same _ _ _)
                exact this
            · refine ⟨.slice (some ⟨r.blk, r.off + (q + m * s), none⟩) 0 r.extra, W, ρ.put σ.nx ⟨r.blk, r.off + (q + m * s), r.extra⟩, .inl ?_, ?_, post_ghost hs hn0⟩
              · have e1 : ¬ m + r.extra = m := by omega
                have e2 : m + r.extra - m = r.extra := by omega
                simp [execOp, ho, Instr.sliceAt, Instr.slice, run_under hu, hV, hrun, run_size i1, i2, e0, e1, e2, add_none, Nat.add_assoc]
              · have := VR.slice (ρ := ρ.put σ.nx ⟨r.blk, r.off + (q + m * s), r.extra⟩) (b := σ.nx) (o := 0) (l := 0) (c := 0) (Rho.put_same _ _ _)
                simpa using this
        · cases hend
      · cases hend
  rename_i v' hb
  cases h
  refine ⟨HF.refl _ _ _, ?_⟩
  unfold sliceH at hb
  split at hb
  · rename_i p len cap e1
    rw [e1] at h1
    split at hb
    · rename_i m l hm hl
      have b1 := bound_some (d := len) ha hhi hm
      have b2 := bound_some (d := 0) ha hlo hl
      split at hb
      · rename_i hle
        obtain ⟨hle, hc⟩ := hle
        rcases vr_slices h1 with ⟨rfl, rfl, rfl, hV⟩ | ⟨b, q, r, rfl, hr, hV⟩
        · cases hb
          have hl0 : l = 0 := by omega
          have hm0 : m = 0 := by omega
          subst hl0; subst hm0
          have hrun := run_bounds (P := P) (len := 0) (cap := 0) b1 b2 (Nat.le_refl _) (Nat.le_refl _) W
          exact does_value hs (V := .slice none 0 0) (by simp [execOp, ho, Instr.sliceAt, Instr.slice, run_under hu, hV, hrun, run_size i1]) .slice0
        · have hrun := run_bounds (P := P) (len := len) (cap := cap + r.extra) b1 b2 hle (by omega) W
          simp only [cutH] at hb
          split at hb
          · rename_i hcond
            cases hb
            refine does_value hs (V := .slice (some ⟨r.blk, r.off + (q + l * s), none⟩) (m - l) (cap - l + r.extra)) ?_ (.slice hr)
            have hcap : cap + r.extra - l = cap - l + r.extra := by omega
            by_cases e0 : cap + r.extra = l
            · have hl0 : l = 0 := by omega
              subst hl0
              simp [execOp, ho, Instr.sliceAt, Instr.slice, run_under hu, hV, hrun, run_size i1]
              omega
            · simp [execOp, ho, Instr.sliceAt, Instr.slice, run_under hu, hV, hrun, run_size i1, i2, e0, add_none, Nat.add_assoc, hcap]
          · rename_i hcond
            split at hb
            · rename_i cs hcs
              cases hb
              obtain ⟨r', C, e', z, hr', _, _, hk⟩ := hs.ok _ _ hcs
              rw [hr] at hr'; cases hr'
              have hx0 := hk.2.2
              have hcl : cap = l := by omega
              subst hcl
              refine does_value hs (V := .slice (some ⟨r.blk, r.off + q, none⟩) (m - cap) (cap - cap + r.extra)) ?_ (.slice hr)
              rw [hx0, Nat.add_zero] at hrun
              simp [execOp, ho, Instr.sliceAt, Instr.slice, run_under hu, hV, hrun, run_size i1, hx0]
            · cases hb
      · cases hb
    · cases hb
  · cases hb

/-! append -/
theorem read_s {σ : HS} {a : Nat × Nat} {n : Nat} {l : List HV} (h : σ.read a n = some l) : readS σ a n = some l := by
  unfold readS
  rw [cond_beq]
  split
  · rename_i e
    subst e
    unfold HS.read at h
    cases hc : σ.cells a.1 with
    | none => simp [hc] at h
    | some cs => simp [hc, takeN] at h; rw [h]
  · exact h
theorem first_cells {x : HV} {V : Value} {n size : Nat} {news : List HV} (hx : VR ρ x V) (h : ∃ p l c, x = .slice p l c ∧ (match p with | none => some [] | some a => readS σ a (n * size)) = some news ∧ (p = none → n = 0)) (hs : Sim P base σ.h.get ρ W) :
    ∃ U : List Value, LR ρ news U ∧ news.length = n * size ∧ (Builtin.firstCells size n V).run P W = .ok U.toArray W ∧ (Builtin.firstCells size n V).run P W.drew = .ok U.toArray W.drew := by
  obtain ⟨p, l, c, rfl, hr, hn⟩ := h
  rcases vr_slices hx with ⟨rfl, rfl, rfl, hV⟩ | ⟨b, q, r, rfl, hρ, hV⟩
  · cases hr
    have := hn rfl
    subst this
    exact ⟨[], LR.nil ρ, by simp, by simp [hV, Builtin.firstCells], by simp [hV, Builtin.firstCells]⟩
  · have hr : readS σ (b, q) (n * size) = some news := hr
    unfold readS at hr
    rw [cond_beq] at hr
    split at hr
    · rename_i h0
      cases hr
      refine ⟨[], LR.nil ρ, by simp [h0], ?_, ?_⟩
      · simp [hV, Builtin.firstCells, h0, loadCells, loadCellsFrom]
      · simp [hV, Builtin.firstCells, h0, loadCells, loadCellsFrom]
    obtain ⟨r', U, hr', hU, hl, hl', hcell⟩ := sim_read hs hr
    rw [hρ] at hr'; cases hr'
    refine ⟨U, hU, hl', ?_, ?_⟩
    · simp only [hV, Builtin.firstCells]
      exact run_loadCells_of hl hcell
    · simp only [hV, Builtin.firstCells]
      exact run_loadCells_of hl (fun j u hu => by rw [World.cell?_drew]; exact hcell j u hu)
theorem run_app_fits {ts : Array TypeId} {t0 t1 e e' ty : TypeId} {i : TypeInfo} {p : Option Addr} {sl sc : Nat} {X : Value} {xl : Nat} {U : Array Value} {W' : World} (ht0 : ts[0]? = some t0) (ht1 : ts[1]? = some t1) (hu0 : P.underlying t0 = some (.slice e)) (hu1 : P.underlying t1 = some (.slice e'))
    (hi : P.info? e = some i) (hl : ∀ W, (Builtin.lenOf X).run P W = .ok xl W) (hf : (Builtin.firstCells i.size xl X).run P W = .ok U W) (hle : sl + xl ≤ sc)
    (hst : ∀ a, p = some a → (storeCells (a.add (sl * i.size)) U.toList).run P W = .ok () W') (hn : p = none → W' = W) :
    (Builtin.append_ ts ty #[.slice p sl sc, X]).run P W = .ok (.slice p (sl + xl) sc) W' := by
  cases p with
  | none => simp [Builtin.append_, ht0, ht1, run_under hu0, run_under hu1, run_size hi, hl, hf, hle, hn rfl]
  | some a => simp [Builtin.append_, ht0, ht1, run_under hu0, run_under hu1, run_size hi, hl, hf, hle, hst a rfl]
theorem run_app_grows {ts : Array TypeId} {t0 t1 e e' ty : TypeId} {i : TypeInfo} {Z : Value} {p : Option Addr} {sl sc : Nat} {X : Value} {xl : Nat} {U O : Array Value} (ht0 : ts[0]? = some t0) (ht1 : ts[1]? = some t1) (hu0 : P.underlying t0 = some (.slice e)) (hu1 : P.underlying t1 = some (.slice e'))
    (hi : P.info? e = some i) (hz : i.zero = some Z) (hl : ∀ W, (Builtin.lenOf X).run P W = .ok xl W) (hf : (Builtin.firstCells i.size xl X).run P W.drew = .ok U W.drew) (ho : (Builtin.firstCells i.size sl (.slice p sl sc)).run P W.drew = .ok O W.drew)
    (hlt : ¬ sl + xl ≤ sc) (hb : (sl + xl) * i.bytes ≤ 140737488355328) (h63 : sl + xl ≤ 140737488355328) :
    ∃ c, sl + xl ≤ c ∧ (Builtin.append_ ts ty #[.slice p sl sc, X]).run P W = .ok (.slice (some ⟨W.heap.size, 0, none⟩) (sl + xl) c) (W.drew.alloc (.cells (O ++ U ++ Builtin.zeroCells Z.cells (c - (sl + xl))) e)) := by
  refine ⟨grownCap W (sl + xl) sc e, grownCap_ge W _ _ e, ?_⟩
  have h63' : ¬ (9223372036854775807 < ((sl : Int) + (xl : Int))) := by omega
  have hfit := growslice_fits (old := sc) (need := sl + xl) (bytes := i.bytes) (by omega) hb
  have h48' : ¬ (281474976710656 < Builtin.nextslicecap (sl + xl) sc * i.bytes) := by omega
  simp [Builtin.append_, ht0, ht1, run_under hu0, run_under hu1, run_size hi, run_info hi, run_zero hi hz, hl, hf, ho, hlt, h63', h48', Question.forced, newRow, grownCap]
theorem lr_toArray {C : Array Value} {cs : List HV} (h : LR ρ cs C.toList) : CellsOk ρ cs C 0 := by
  have := lr_cells h
  simpa using this
/-- A row that append has laid. -/
theorem post_opn {base fl : Nat} {σ : HS} {ρ : Rho} {W : World} {cs : List HV} {C R : Array Value} {e : TypeId} {s extra : Nat} (hs : Sim P base σ.h.get ρ W) (hb : base ≤ W.heap.size) (hn : ρ σ.nx = none) (hc : LR ρ cs C.toList) (hR : R.size = extra * s) :
    Post P base fl σ.nx (σ.nx + 1) σ.h.get (σ.new (.cells cs (.opn s))).h.get ρ (ρ.put σ.nx ⟨W.heap.size, 0, extra⟩) W (W.drew.alloc (.cells (C ++ R) e)) := by
  have hl : cs.length = C.size := by have := hc.1; simpa using this
  have hd : Sim P base σ.h.get ρ W.drew := ⟨fun b x hx => (hs.ok b x hx).keep (Rho.le_refl ρ) fun _ _ => rfl, hs.inj⟩
  have := post_new (fl := fl) (o := .cells (C ++ R) e) (r := ⟨W.heap.size, 0, extra⟩) hd hn (HS.get_new σ (.cells cs (.opn s))) rfl
    ⟨⟨W.heap.size, 0, extra⟩, C ++ R, e, (0, 0), Rho.put_same _ _ _, heap_alloc_new W.drew _, fun i v hi => by
      obtain ⟨u, hu, hv⟩ := lr_toArray (hc.mono (Rho.le_put _ hn)) i v hi
      refine ⟨u, ?_, hv⟩
      rw [Array.getElem?_append_left (by have := (Array.getElem?_eq_some_iff.1 hu).1; exact this)]
      exact hu, hb, rfl, by simp [hR, hl]⟩
  exact ⟨this.ext, this.out, this.sim, this.os, this.tape, this.output, this.frz, this.size, this.same, this.own⟩

/-- A block is given up, and what it was is a part of a new one. -/
theorem post_move {base fl nx b : Nat} {g g' : Hp} {ρ : Rho} {W W' : World} {x y : HBlk} {r r' : RI} (hs : Sim P base g ρ W) (hx : g b = some x) (ho : x.own = true) (hfl : fl ≤ b) (hr : ρ b = some r) (hn : ρ nx = none)
    (hg : ∀ j, g' j = if j = nx then some y else if j = b then none else g j) (hr' : r'.blk = r.blk) (hos : W'.os = W.os) (htape : W'.tape = W.tape) (hout : W'.output = W.output) (hfz : ∀ a, W'.frozen? a = W.frozen? a) (hsize : W.heap.size ≤ W'.heap.size)
    (hsame : ∀ k, k < W.heap.size → k ≠ r.blk → W'.heap[k]? = W.heap[k]?) (hy : BOk P base (ρ.put nx r') W' nx y) : Post P base fl nx (nx + 1) g g' ρ (ρ.put nx r') W W' := by
  have fact : ∀ j z, g' j = some z → j ≠ nx → j ≠ b ∧ g j = some z := fun j z hz e => by
    rw [hg, if_neg e] at hz
    split at hz
    · cases hz
    · rename_i h; exact ⟨h, hz⟩
  have apart : ∀ j z q, g j = some z → j ≠ b → ρ j = some q → q.blk ≠ r.blk := fun j z q hz e hq => by
    obtain ⟨q', hq', _, k1, k2⟩ := (hs.ok j z hz).has
    rw [hq] at hq'; cases hq'
    obtain ⟨r0, hr0, _, k3, _⟩ := (hs.ok b x hx).has
    rw [hr] at hr0; cases hr0
    cases hz' : z.own with
    | true => exact hs.inj j b z x q r hz hx hz' ho e hq hr
    | false => have := k2 hz'; have := k3 ho; omega
  refine ⟨Rho.le_put r' hn, fun j hj => Rho.put_other _ _ (by omega), ⟨fun j z hz => ?_, fun j j' z z' q q' h1 h2 h3 h4 h5 h6 h7 => ?_⟩, hos, htape, hout, hfz, hsize, fun k hk hm => hsame k hk fun e => hm ⟨b, x, r, hx, ho, hfl, hr, e.symm⟩, fun k ⟨j, z, q, h1, h2, h3, h4, h5⟩ => ?_⟩
  · by_cases e : j = nx
    · subst e; rw [hg, if_pos rfl] at hz; cases hz; exact hy
    · obtain ⟨e2, hz⟩ := fact j z hz e
      refine (hs.ok j z hz).keep (Rho.le_put r' hn) fun q hq => hsame _ ?_ (apart j z q hz e2 hq)
      obtain ⟨q', hq', hlt, _⟩ := (hs.ok j z hz).has
      rw [hq] at hq'; cases hq'; exact hlt
  · by_cases e : j = nx
    · subst e
      rw [Rho.put_same] at h6; cases h6
      have e' : j' ≠ j := fun h => h5 h.symm
      rw [Rho.put_other _ _ e'] at h7
      obtain ⟨e2, hz⟩ := fact _ _ h2 e'
      rw [hr']
      exact (apart j' z' q' hz e2 h7).symm
    · rw [Rho.put_other _ _ e] at h6
      obtain ⟨e2, hz⟩ := fact _ _ h1 e
      by_cases e' : j' = nx
      · subst e'
        rw [Rho.put_same] at h7; cases h7
        rw [hr']
        exact apart j z q hz e2 h6
      · rw [Rho.put_other _ _ e'] at h7
        obtain ⟨_, hz'⟩ := fact _ _ h2 e'
        exact hs.inj j j' z z' q q' hz hz' h3 h4 h5 h6 h7
  · by_cases e : j = nx
    · subst e; rw [Rho.put_same] at h4; cases h4
      exact .inr ⟨b, x, r, hx, ho, hfl, hr, hr'.symm.trans h5⟩
    · rw [Rho.put_other _ _ e] at h4
      obtain ⟨_, hz⟩ := fact _ _ h1 e
      exact .inr ⟨j, z, q, hz, h2, h3, h4, h5⟩
theorem post_drew {base fl nx nx' : Nat} {g g' : Hp} {ρ ρ' : Rho} {W W' : World} (h : Post P base fl nx nx' g g' ρ ρ' W.drew W') : Post P base fl nx nx' g g' ρ ρ' W W' :=
  ⟨h.ext, h.out, h.sim, h.os, h.tape, h.output, h.frz, h.size, h.same, h.own⟩
theorem lenOf_vr {ρ : Rho} {p : Option (Nat × Nat)} {l c : Nat} {V : Value} (h : VR ρ (.slice p l c) V) (W : World) : (Builtin.lenOf V).run P W = .ok l W := by
  obtain ⟨q, d, hV, _⟩ := vr_anyslice h
  simp [hV, Builtin.lenOf]
theorem op_append {xs : Array Operand} {y z : Lo} {t0 t1 e e' : TypeId} {sz by_ : Nat} {zv : HV} {ts : Array TypeId} (ho : o.op = .call { callee := .builtin .append, args := xs, argTypes := ts }) (hx : lowXs xs.toList = some [y, z]) (ht0 : ts[0]? = some t0) (ht1 : ts[1]? = some t1)
    (hu0 : P.underlying t0 = some (.slice e)) (hu1 : P.underlying t1 = some (.slice e')) (hsz : szOf P e = some sz) (hby : byOf P e = some by_) (hz : zeroV P e = some zv) (hzl : zv.cells.length = sz)
    (h : oAppend fl sz by_ y z a σ = some (v, σ')) (hs : Sim P base σ.h.get ρ W) (ha : AR ρ a A) (hb : base ≤ W.heap.size) (hn : ∀ b, σ.nx ≤ b → b < σ'.nx → ρ b = none) (hj : ∀ b x, σ.h.get b = some x → b < σ.nx) :
    HF fl σ.nx σ'.nx σ.h.get σ'.h.get ∧ Does P base fl σ σ' ρ W (execOp A.eval o) v := by
  obtain ⟨x1, x2, e1, hx1, hx2⟩ := lowXs_two hx
  have e1 := arr_two e1
  subst e1
  have h1 := ev_ok ha hx1
  have h2 := ev_ok ha hx2
  obtain ⟨i, Z, i1, i2, i3⟩ := info_zero hz ρ
  have ib : i.bytes = by_ := by simpa [byOf, i1] using hby
  have is : i.size = sz := by simpa [szOf, i1] using hsz
  have hZ : Z.cells.size = sz := by have := i3.cells.1; simp at this; omega
  have hrunB : ∀ V W', (Builtin.append_ ts o.type #[A.eval x1, A.eval x2]).run P W = .ok V W' → (execOp A.eval o).run P W = .ok (.value V) W' := fun V W' hr => by
    rw [builtin_call ho]; simp [builtin, hr]
  unfold oAppend appendH at h
  split at h
  · rename_i sa sl sc xa xl xc ey ez
    rw [ey] at h1
    rw [ez] at h2
    split at h
    · cases h
    · rename_i news hnews
      have hnil : xa = none → xl = 0 := fun e => by
        subst e
        rcases vr_slices h2 with ⟨_, h, _, _⟩ | ⟨_, _, _, h, _, _⟩
        · exact h
        · cases h
      obtain ⟨U, hU, hUl, hf1, hf2⟩ := first_cells (P := P) (n := xl) (size := sz) (news := news) h2 ⟨_, _, _, rfl, hnews, hnil⟩ hs
      rw [← is] at hf1 hf2
      cases hfit : Nat.ble (sl + xl) sc with
      | true =>
        rw [hfit] at h
        simp only [cond_true] at h
        have hle := Nat.le_of_ble_eq_true hfit
        rcases vr_slices h1 with ⟨rfl, rfl, rfl, hV⟩ | ⟨b, q, r, rfl, hr, hV⟩
        · have hx0 : xl = 0 := by omega
          subst hx0
          have hnews0 : news = [] := List.length_eq_zero_iff.1 (by simpa using hUl)
          subst hnews0
          cases h
          refine ⟨HF.refl _ _ _, does_value hs (V := .slice none 0 0) (hrunB _ _ ?_) .slice0⟩
          rw [hV]
          exact run_app_fits ht0 ht1 hu0 hu1 i1 (lenOf_vr h2) hf1 hle (fun a h => by cases h) (fun _ => rfl)
        · by_cases hne : news = []
          · subst hne
            cases h
            have hU0 := LR.inv_nil hU
            subst hU0
            refine ⟨HF.refl _ _ _, does_value hs (V := .slice (some ⟨r.blk, r.off + q, none⟩) (sl + xl) (sc + r.extra)) (hrunB _ _ ?_) (.slice hr)⟩
            rw [hV]
            exact run_app_fits ht0 ht1 hu0 hu1 i1 (lenOf_vr h2) hf1 (by omega) (fun a h => by cases h; rfl) (fun h => by cases h)
          · have h : ((σ.write fl (b, q + sl * sz) news).map fun σ => (HV.slice (some (b, q)) (sl + xl) sc, σ)) = some (v, σ') := by
              cases news with
              | nil => exact absurd rfl hne
              | cons n ns => exact h
            simp only [Option.map_eq_some_iff] at h
            obtain ⟨σ1, hw, he⟩ := h
            cases he
            obtain ⟨e2, r', W', hr', hrun, hpost⟩ := sim_write hs hw hU
            rw [hr] at hr'; cases hr'
            have hup : ∃ y, fl ≤ b ∧ b < σ.nx ∧ σ'.h.get = fun j => if j = b then y else σ.h.get j := by
              unfold HS.write at hw
              split at hw
              · cases hw
              · rename_i hb
                cases hc : (Nat.ble fl b && news.all HV.one) with
                | false => rw [hc] at hw; cases hw
                | true =>
                  rw [hc] at hw
                  simp only [cond_true, Option.map_eq_some_iff] at hw
                  simp only [Bool.and_eq_true, Nat.ble_eq] at hc
                  obtain ⟨cs', _, rfl⟩ := hw
                  exact ⟨_, hc.1, hj _ _ hb, funext fun j => HS.get_upd σ _ _ j⟩
              · cases hw
            obtain ⟨y, hy1, hy2, hy3⟩ := hup
            refine ⟨by rw [e2, hy3]; exact hf_upd hy1 hy2 (fun _ => rfl), .slice (some ⟨r.blk, r.off + q, none⟩) (sl + xl) (sc + r.extra), W', ρ, .inl (hrunB _ _ ?_), .slice hr, by rw [e2]; exact hpost⟩
            rw [hV]
            refine run_app_fits ht0 ht1 hu0 hu1 i1 (lenOf_vr h2) hf1 (by omega) (fun a h => ?_) (fun h => by cases h)
            cases h
            rw [add_none, is, Nat.add_assoc]
            exact hrun
      | false =>
        rw [hfit] at h
        simp only [cond_false] at h
        have hnle : ¬ sl + xl ≤ sc := fun hle => by rw [← Nat.ble_eq] at hle; rw [hle] at hfit; cases hfit
        cases hcond : (Nat.ble ((sl + xl) * by_) 35184372088832 && Nat.ble (sl + xl) 35184372088832 && Nat.blt 0 sz) with
        | false => rw [hcond] at h; cases h
        | true =>
          rw [hcond] at h
          simp only [cond_true] at h
          simp only [Bool.and_eq_true, Nat.ble_eq, Nat.blt_eq] at hcond
          obtain ⟨⟨c1, c2⟩, c3⟩ := hcond
          have hZc : ∀ c, (Builtin.zeroCells Z.cells c).size = c * sz := fun c => by rw [size_zeroCells, hZ]
          rcases vr_slices h1 with ⟨rfl, rfl, rfl, hV⟩ | ⟨b, q, r, rfl, hr, hV⟩
          · simp only [cond_beq, if_pos] at h
            cases h
            have hn0 := hn σ.nx (Nat.le_refl _) (by simp [HS.new])
            obtain ⟨c, hc, hrun⟩ := run_app_grows (P := P) (W := W) (ty := o.type) (p := none) (sl := 0) (sc := 0) (O := #[]) ht0 ht1 hu0 hu1 i1 i2 (lenOf_vr h2) hf2 (by simp [Builtin.firstCells]) hnle (by rw [ib]; omega) (by omega)
            refine ⟨hf_new (HS.get_new σ _), .slice (some ⟨W.heap.size, 0, none⟩) (0 + xl) c, _, ρ.put σ.nx ⟨W.heap.size, 0, c - (0 + xl)⟩, .inl (hrunB _ _ (by rw [hV]; exact hrun)), ?_, ?_⟩
            · have := VR.slice (ρ := ρ.put σ.nx ⟨W.heap.size, 0, c - (0 + xl)⟩) (b := σ.nx) (o := 0) (l := 0 + xl) (c := 0 + xl) (r := ⟨W.heap.size, 0, c - (0 + xl)⟩) (Rho.put_same _ _ _)
              have e : 0 + xl + (c - (0 + xl)) = c := by omega
              simp only [e] at this
              exact this
            · have := post_opn (fl := fl) (e := e) (C := #[] ++ U.toArray) hs hb hn0 (by simpa using hU) (hZc (c - (0 + xl)))
              exact this
          · have hold : ∀ old, σ.read (b, q) (sl * sz) = some old → ∃ O : List Value, LR ρ old O ∧ (Builtin.firstCells i.size sl (A.eval x1)).run P W.drew = .ok O.toArray W.drew := fun old hold => by
              obtain ⟨O, hO, _, _, hf⟩ := first_cells (P := P) (n := sl) (size := sz) (news := old) h1 ⟨_, _, _, rfl, read_s hold, fun h => by cases h⟩ hs
              exact ⟨O, hO, by rw [is]; exact hf⟩
            have grow : ∀ (σ2 : HS) (old : List HV) (hs2 : Sim P base σ2.h.get ρ W) (_ : σ2.nx = σ.nx), σ.read (b, q) (sl * sz) = some old → v = .slice (some (σ.nx, 0)) (sl + xl) (sl + xl) → σ' = σ2.new (.cells (old ++ news) (.opn sz)) → (fitsIn : ¬ sl + xl ≤ sc + r.extra) →
                ∃ V W' ρ', (execOp A.eval o).run P W = .ok (.value V) W' ∧ VR ρ' v V ∧ Post P base fl σ.nx σ'.nx σ2.h.get σ'.h.get ρ ρ' W W' := by
              intro σ2 old hs2 hnx hrd hv hσ' hbig
              obtain ⟨O, hO, hfO⟩ := hold old hrd
              have hn0 : ρ σ.nx = none := hn σ.nx (Nat.le_refl _) (by rw [hσ']; simp [HS.new, hnx])
              obtain ⟨c, hc, hrun⟩ := run_app_grows (P := P) (W := W) (ty := o.type) (O := O.toArray) ht0 ht1 hu0 hu1 i1 i2 (lenOf_vr h2) hf2 (by rw [← hV]; exact hfO) hbig (by rw [ib]; omega) (by omega)
              refine ⟨.slice (some ⟨W.heap.size, 0, none⟩) (sl + xl) c, _, ρ.put σ.nx ⟨W.heap.size, 0, c - (sl + xl)⟩, hrunB _ _ (by rw [hV]; exact hrun), ?_, ?_⟩
              · subst hv
                have := VR.slice (ρ := ρ.put σ.nx ⟨W.heap.size, 0, c - (sl + xl)⟩) (b := σ.nx) (o := 0) (l := sl + xl) (c := sl + xl) (r := ⟨W.heap.size, 0, c - (sl + xl)⟩) (Rho.put_same _ _ _)
                have e : sl + xl + (c - (sl + xl)) = c := by omega
                simp only [e] at this
                exact this
              · subst hσ'
                have := post_opn (fl := fl) (e := e) (C := O.toArray ++ U.toArray) (cs := old ++ news) hs2 hb (by rw [hnx]; exact hn0) (by simpa using LR.append hO hU) (hZc (c - (sl + xl)))
                rw [hnx] at this
                have e2 : (σ2.new (.cells (old ++ news) (.opn sz))).nx = σ.nx + 1 := by simp [HS.new, hnx]
                rw [e2]
                exact this
            dsimp only at h
            split at h
            · rename_i cs old hcs hrd
              cases h
              obtain ⟨r', C, e', z', hr', _, _, hk⟩ := hs.ok _ _ hcs
              rw [hr] at hr'; cases hr'
              have hx0 := hk.2.2
              obtain ⟨V, W', ρ', g1, g2, g3⟩ := grow σ old hs rfl hrd rfl rfl (by omega)
              exact ⟨hf_new (HS.get_new σ _), V, W', ρ', .inl g1, g2, g3⟩
            · rename_i cs z' old hcs hrd
              cases hc2 : (Nat.ble fl b && Nat.beq z' sz && Nat.beq (q + sc * sz) cs.length && news.all HV.one) with
              | false => rw [hc2] at h; cases h
              | true =>
                rw [hc2] at h
                simp only [cond_true] at h
                cases h
                simp only [Bool.and_eq_true, Nat.ble_eq, Nat.beq_eq] at hc2
                obtain ⟨⟨⟨d1, d2⟩, d3⟩, d4⟩ := hc2
                subst d2
                have hbn := hj _ _ hcs
                obtain ⟨r', C, e', zz, hr', hw, hcell, k1, rfl, k3⟩ := hs.ok _ _ hcs
                rw [hr] at hr'; cases hr'
                have hhf : HF fl σ.nx (σ.nx + 1) σ.h.get ((σ.upd b none).new (.cells (old ++ news) (.opn z'))).h.get := by
                  have e1 : HF fl σ.nx σ.nx σ.h.get (σ.upd b none).h.get := hf_upd d1 hbn (HS.get_upd σ b none)
                  exact e1.trans (hf_new (HS.get_new (σ.upd b none) _))
                by_cases hbig : sl + xl ≤ sc + r.extra
                · obtain ⟨O, hO, hfO⟩ := hold old hrd
                  obtain ⟨r2, O', hr2, hO', hOl, hOl', hOc⟩ := sim_read hs hrd
                  rw [hr] at hr2; cases hr2
                  have hUl' : U.length = xl * z' := by rw [← hU.1]; exact hUl
                  have hmul : (sl + xl) * z' ≤ (sc + r.extra) * z' := Nat.mul_le_mul_right _ hbig
                  rw [Nat.add_mul, Nat.add_mul] at hmul
                  have hst := run_storeCells_at P r.blk (r.off + (q + sl * z')) e' U 0 C W hw (by rw [hUl']; omega) (hU.all_one d4)
                  have hn0 := hn σ.nx (Nat.le_refl _) (by simp [HS.new, HS.upd])
                  refine ⟨hhf, .slice (some ⟨r.blk, r.off + q, none⟩) (sl + xl) (sc + r.extra), W.setRow r.blk (C.toList.take (r.off + (q + sl * z') + 0) ++ U ++ C.toList.drop (r.off + (q + sl * z') + 0 + U.length)).toArray, ρ.put σ.nx ⟨r.blk, r.off + q, sc + r.extra - (sl + xl)⟩, .inl (hrunB _ _ ?_), ?_, ?_⟩
                  · rw [hV]
                    refine run_app_fits ht0 ht1 hu0 hu1 i1 (lenOf_vr h2) hf1 hbig (fun a h => ?_) (fun h => by cases h)
                    cases h
                    rw [add_none, is, Nat.add_assoc]
                    exact hst
                  · have := VR.slice (ρ := ρ.put σ.nx ⟨r.blk, r.off + q, sc + r.extra - (sl + xl)⟩) (b := σ.nx) (o := 0) (l := sl + xl) (c := sl + xl) (r := ⟨r.blk, r.off + q, sc + r.extra - (sl + xl)⟩) (Rho.put_same _ _ _)
                    have e : sl + xl + (sc + r.extra - (sl + xl)) = sc + r.extra := by omega
                    simp only [e] at this
                    exact this
                  · have hrow : ∀ D : Array Value, (W.setRow r.blk D).heap[r.blk]? = some (.cells D e' (0, 0)) := fun D => setRow_heap W r.blk C D e' (0, 0) hw
                    refine post_move (y := .cells (old ++ news) (.opn z')) hs hcs rfl d1 hr hn0 (fun j => ?_) rfl rfl rfl rfl (fun a => ?_) (by simp) (fun k _ hk => ?_) ?_
                    · rw [HS.get_new, HS.get_upd]; rfl
                    · rw [frozen_eq, frozen_eq]
                      by_cases ea : a.block = r.blk
                      · rw [ea, hrow, hw]; rfl
                      · simp only [World.setRow]
                        rw [Array.getElem?_modify, if_neg (by omega)]
                    · simp only [World.setRow]
                      rw [Array.getElem?_modify, if_neg (by omega)]
                    · refine ⟨_, _, e', (0, 0), Rho.put_same _ _ _, hrow _, fun j w hw' => ?_, k1, rfl, ?_⟩
                      · have hle := Rho.le_put (ρ := ρ) (b := σ.nx) ⟨r.blk, r.off + q, sc + r.extra - (sl + xl)⟩ hn0
                        rw [List.getElem?_toArray]
                        by_cases hjo : j < old.length
                        · rw [List.getElem?_append_left hjo] at hw'
                          have hjO : j < O'.length := by rw [← hO'.1]; exact hjo
                          have hu := hOc j O'[j] (List.getElem?_eq_getElem hjO)
                          rw [cell_of_row W r.blk _ C e' (0, 0) hw] at hu
                          refine ⟨O'[j], ?_, (hO'.2 _ _ _ hw' (List.getElem?_eq_getElem hjO)).mono hle⟩
                          rw [List.append_assoc, List.getElem?_append_left (by simp; have := (Array.getElem?_eq_some_iff.1 hu).1; simp at this; omega), List.getElem?_take, if_pos (by simp; omega), Array.getElem?_toList]
                          exact hu
                        · rw [List.getElem?_append_right (by omega)] at hw'
                          have hjU : j - old.length < U.length := by rw [← hU.1]; exact (List.getElem?_eq_some_iff.1 hw').1
                          refine ⟨U[j - old.length], ?_, (hU.2 _ _ _ hw' (List.getElem?_eq_getElem hjU)).mono hle⟩
                          rw [List.append_assoc, List.getElem?_append_right (by simp; omega), List.getElem?_append_left (by simp; omega), List.getElem?_eq_some_iff]
                          refine ⟨by simp; omega, ?_⟩
                          congr 1
                          simp
                          omega
                      · have e1 : (sc + r.extra - (sl + xl)) * z' = (sc + r.extra) * z' - (sl + xl) * z' := Nat.sub_mul _ _ _
                        rw [Nat.add_mul, Nat.add_mul] at e1
                        simp [e1, hUl']
                        omega
                · have hkill := post_upd (fl := fl) (nx := σ.nx) (y := none) hs hcs rfl d1 hr (HS.get_upd σ b none) rfl rfl rfl (fun _ => rfl) (Nat.le_refl _) (fun _ _ _ => rfl) (fun z hz => by cases hz)
                  obtain ⟨V, W', ρ', g1, g2, g3⟩ := grow (σ.upd b none) old hkill.sim rfl hrd rfl rfl hbig
                  exact ⟨hhf, V, W', ρ', .inl g1, g2, Post.trans (Nat.le_refl _) (by simp [HS.new, HS.upd]) hkill g3⟩
            · cases h
  · cases h
theorem run_app_zeros {ts : Array TypeId} {t0 t1 e ty : TypeId} {k kk : IntKind} {i : TypeInfo} {Z : Value} {n : Nat} (ht0 : ts[0]? = some t0) (ht1 : ts[1]? = some t1) (hu0 : P.underlying t0 = some (.slice e)) (hu1 : P.underlying t1 = some (.int k))
    (hi : P.info? e = some i) (hz : i.zero = some Z) (hn : 0 < n) (hsz : 0 < i.size) (hb : n * i.bytes ≤ 140737488355328) (h63 : n ≤ 140737488355328) :
    ∃ c, n ≤ c ∧ (Builtin.append_ ts ty #[.slice none 0 0, .int kk (n : Int)]).run P W = .ok (.slice (some ⟨W.heap.size, 0, none⟩) n c) (W.drew.alloc (.cells (Builtin.zeroCells Z.cells n ++ Builtin.zeroCells Z.cells (c - n)) e)) := by
  refine ⟨grownCap W n 0 e, grownCap_ge W _ _ e, ?_⟩
  have w1 : IntKind.i64.wrap (n : Int) = n := IntWalk.i64_in _ (by omega)
  have q0 : ¬ (n : Int) < 0 := by omega
  have q1 : ¬ (281474976710656 : Int) < n * i.bytes := by
    have e1 : ((n * i.bytes : Nat) : Int) = (n : Int) * i.bytes := by simp
    omega
  have q2 : ¬ n * i.size = 0 := by have := Nat.mul_pos hn hsz; omega
  have q3 : ¬ n = 0 := by omega
  have q4 : ¬ i.size = 0 := by omega
  have h63' : ¬ (9223372036854775807 < (n : Int)) := by omega
  have hfit := growslice_fits (old := 0) (need := n) (bytes := i.bytes) (by omega) hb
  have h48' : ¬ (281474976710656 < Builtin.nextslicecap n 0 * i.bytes) := by omega
  simp [Builtin.append_, ht0, ht1, run_under hu0, run_under hu1, run_size hi, run_info hi, run_zero hi hz, asInt, asIntOf, w1, q0, q1, q3, q4, h63', h48', Question.forced, newRow, grownCap, Builtin.firstCells]
  exact fun h0 => absurd h0 q2
theorem op_appendZ {xs : Array Operand} {y z : Lo} {t0 t1 e : TypeId} {k : IntKind} {sz by_ : Nat} {zv : HV} {ts : Array TypeId} (ho : o.op = .call { callee := .builtin .append, args := xs, argTypes := ts }) (hx : lowXs xs.toList = some [y, z]) (ht0 : ts[0]? = some t0) (ht1 : ts[1]? = some t1)
    (hu0 : P.underlying t0 = some (.slice e)) (hu1 : P.underlying t1 = some (.int k)) (hsz : szOf P e = some sz) (hby : byOf P e = some by_) (hz : zeroV P e = some zv) (hzl : zv.cells.length = sz)
    (h : oAppendZ zv.cells by_ y z a σ = some (v, σ')) (hs : Sim P base σ.h.get ρ W) (ha : AR ρ a A) (hb : base ≤ W.heap.size) (hn : ∀ b, σ.nx ≤ b → b < σ'.nx → ρ b = none) :
    HF fl σ.nx σ'.nx σ.h.get σ'.h.get ∧ Does P base fl σ σ' ρ W (execOp A.eval o) v := by
  obtain ⟨x1, x2, e1, hx1, hx2⟩ := lowXs_two hx
  have e1 := arr_two e1
  subst e1
  have h1 := ev_ok ha hx1
  have h2 := ev_ok ha hx2
  obtain ⟨i, Z, i1, i2, i3⟩ := info_zero hz ρ
  have ib : i.bytes = by_ := by simpa [byOf, i1] using hby
  have is : i.size = sz := by simpa [szOf, i1] using hsz
  have hZ : Z.cells.size = sz := by have := i3.cells.1; simp at this; omega
  have hrunB : ∀ V W', (Builtin.append_ ts o.type #[A.eval x1, A.eval x2]).run P W = .ok V W' → (execOp A.eval o).run P W = .ok (.value V) W' := fun V W' hr => by
    rw [builtin_call ho]; simp [builtin, hr]
  unfold oAppendZ at h
  split at h
  · rename_i n ey en
    rw [ey] at h1
    obtain ⟨kk, hk⟩ := nat_of h2 en
    cases hcond : (Nat.blt 0 n && Nat.ble (n * by_) 35184372088832 && Nat.ble n 35184372088832 && Nat.blt 0 zv.cells.length) with
    | false => rw [hcond] at h; cases h
    | true =>
      rw [hcond] at h
      simp only [Bool.and_eq_true, Nat.ble_eq, Nat.blt_eq] at hcond
      obtain ⟨⟨⟨c0, c1⟩, c2⟩, c3⟩ := hcond
      cases h
      have hV : A.eval x1 = .slice none 0 0 := by
        rcases vr_slices h1 with ⟨_, _, _, hV⟩ | ⟨_, _, _, h, _, _⟩
        · exact hV
        · cases h
      have hn0 := hn σ.nx (Nat.le_refl _) (by simp [HS.new])
      obtain ⟨c, hc, hrun⟩ := run_app_zeros (P := P) (W := W) (ty := o.type) (kk := kk) ht0 ht1 hu0 hu1 i1 i2 c0 (by omega) (by rw [ib]; omega) (by omega)
      have hrow : LR ρ (repl n zv.cells) (Builtin.zeroCells Z.cells n).toList := by
        exact lr_repl (c := n) (s := Z.cells.size) i3.cells (by omega)
      refine ⟨hf_new (HS.get_new σ _), .slice (some ⟨W.heap.size, 0, none⟩) n c, _, ρ.put σ.nx ⟨W.heap.size, 0, c - n⟩, .inl (hrunB _ _ (by rw [hV, hk]; exact hrun)), ?_, ?_⟩
      · have := VR.slice (ρ := ρ.put σ.nx ⟨W.heap.size, 0, c - n⟩) (b := σ.nx) (o := 0) (l := n) (c := n) (r := ⟨W.heap.size, 0, c - n⟩) (Rho.put_same _ _ _)
        have e : n + (c - n) = c := by omega
        simp only [e] at this
        exact this
      · exact post_opn (fl := fl) (e := e) hs hb hn0 hrow (by rw [size_zeroCells, hZ, hzl])
  · cases h
end Go.Hx
