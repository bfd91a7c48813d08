/- The plain machine and Go's: every operation that calls nothing, in one. -/
import Derived.Test.YtojkmobfhkjfnaaHxO
set_option linter.all false
namespace Go.Hx
variable {P : Program} {o : Oper}

theorem low_no_defer {op : Op} {l : LOp} (h : lowOp P op = some l) : ∀ c, op ≠ .defer c := by
  intro c e
  subst e
  simp [lowOp] at h
def Plain (P : Program) (o : Oper) (l : LOp) : Prop :=
  ∀ (lp : Nat → Option LFunc) (ex : Ex) (fl : Nat) (a : HAct) (σ σ' : HS) (v : HV), opH lp ex fl l a σ = some (v, σ') → (∀ b x, σ.h.get b = some x → b < σ.nx) →
    ∀ (base : Nat) (ρ : Rho) (A : Act) (W : World), Sim P base σ.h.get ρ W → AR ρ a A → base ≤ W.heap.size → (∀ b, σ.nx ≤ b → b < σ'.nx → ρ b = none) →
    HF fl σ.nx σ'.nx σ.h.get σ'.h.get ∧ Does P base fl σ σ' ρ W (execOp A.eval o) v
theorem plain_of {l : LOp} (h : Plain P o l) : Plain P o l := h
def IsCall (o : Oper) (l : LOp) : Prop := ∃ f args g xs ts, l = .call f args ∧ o.op = .call { callee := .value g, args := xs, argTypes := ts } ∧ lowX g = some f ∧ lowXs xs.toList = some args
theorem op_any {l : LOp} (hl : lowOp P o.op = some l) : IsCall o l ∨ Plain P o l := by
  unfold lowOp at hl
  split at hl
  · rename_i x ho
    simp only [Option.map_eq_some_iff] at hl
    obtain ⟨y, hy, rfl⟩ := hl
    exact .inr (plain_of fun lp ex fl a σ σ' v h hj base ρ A W hs ha hb hn => op_move (.inl ho) hy h hs ha)
  · rename_i x ho
    simp only [Option.map_eq_some_iff] at hl
    obtain ⟨y, hy, rfl⟩ := hl
    exact .inr (plain_of fun lp ex fl a σ σ' v h hj base ρ A W hs ha hb hn => op_move (.inr ho) hy h hs ha)
  · rename_i c x y ho
    split at hl
    · rename_i e1 e2 e3; cases hl
      exact .inr (plain_of fun lp ex fl a σ σ' v h hj base ρ A W hs ha hb hn => op_pick ho e1 e2 e3 h hs ha)
    · cases hl
  · rename_i t ho
    simp only [Option.map_eq_some_iff] at hl
    obtain ⟨z, hz, rfl⟩ := hl
    exact .inr (plain_of fun lp ex fl a σ σ' v h hj base ρ A W hs ha hb hn => op_alloc (a := a) ho hz h hs hb (hn _ (Nat.le_refl _) (by cases h; simp [HS.new])))
  · rename_i t x ho
    simp only [Option.map_eq_some_iff] at hl
    obtain ⟨y, hy, rfl⟩ := hl
    exact .inr (plain_of fun lp ex fl a σ σ' v h hj base ρ A W hs ha hb hn => op_box ho hy h hs ha hb (hn _ (Nat.le_refl _) (by cases h; simp [HS.new])))
  · rename_i t parts ho
    split at hl
    · rename_i fs z hu hz
      cases hall : fs.toList.all (fun f => (szOf P f.type).isSome) with
      | false => rw [hall] at hl; cases hl
      | true =>
        rw [hall] at hl
        simp only [Bool.not_true, cond_false, Option.map_eq_some_iff] at hl
        obtain ⟨ps, hp, rfl⟩ := hl
        exact .inr (plain_of fun lp ex fl a σ σ' v h hj base ρ A W hs ha hb hn => op_build_struct ho hu hz hall hp h hs ha)
    · rename_i n e z hu hz
      split at hl
      · rename_i s hs'
        simp only [Option.map_eq_some_iff] at hl
        obtain ⟨ps, hp, rfl⟩ := hl
        exact .inr (plain_of fun lp ex fl a σ σ' v h hj base ρ A W hs ha hb hn => op_build_array ho hu hz hs' hp h hs ha)
      · cases hl
    · cases hl
  · rename_i t len parts ho
    split at hl
    · rename_i e hu
      split at hl
      · rename_i s z hs' hz
        cases hc : (Nat.ble (len * s) 100000 && Nat.beq z.cells.length s) with
        | false => rw [hc] at hl; cases hl
        | true =>
          rw [hc] at hl
          simp only [cond_true, Option.map_eq_some_iff] at hl
          simp only [Bool.and_eq_true, Nat.ble_eq, Nat.beq_eq] at hc
          obtain ⟨ps, hp, rfl⟩ := hl
          exact .inr (plain_of fun lp ex fl a σ σ' v h hj base ρ A W hs ha hb hn => op_buildSlice ho hu hs' hz hc.1 hc.2 hp h hs ha hb hn)
      · cases hl
    · cases hl
  · rename_i t x ho
    split at hl
    · rename_i n y e1 e2 e3; cases hl
      exact .inr (plain_of fun lp ex fl a σ σ' v h hj base ρ A W hs ha hb hn => op_load ho e1 e2 rfl e3 h hs ha)
    · rename_i n y e1 e2 e3; cases hl
      exact .inr (plain_of fun lp ex fl a σ σ' v h hj base ρ A W hs ha hb hn => op_load ho e1 e2 rfl e3 h hs ha)
    · cases hl
  · rename_i t x w ho
    split at hl
    · rename_i e1 e2 e3; cases hl
      exact .inr (plain_of fun lp ex fl a σ σ' v h hj base ρ A W hs ha hb hn => op_store ho e1 e2 e3 h hs ha hj)
    · cases hl
  · rename_i x ho
    simp only [Option.map_eq_some_iff] at hl
    obtain ⟨y, hy, rfl⟩ := hl
    exact .inr (plain_of fun lp ex fl a σ σ' v h hj base ρ A W hs ha hb hn => op_nilCheck ho hy h hs ha)
  · rename_i op t x y t' ho
    split at hl
    · rename_i e1 e2
      split at hl
      · simp only [Option.map_eq_some_iff] at hl
        obtain ⟨d, hd, rfl⟩ := hl
        exact .inr (plain_of fun lp ex fl a σ σ' v h hj base ρ A W hs ha hb hn => op_eq ho rfl hd e1 e2 h hs ha)
      · simp only [Option.map_eq_some_iff] at hl
        obtain ⟨d, hd, rfl⟩ := hl
        exact .inr (plain_of fun lp ex fl a σ σ' v h hj base ρ A W hs ha hb hn => op_eq ho rfl hd e1 e2 h hs ha)
      · cases hl
        exact .inr (plain_of fun lp ex fl a σ σ' v h hj base ρ A W hs ha hb hn => op_bin ho e1 e2 h hs ha)
    · cases hl
  · rename_i op t x ho
    simp only [Option.map_eq_some_iff] at hl
    obtain ⟨y, hy, rfl⟩ := hl
    exact .inr (plain_of fun lp ex fl a σ σ' v h hj base ρ A W hs ha hb hn => op_un ho hy h hs ha)
  · rename_i s d x ho
    split at hl
    · rename_i e1 e2 e3; cases hl
      exact .inr (plain_of fun lp ex fl a σ σ' v h hj base ρ A W hs ha hb hn => op_convInt ho e1 e2 e3 h hs ha)
    · cases hl
  · rename_i f xs cs ho
    split at hl
    · rename_i e1 e2; cases hl
      exact .inr (plain_of fun lp ex fl a σ σ' v h hj base ρ A W hs ha hb hn => op_makeFunc ho e1 e2 h hs ha)
    · cases hl
  · rename_i t ho
    cases hl
    exact .inr (plain_of fun lp ex fl a σ σ' v h hj base ρ A W hs ha hb hn => op_makeMap (a := a) ho h hs hb (hn _ (Nat.le_refl _) (by cases h; simp [HS.new])))
  · rename_i t l c ho
    split at hl
    · rename_i e hu
      split at hl
      · rename_i b s z l' c' e1 e2 e3 e4 e5
        rw [cond_beq] at hl
        split at hl
        · rename_i hzl
          cases hl
          refine .inr (plain_of fun lp ex fl a σ σ' v h hj base ρ A W hs ha hb hn => op_makeSlice ho hu e1 e2 e3 hzl e4 e5 h hs ha hb (hn _ (Nat.le_refl _) ?_))
          have h' : oMakeSlice z.cells b l' c' a σ = some (v, σ') := h
          unfold oMakeSlice at h'
          split at h'
          · rename_i m n _ _
            cases hcond : (Nat.ble m n && Nat.ble (n * b) 35184372088832 && Nat.ble n 35184372088832) with
            | false => rw [hcond] at h'; cases h'
            | true => rw [hcond] at h'; cases h'; simp [HS.new]
          · cases h'
        · cases hl
      · cases hl
    · cases hl
  · rename_i t x lo hi ho
    split at hl
    · rename_i e hu
      split at hl
      · rename_i e1 e2 e3 e4; cases hl
        exact .inr (plain_of fun lp ex fl a σ σ' v h hj base ρ A W hs ha hb hn => op_sliceS ho hu e1 e2 e3 e4 h hs ha hn)
      · cases hl
    · cases hl
  · rename_i t x f ho
    split at hl
    · rename_i fs hu
      split at hl
      · rename_i fd hf
        split at hl
        · rename_i e1 e2; cases hl
          exact .inr (plain_of fun lp ex fl a σ σ' v h hj base ρ A W hs ha hb hn => op_fieldAddr ho hu hf e1 e2 h hs ha)
        · cases hl
      · cases hl
    · cases hl
  · rename_i t x f ho
    split at hl
    · rename_i fs hu
      split at hl
      · rename_i fd hf
        split at hl
        · rename_i e1 e2 e3; cases hl
          exact .inr (plain_of fun lp ex fl a σ σ' v h hj base ρ A W hs ha hb hn => op_field ho hu hf e1 e2 e3 h hs ha)
        · cases hl
      · cases hl
    · cases hl
  · rename_i t x i ho
    split at hl
    · rename_i e hu
      split at hl
      · rename_i e1 e2 e3; cases hl
        exact .inr (plain_of fun lp ex fl a σ σ' v h hj base ρ A W hs ha hb hn => op_indexAddrS ho hu e1 e2 e3 h hs ha)
      · cases hl
    · rename_i len e hu
      split at hl
      · rename_i e1 e2 e3; cases hl
        exact .inr (plain_of fun lp ex fl a σ σ' v h hj base ρ A W hs ha hb hn => op_indexAddrA ho hu e1 e2 e3 h hs ha)
      · cases hl
    · cases hl
  · rename_i t x i ho
    split at hl
    · rename_i len e hu
      split at hl
      · rename_i e1 e2 e3 e4; cases hl
        exact .inr (plain_of fun lp ex fl a σ σ' v h hj base ρ A W hs ha hb hn => op_indexA ho hu e1 e2 e3 e4 h hs ha)
      · cases hl
    · cases hl
  · rename_i t m k ok ho
    split at hl
    · rename_i kt e hu
      split at hl
      · rename_i e1 e2 e3 e4; cases hl
        exact .inr (plain_of fun lp ex fl a σ σ' v h hj base ρ A W hs ha hb hn => op_lookup ho hu e1 e2 e3 e4 h hs ha)
      · cases hl
    · cases hl
  · rename_i t m k w ho
    split at hl
    · rename_i kt e hu
      split at hl
      · rename_i e1 e2 e3 e4; cases hl
        exact .inr (plain_of fun lp ex fl a σ σ' v h hj base ρ A W hs ha hb hn => op_mapUpdate (.inl ho) hu e1 e2 e3 e4 h hs ha hj)
      · cases hl
    · cases hl
  · rename_i t m k w ho
    split at hl
    · rename_i kt e hu
      split at hl
      · rename_i e1 e2 e3 e4; cases hl
        exact .inr (plain_of fun lp ex fl a σ σ' v h hj base ρ A W hs ha hb hn => op_mapUpdate (.inr ho) hu e1 e2 e3 e4 h hs ha hj)
      · cases hl
    · cases hl
  · rename_i x i ho
    simp only [Option.map_eq_some_iff] at hl
    obtain ⟨y, hy, rfl⟩ := hl
    exact .inr (plain_of fun lp ex fl a σ σ' v h hj base ρ A W hs ha hb hn => op_extract ho hy h hs ha)
  · rename_i f xs ts ho
    split at hl
    · rename_i e1 e2; cases hl
      exact .inl ⟨_, _, f, xs, ts, rfl, ho, e1, e2⟩
    · cases hl
  · rename_i b xs ts ho
    split at hl
    · rename_i y t e1 e2
      split at hl
      · rename_i hu; cases hl
        exact .inr (plain_of fun lp ex fl a σ σ' v h hj base ρ A W hs ha hb hn => op_len (k := .str) ho e1 e2 hu h hs ha)
      · rename_i hu; cases hl
        exact .inr (plain_of fun lp ex fl a σ σ' v h hj base ρ A W hs ha hb hn => op_len (k := .slice) ho e1 e2 ⟨_, hu⟩ h hs ha)
      · rename_i hu; cases hl
        exact .inr (plain_of fun lp ex fl a σ σ' v h hj base ρ A W hs ha hb hn => op_len (k := .map) ho e1 e2 ⟨_, _, hu⟩ h hs ha)
      · cases hl
    · rename_i y t e1 e2
      split at hl
      · rename_i hu; cases hl
        exact .inr (plain_of fun lp ex fl a σ σ' v h hj base ρ A W hs ha hb hn => op_cap ho e1 e2 hu h hs ha)
      · cases hl
    · rename_i ys e1; cases hl
      exact .inr (plain_of fun lp ex fl a σ σ' v h hj base ρ A W hs ha hb hn => op_min ho e1 h hs ha)
    · rename_i ys e1; cases hl
      exact .inr (plain_of fun lp ex fl a σ σ' v h hj base ρ A W hs ha hb hn => op_max ho e1 h hs ha)
    · rename_i y z t e1 e2
      split at hl
      · rename_i e e' hu0 hu1
        simp only [Option.bind_eq_some_iff] at hu1
        obtain ⟨t1, ht1, hu1⟩ := hu1
        split at hl
        · rename_i sz by_ zv e3 e4 e5
          rw [cond_beq] at hl
          split at hl
          · rename_i hzl
            cases hl
            exact .inr (plain_of fun lp ex fl a σ σ' v h hj base ρ A W hs ha hb hn => op_append ho e1 e2 ht1 hu0 hu1 e3 e4 e5 hzl h hs ha hb hn hj)
          · cases hl
        · cases hl
      · rename_i e k hu0 hu1
        simp only [Option.bind_eq_some_iff] at hu1
        obtain ⟨t1, ht1, hu1⟩ := hu1
        split at hl
        · rename_i sz by_ zv e3 e4 e5
          rw [cond_beq] at hl
          split at hl
          · rename_i hzl
            cases hl
            exact .inr (plain_of fun lp ex fl a σ σ' v h hj base ρ A W hs ha hb hn => op_appendZ ho e1 e2 ht1 hu0 hu1 e3 e4 e5 hzl h hs ha hb hn)
          · cases hl
        · cases hl
      · cases hl
    · cases hl
  · cases hl
end Go.Hx
