/- The plain machine and Go's: regions that draw their order: whatever order is drawn, it comes to the same. -/
import Derived.Test.YtojkmobfhkjfnaaHxY
set_option linter.all false
namespace Go.Hx
variable {P : Program} {lp : Nat → Option LFunc} {ex : Ex}

/-- What is known of a region and of its run in the order of the text. -/
structure DF (P : Program) (lp : Nat → Option LFunc) (ex : Ex) (ops : Array Oper) (fl z : Nat) (σ : HS) (v : Nat → HV) (A : Nat → HAct) (S S' : Nat → HS) (mask : Nat → Nat) : Prop where
  zN : z ≤ ops.size
  flo : fl ≤ σ.nx
  dom : Dom σ
  n0 : (S 0).nx = σ.nx
  edge : ∀ i o, ops[i]? = some o → ∀ e ∈ o.after, Region.binds .any e = true → e.on < i
  anc : ∀ i o, ops[i]? = some o → ∀ j, (mask i).testBit j = true → ∃ e ∈ o.after, Region.binds .any e = true ∧ (j = e.on ∨ (mask e.on).testBit j = true)
  cl : ∀ i o j x, ops[i]? = some o → ops[j]? = some x → j < i → (mask i).testBit j = true ∨ clash (lowOper P ops x) (lowOper P ops o) = false
  ord : ∀ i o j x, ops[i]? = some o → ops[j]? = some x → j < i → z ≤ i → (mask i).testBit j = true ∨ (lowOper P ops x).op.touches = false ∨ (lowOper P ops o).op.touches = false
  act : ∀ i o, ops[i]? = some o → A (i + 1) = (A i).put o.dst (v i)
  pure : ∀ i o, ops[i]? = some o → i < z → stepVal lp ex (S i).nx (lowOper P ops o) (A i) (S i) = some (v i, S' i)
  nxt : ∀ i, i < ops.size → (S i).nx ≤ (S (i + 1)).nx ∧ (S (i + 1)).nx = (S' i).nx
  from_ : ∀ i o, ops[i]? = some o → i < z → ∀ b x, (S i).h.get b = some x → σ.h.get b = some x ∨ ∃ j, j < i ∧ (mask i).testBit j = true ∧ (S j).nx ≤ b ∧ b < (S' j).nx ∧ (S' j).h.get b = some x
  zone : ∀ i o, ops[i]? = some o → z ≤ i → stepVal lp ex fl (lowOper P ops o) (A i) (S i) = some (v i, S' i) ∧ S (i + 1) = S' i
  all : ∀ b x, (S z).h.get b = some x → σ.h.get b = some x ∨ ∃ j, j < z ∧ (S j).nx ≤ b ∧ b < (S' j).nx ∧ (S' j).h.get b = some x
  other : ∀ b, (∀ j, j < z → ¬((S j).nx ≤ b ∧ b < (S' j).nx)) → (S z).h.get b = σ.h.get b

section
variable {ops : Array Oper} {fl z : Nat} {σ : HS} {v : Nat → HV} {A : Nat → HAct} {S S' : Nat → HS} {mask : Nat → Nat}

theorem DF.mono (d : DF P lp ex ops fl z σ v A S S' mask) {i j : Nat} (h : i ≤ j) (hj : j ≤ ops.size) : (S i).nx ≤ (S j).nx := by
  induction j with
  | zero => rw [show i = 0 by omega]; exact Nat.le_refl _
  | succ j ih =>
    by_cases e : i = j + 1
    · rw [e]; exact Nat.le_refl _
    · exact Nat.le_trans (ih (by omega) (by omega)) (d.nxt j (by omega)).1
/-- Blocks of one operation are no other's. -/
theorem DF.apart (d : DF P lp ex ops fl z σ v A S S' mask) {i j b : Nat} (hi : i < ops.size) (hj : j < ops.size) (hne : i ≠ j) (h1 : (S i).nx ≤ b) (h2 : b < (S' i).nx) (h3 : (S j).nx ≤ b) (h4 : b < (S' j).nx) : False := by
  have e1 := (d.nxt i hi).2
  have e2 := (d.nxt j hj).2
  rcases Nat.lt_or_gt_of_ne hne with h | h
  · have := d.mono (i := i + 1) (j := j) h (by omega)
    omega
  · have := d.mono (i := j + 1) (j := i) h (by omega)
    omega
theorem DF.step (d : DF P lp ex ops fl z σ v A S S' mask) {i : Nat} {o : Oper} (ho : ops[i]? = some o) : ∃ f, stepVal lp ex f (lowOper P ops o) (A i) (S i) = some (v i, S' i) := by
  by_cases h : i < z
  · exact ⟨_, d.pure i o ho h⟩
  · exact ⟨_, (d.zone i o ho (by omega)).1⟩
theorem DF.untouch (d : DF P lp ex ops fl z σ v A S S' mask) {i : Nat} {o : Oper} (ho : ops[i]? = some o) (ht : (lowOper P ops o).op.touches = false) : S' i = S i := by
  obtain ⟨f, h⟩ := d.step ho
  exact (val_untouch ht h).1
/-- From one place of the zone to the next one that touches memory nothing happens. -/
theorem DF.still (d : DF P lp ex ops fl z σ v A S S' mask) {k i : Nat} (hz : z ≤ k) (hk : k ≤ i) (hi : i ≤ ops.size) (h : ∀ j o, k ≤ j → j < i → ops[j]? = some o → (lowOper P ops o).op.touches = false) : S i = S k := by
  induction i with
  | zero => rw [show k = 0 by omega]
  | succ i ih =>
    by_cases e : k = i + 1
    · rw [e]
    · have hlt : i < ops.size := by omega
      have ho : ops[i]? = some ops[i] := by simp [hlt]
      rw [(d.zone i _ ho (by omega)).2, d.untouch ho (h i _ (by omega) (by omega) ho)]
      exact ih (by omega) (by omega) (fun j o h1 h2 => h j o h1 (by omega))

/-! temporaries, when some of the operations have been done -/
noncomputable def actL (ops : Array Oper) (v : Nat → HV) (L : Nat → Bool) (a : HAct) : Nat → HAct
  | 0 => a
  | k + 1 => bif L k then (actL ops v L a k).put ((ops[k]?).bind (·.dst)) (v k) else actL ops v L a k
theorem put_nt (a : HAct) (d : Option Nat) (x : HV) : (a.put d x).nt = a.nt := by
  unfold HAct.put
  cases d with
  | none => rfl
  | some d => dsimp only; cases h : Nat.blt d a.nt <;> rfl
theorem put_tmp (a : HAct) (d : Option Nat) (x : HV) (t : Nat) : (a.put d x).tmp t = if d = some t ∧ t < a.nt then x else a.tmp t := by
  unfold HAct.put
  cases d with
  | none => simp
  | some d =>
    dsimp only
    cases h : Nat.blt d a.nt with
    | true =>
      have hd := blt_lt h
      simp only [cond_true, HAct.tmp, Tr.get_set, Option.some.injEq]
      by_cases e : t = d
      · subst e; rw [if_pos rfl, if_pos ⟨rfl, hd⟩]; rfl
      · rw [if_neg e, if_neg (by omega)]
    | false =>
      have hd : ¬ d < a.nt := by intro h2; rw [← Nat.blt_eq] at h2; rw [h2] at h; cases h
      simp only [cond_false, Option.some.injEq]
      rw [if_neg (by rintro ⟨rfl, h⟩; exact hd h)]
theorem act_nt {L : Nat → Bool} {a : HAct} (k : Nat) : (actL ops v L a k).nt = a.nt := by
  induction k with
  | zero => rfl
  | succ k ih =>
    unfold actL
    cases L k with
    | true => rw [cond_true, put_nt, ih]
    | false => rw [cond_false, ih]
theorem DF.act_all_nt (d : DF P lp ex ops fl z σ v A S S' mask) {k : Nat} (hk : k ≤ ops.size) : (A k).nt = (A 0).nt := by
  induction k with
  | zero => rfl
  | succ k ih =>
    have hlt : k < ops.size := by omega
    have ho : ops[k]? = some ops[k] := by simp [hlt]
    rw [d.act k _ ho, put_nt, ih (by omega)]
theorem clash_names {x y : LOper} (h : clash x y = false) : (∀ t, x.dst = some t → t ∉ y.names) ∧ (∀ t, y.dst = some t → t ∉ x.names) := by
  unfold clash at h
  simp only [Bool.or_eq_false_iff] at h
  refine ⟨fun t ht hm => ?_, fun t ht hm => ?_⟩
  · have := h.1; rw [ht] at this; simp at this; exact this hm
  · have := h.2; rw [ht] at this; simp at this; exact this hm
theorem low_dst (o : Oper) : (lowOper P ops o).dst = o.dst := by unfold lowOper; split <;> rfl
/-- An operation that is not done yet sees what it sees in the order of the text. -/
theorem DF.sees (d : DF P lp ex ops fl z σ v A S S' mask) {L : Nat → Bool} {i : Nat} {o : Oper} (ho : ops[i]? = some o) (hi : L i = false) (hanc : ∀ j, (mask i).testBit j = true → L j = true)
    (hcl : ∀ k, L k = true → ∀ j, (mask k).testBit j = true → L j = true) {t : Nat} (ht : t ∈ (lowOper P ops o).names) : (actL ops v L (A 0) ops.size).tmp t = (A i).tmp t := by
  have hlt : i < ops.size := (Array.getElem?_eq_some_iff.1 ho).1
  have h1 : ∀ k, k ≤ i → (actL ops v L (A 0) k).tmp t = (A k).tmp t := by
    intro k
    induction k with
    | zero => intro _; rfl
    | succ k ih =>
      intro hk
      have hkl : k < ops.size := by omega
      have hok : ops[k]? = some ops[k] := by simp [hkl]
      have ih := ih (by omega)
      rw [d.act k _ hok]
      unfold actL
      cases hL : L k with
      | true =>
        rw [cond_true, put_tmp, put_tmp, act_nt, d.act_all_nt (k := k) (by omega), ih, hok]
        simp only [Option.bind_some]
      | false =>
        rw [cond_false, put_tmp, ih]
        rcases d.cl i o k _ ho hok (by omega) with h | h
        · rw [hanc k h] at hL; cases hL
        · have := (clash_names h).1 t
          rw [low_dst] at this
          rw [if_neg (fun hh => this hh.1 ht)]
  have h2 : ∀ k, i ≤ k → k ≤ ops.size → (actL ops v L (A 0) k).tmp t = (A i).tmp t := by
    intro k
    induction k with
    | zero => intro hk _; rw [show i = 0 by omega]; rfl
    | succ k ih =>
      intro hk hk2
      by_cases e : i = k + 1
      · rw [← e]; exact h1 i (Nat.le_refl _)
      · have ih := ih (by omega) (by omega)
        have hkl : k < ops.size := by omega
        have hok : ops[k]? = some ops[k] := by simp [hkl]
        unfold actL
        cases hL : L k with
        | false => exact ih
        | true =>
          rw [cond_true, put_tmp, ih, hok]
          simp only [Option.bind_some]
          have hne : i ≠ k := fun e => by rw [e] at hi; rw [hi] at hL; cases hL
          rcases d.cl k _ i o hok ho (by omega) with h | h
          · rw [hcl k hL i h] at hi; cases hi
          · have := (clash_names h).2 t
            rw [low_dst] at this
            rw [if_neg (fun hh => this hh.1 ht)]
  exact h2 _ (by omega) (Nat.le_refl _)
def also (L : Nat → Bool) (i : Nat) : Nat → Bool := fun j => if j = i then true else L j
theorem DF.done (d : DF P lp ex ops fl z σ v A S S' mask) {L : Nat → Bool} {i : Nat} {o : Oper} (ho : ops[i]? = some o) (hi : L i = false)
    (hcl : ∀ k, L k = true → ∀ j, (mask k).testBit j = true → L j = true) (t : Nat) : (actL ops v (also L i) (A 0) ops.size).tmp t = ((actL ops v L (A 0) ops.size).put o.dst (v i)).tmp t := by
  have hlt : i < ops.size := (Array.getElem?_eq_some_iff.1 ho).1
  have h1 : ∀ k, k ≤ i → actL ops v (also L i) (A 0) k = actL ops v L (A 0) k := by
    intro k
    induction k with
    | zero => intro _; rfl
    | succ k ih =>
      intro hk
      unfold actL
      rw [ih (by omega), show also L i k = L k by simp [also]; omega]
  have h2 : ∀ k, i < k → k ≤ ops.size → ∀ t, (actL ops v (also L i) (A 0) k).tmp t = ((actL ops v L (A 0) k).put o.dst (v i)).tmp t := by
    intro k
    induction k with
    | zero => intro hk; omega
    | succ k ih =>
      intro hk hk2 t
      by_cases e : i = k
      · subst e
        unfold actL
        rw [h1 i (Nat.le_refl _), hi, show also L i i = true by simp [also], ho]
        rfl
      · have ih := ih (by omega) (by omega)
        have hkl : k < ops.size := by omega
        have hok : ops[k]? = some ops[k] := by simp [hkl]
        unfold actL
        rw [show also L i k = L k by simp [also]; omega]
        cases hL : L k with
        | false => exact ih t
        | true =>
          simp only [cond_true, hok, Option.bind_some]
          rw [put_tmp, put_tmp, put_tmp, ih, put_tmp, put_nt, act_nt, act_nt]
          rcases d.cl k _ i o hok ho (by omega) with h | h
          · rw [hcl k hL i h] at hi; cases hi
          · by_cases c1 : ops[k].dst = some t ∧ t < (A 0).nt
            · have := (clash_names h).2 t
              rw [low_dst] at this
              have hn := this c1.1
              have : ¬ (o.dst = some t ∧ t < (A 0).nt) := by
                rintro ⟨h5, _⟩
                apply hn
                unfold LOper.names
                rw [low_dst, h5]
                simp
              rw [if_pos c1, if_neg this, if_pos c1]
            · simp only [if_neg c1]
  exact h2 _ hlt (Nat.le_refl _) t
theorem DF.done_all (d : DF P lp ex ops fl z σ v A S S' mask) {L : Nat → Bool} (h : ∀ i, i < ops.size → L i = true) {k : Nat} (hk : k ≤ ops.size) : actL ops v L (A 0) k = A k := by
  induction k with
  | zero => rfl
  | succ k ih =>
    have hkl : k < ops.size := by omega
    have hok : ops[k]? = some ops[k] := by simp [hkl]
    unfold actL
    rw [h k hkl, ih (by omega), d.act k _ hok, hok]
    rfl
end

def cnt (L : Nat → Bool) : Nat → Nat
  | 0 => 0
  | k + 1 => cnt L k + (bif L k then 0 else 1)
theorem cnt_also {L : Nat → Bool} {i : Nat} (hi : L i = false) : ∀ k, (k ≤ i → cnt (also L i) k = cnt L k) ∧ (i < k → cnt (also L i) k + 1 = cnt L k)
  | 0 => ⟨fun _ => rfl, fun h => by omega⟩
  | k + 1 => by
    obtain ⟨h1, h2⟩ := cnt_also hi k
    unfold cnt
    refine ⟨fun h => ?_, fun h => ?_⟩
    · rw [h1 (by omega), show also L i k = L k by simp [also]; omega]
    · by_cases e : k = i
      · subst e
        rw [h1 (Nat.le_refl _), hi, show also L k k = true by simp [also]]
        rfl
      · rw [show also L i k = L k by simp [also]; omega, ← h2 (by omega)]
        omega
theorem cnt_zero {L : Nat → Bool} : ∀ k, cnt L k = 0 → ∀ i, i < k → L i = true
  | 0, _, i, h => by omega
  | k + 1, h, i, hi => by
    unfold cnt at h
    have h1 : cnt L k = 0 := by omega
    by_cases e : i = k
    · subst e
      cases hL : L i with
      | true => rfl
      | false => rw [hL] at h; simp at h
    · exact cnt_zero k h1 i (by omega)
theorem cnt_none {L : Nat → Bool} (h : ∀ i, L i = false) : ∀ k, cnt L k = k
  | 0 => rfl
  | k + 1 => by unfold cnt; rw [cnt_none h k, h k]; rfl
end Go.Hx
