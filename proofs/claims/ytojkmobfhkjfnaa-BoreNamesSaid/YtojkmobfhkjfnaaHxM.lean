/- The plain machine and Go's: '==' and '!=', maps read and written. -/
import Derived.Test.YtojkmobfhkjfnaaHxK
set_option linter.all false
namespace Go.Hx
variable {P : Program} {base fl : Nat} {a : HAct} {σ σ' : HS} {v : HV} {ρ : Rho} {A : Act} {W : World} {o : Oper}

theorem guard_fields {d n : Nat} (IH : ∀ (t : TypeId) (ks : List Leaf), leaves P d t = some ks → P.eqGuardType n t = false) : ∀ (fs : List Field) (off : Nat) (ks : List Leaf), leavesF P (leaves P d) fs off = some ks →
    (fs.any fun f => f.name != "_" && P.eqGuardType n f.type) = false
  | [], _, _, _ => rfl
  | f :: fs, off, ks, h => by
    unfold leavesF at h
    split at h
    · rename_i k1 m e1 e2
      cases hc : (f.name != "_" && Nat.beq f.offset off && Nat.beq m k1.length) with
      | false => rw [hc] at h; cases h
      | true =>
        rw [hc] at h
        simp only [cond_true, Option.map_eq_some_iff] at h
        obtain ⟨k2, e3, _⟩ := h
        simp [IH _ _ e1]
        have := guard_fields IH fs _ _ e3
        simpa using this
    · cases h
theorem guard_leaves : ∀ (d : Nat) (t : TypeId) (ks : List Leaf), leaves P d t = some ks → ∀ n, d ≤ n → P.eqGuardType n t = false
  | 0, t, ks, h, _, _ => by simp [leaves] at h
  | d + 1, t, ks, h, n, hn => by
    obtain ⟨m, rfl⟩ : ∃ m, n = m + 1 := ⟨n - 1, by omega⟩
    unfold leaves at h
    split at h
    · rename_i hu; simp [Program.eqGuardType, hu]
    · rename_i hu; simp [Program.eqGuardType, hu]
    · rename_i hu; simp [Program.eqGuardType, hu]
    · rename_i fs hu
      cases hst : P.stoodInHeld t with
      | true => rw [hst] at h; cases h
      | false =>
        rw [hst] at h
        simp only [cond_false] at h
        have := guard_fields (fun t ks h => guard_leaves d t ks h m (by omega)) fs.toList 0 ks h
        simp only [Program.eqGuardType, hu]
        rw [← Array.any_toList]
        exact this
    · cases h

def EdFits (P : Program) (t : TypeId) : ED → Prop
  | .cell k => ∃ td, P.underlying t = some td ∧ leafFits k td
  | .row ks => 20 ≤ P.depth ∧ leaves P 20 t = some ks ∧ aggOf P t = some true
  | .nilSlice => ∃ e, P.underlying t = some (.slice e)
  | .nilPtr => ∃ e, P.underlying t = some (.pointer e)
  | .nilMap => ∃ k e, P.underlying t = some (.map k e)
  | .nilFunc => ∃ p r q, P.underlying t = some (.func p r q)
theorem ed_fits {t : TypeId} {d : ED} (h : edOf P t = some d) : EdFits P t d := by
  unfold edOf at h
  split at h
  · rename_i hu; cases h; exact ⟨_, hu⟩
  · rename_i hu; cases h; exact ⟨_, hu⟩
  · rename_i hu; cases h; exact ⟨_, _, hu⟩
  · rename_i hu; cases h; exact ⟨_, _, _, hu⟩
  · rename_i hu; cases h; exact ⟨_, hu, trivial⟩
  · rename_i hu; cases h; exact ⟨_, hu, rfl⟩
  · rename_i hu; cases h; exact ⟨_, hu, trivial⟩
  · rename_i hu
    cases hc : Nat.ble 20 P.depth with
    | false => rw [hc] at h; cases h
    | true =>
      rw [hc] at h
      simp only [cond_true, Option.map_eq_some_iff] at h
      obtain ⟨ks, h1, rfl⟩ := h
      exact ⟨Nat.le_of_ble_eq_true hc, h1, by simp [aggOf, hu]⟩
  · cases h
theorem vr_nilptr {ρ : Rho} {V : Value} (h : VR ρ (.ptr none) V) : V = .pointer none := by cases h; rfl
theorem vr_anyptr {ρ : Rho} {p : Option (Nat × Nat)} {V : Value} (h : VR ρ (.ptr p) V) : ∃ q, V = .pointer q ∧ p.isNone = q.isNone := by
  cases h
  · exact ⟨_, rfl, rfl⟩
  · exact ⟨_, rfl, rfl⟩
theorem vr_anymap {ρ : Rho} {p : Option Nat} {V : Value} (h : VR ρ (.map p) V) : ∃ q, V = .map q ∧ p.isNone = q.isNone := by
  cases h
  · exact ⟨_, rfl, rfl⟩
  · exact ⟨_, rfl, rfl⟩
theorem vr_nilfunc {ρ : Rho} {V : Value} (h : VR ρ .nilFunc V) : V = .nilFunc := by cases h; rfl
theorem vr_nilsl {ρ : Rho} {l c : Nat} {V : Value} (h : VR ρ (.slice none l c) V) : V = .slice none 0 0 := (vr_nilslice h).1

/-- Whether two values are equal, as Go's machine finds it. -/
theorem equal_runD (m : Nat) {d : ED} {t : TypeId} {x y : HV} {X Y : Value} {b : Bool} (hd : EdFits P t d) (h : eqH d x y = some b) (hx : VR ρ x X) (hy : VR ρ y Y) : (Op.equalIn (20 + m) t X Y).run P W = .ok b W := by
  have e : 20 + m = (19 + m) + 1 := by omega
  cases d with
  | cell k =>
    obtain ⟨td, hu, hf⟩ := hd
    rw [e]
    exact (eq_leaf (P := P) (W := W) h hx hy).2.2.1 _ t td hu hf
  | row ks =>
    obtain ⟨_, hl, hg⟩ := hd
    unfold eqH at h
    split at h <;> first | contradiction | skip
    rename_i xs ys heq
    cases heq
    obtain ⟨C, rfl, hC⟩ := VR.inv_agg hx
    obtain ⟨D, rfl, hD⟩ := VR.inv_agg hy
    have := eq_leaves (P := P) (W := W) (ρ := ρ) m 20 t ks hl xs ys C D b h hC hD
    simpa [mk, hg] using this
  | nilSlice =>
    obtain ⟨e', hu⟩ := hd
    rw [e]
    unfold eqH at h
    split at h <;> first | contradiction | skip
    obtain ⟨q1, d1, rfl, h1⟩ := vr_anyslice hx
    obtain ⟨q2, d2, rfl, h2⟩ := vr_anyslice hy
    rw [h1, h2] at h
    cases q1 with
    | none => cases h; cases hx; simp [Op.equalIn, run_under hu]
    | some q1 =>
      cases q2 with
      | none => cases h; cases hy; simp [Op.equalIn, run_under hu]
      | some q2 => cases h
  | nilPtr =>
    obtain ⟨e', hu⟩ := hd
    rw [e]
    unfold eqH at h
    split at h <;> first | contradiction | skip
    obtain ⟨q1, rfl, h1⟩ := vr_anyptr hx
    obtain ⟨q2, rfl, h2⟩ := vr_anyptr hy
    rw [h1, h2] at h
    cases q1 with
    | none => cases h; simp [Op.equalIn, run_under hu]
    | some q1 =>
      cases q2 with
      | none => cases h; simp [Op.equalIn, run_under hu]
      | some q2 => cases h
  | nilMap =>
    obtain ⟨k, e', hu⟩ := hd
    rw [e]
    unfold eqH at h
    split at h <;> first | contradiction | skip
    obtain ⟨q1, rfl, h1⟩ := vr_anymap hx
    obtain ⟨q2, rfl, h2⟩ := vr_anymap hy
    rw [h1, h2] at h
    cases q1 with
    | none => cases h; simp [Op.equalIn, run_under hu]
    | some q1 =>
      cases q2 with
      | none => cases h; simp [Op.equalIn, run_under hu]
      | some q2 => cases h
  | nilFunc =>
    obtain ⟨p, r, q, hu⟩ := hd
    rw [e]
    unfold eqH at h
    split at h <;> first | contradiction | skip
    · cases h
      rw [vr_nilfunc hx, vr_nilfunc hy]
      simp [Op.equalIn, run_under hu]
    · cases h
      obtain ⟨F, C, rfl, _, _⟩ := vr_func hy
      rw [vr_nilfunc hx]
      simp [Op.equalIn, run_under hu]
    · cases h
      obtain ⟨F, C, rfl, _, _⟩ := vr_func hx
      rw [vr_nilfunc hy]
      simp [Op.equalIn, run_under hu]
theorem equal_run {d : ED} {t : TypeId} {x y : HV} {X Y : Value} {b : Bool} (hd : EdFits P t d) (h : eqH d x y = some b) (hx : VR ρ x X) (hy : VR ρ y Y) : (Op.equal t X Y).run P W = .ok b W :=
  equal_runD 9980 hd h hx hy
/-- 'op' is '==' or '!=': what it makes of whether they are equal. -/
theorem eq_run {d : ED} {neg : Bool} {op : BinOp} {t : TypeId} {x y : HV} {X Y : Value} {b : Bool} (hop : op = if neg then .neq else .eql) (hd : EdFits P t d) (h : eqH d x y = some b) (hx : VR ρ x X) (hy : VR ρ y Y) (p q : Operand) :
    (eqGuard op t p q X Y).run P W = .ok () W ∧ (binOp op t X Y).run P W = .ok (.bool (b != neg)) W := by
  have he := equal_run (W := W) hd h hx hy
  cases d with
  | cell k =>
    unfold eqH at h
    simp only at h
    unfold eqLeaf at h
    split at h
    · cases h
      rw [vr_bool hx, vr_bool hy] at he ⊢
      subst hop
      cases neg <;> simp [eqGuard, binOp, he]
    · split at h
      · rename_i hk
        obtain ⟨rfl, rfl⟩ := hk
        cases h
        rw [vr_int hx, vr_int hy]
        subst hop
        cases neg <;> simp [eqGuard, binOp, Op.intCmp, bne]
      · cases h
    · cases h
      rw [vr_str hx, vr_str hy]
      subst hop
      cases neg <;> simp [eqGuard, binOp, Op.stringOp, beq_toListBytes]
    · cases h
  | row ks =>
    obtain ⟨hdep, hl, hg⟩ := hd
    unfold eqH at h
    split at h <;> first | contradiction | skip
    rename_i xs ys heq
    cases heq
    obtain ⟨C, rfl, hC⟩ := VR.inv_agg hx
    obtain ⟨D, rfl, hD⟩ := VR.inv_agg hy
    have hgd := guard_leaves 20 t ks hl P.depth hdep
    subst hop
    cases neg <;> simp [eqGuard, binOp, he, hgd]
  | nilSlice =>
    unfold eqH at h
    split at h <;> first | contradiction | skip
    all_goals
      obtain ⟨q1, d1, rfl, _⟩ := vr_anyslice hy
      obtain ⟨q2, d2, rfl, _⟩ := vr_anyslice hx
      subst hop
      cases neg <;> simp [eqGuard, binOp, he]
  | nilPtr =>
    unfold eqH at h
    split at h <;> first | contradiction | skip
    all_goals
      obtain ⟨q1, rfl, _⟩ := vr_anyptr hy
      obtain ⟨q2, rfl, _⟩ := vr_anyptr hx
      subst hop
      cases neg <;> simp [eqGuard, binOp, he]
  | nilMap =>
    unfold eqH at h
    split at h <;> first | contradiction | skip
    all_goals
      obtain ⟨q1, rfl, _⟩ := vr_anymap hy
      obtain ⟨q2, rfl, _⟩ := vr_anymap hx
      subst hop
      cases neg <;> simp [eqGuard, binOp, he]
  | nilFunc =>
    unfold eqH at h
    split at h <;> first | contradiction | skip
    · rw [vr_nilfunc hx, vr_nilfunc hy] at he ⊢
      subst hop
      cases neg <;> simp [eqGuard, binOp, he]
    · obtain ⟨F, C, rfl, _, _⟩ := vr_func hy
      rw [vr_nilfunc hx] at he ⊢
      subst hop
      cases neg <;> simp [eqGuard, binOp, he]
    · obtain ⟨F, C, rfl, _, _⟩ := vr_func hx
      rw [vr_nilfunc hy] at he ⊢
      subst hop
      cases neg <;> simp [eqGuard, binOp, he]
theorem op_eq {d : ED} {neg : Bool} {op : BinOp} {t t' : TypeId} {x z : Operand} {y w : Lo} (ho : o.op = .binOp op t x z t') (hop : op = if neg then .neq else .eql) (hd : edOf P t = some d) (hx : lowX x = some y) (hz : lowX z = some w) (h : oEq d neg y w a σ = some (v, σ'))
    (hs : Sim P base σ.h.get ρ W) (ha : AR ρ a A) : HF fl σ.nx σ'.nx σ.h.get σ'.h.get ∧ Does P base fl σ σ' ρ W (execOp A.eval o) v := by
  unfold oEq at h
  split at h
  · rename_i b hb
    cases h
    obtain ⟨g1, g2⟩ := eq_run (W := W) hop (ed_fits hd) hb (ev_ok ha hx) (ev_ok ha hz) x z
    exact ⟨HF.refl _ _ _, does_value hs (V := .bool (b != neg)) (by simp [execOp, ho, g1, g2]) (.bool _)⟩
  · cases h
end Go.Hx
