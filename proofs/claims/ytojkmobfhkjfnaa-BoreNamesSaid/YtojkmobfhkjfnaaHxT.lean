/- The plain machine and Go's: a region in the order of its text; whole codes. -/
import Derived.Test.YtojkmobfhkjfnaaHxS
import Derived.Scope
set_option linter.all false
namespace Go.Hx
variable {P : Program} {lp : Nat → Option LFunc} {ex : Ex}

/-- What one operation of a region puts into its slot, and where it leads. -/
noncomputable def stepVal (lp : Nat → Option LFunc) (ex : Ex) (fl : Nat) (o : LOper) (a : HAct) (σ : HS) : Option (HV × HS) :=
  bif wantedH o.g a then opH lp ex fl o.op a σ else some (.undef, σ)
theorem step_val {fl : Nat} {o : LOper} {a a' : HAct} {σ σ' : HS} (h : stepOp lp ex fl o a σ = some (a', σ')) : ∃ v, stepVal lp ex fl o a σ = some (v, σ') ∧ a' = a.put o.dst v := by
  unfold stepOp at h
  unfold stepVal
  cases hw : wantedH o.g a with
  | true =>
    rw [hw] at h
    simp only [cond_true] at h ⊢
    split at h
    · rename_i v σ1 h1; cases h; exact ⟨v, h1, rfl⟩
    · cases h
  | false =>
    rw [hw] at h
    cases h
    exact ⟨.undef, rfl, rfl⟩
theorem stepVal_le (hle : ExLe ex) {fl : Nat} {o : LOper} {a : HAct} {σ σ' : HS} {v : HV} (h : stepVal lp ex fl o a σ = some (v, σ')) : σ.nx ≤ σ'.nx := by
  unfold stepVal at h
  cases hw : wantedH o.g a with
  | true => rw [hw] at h; exact op_le hle h
  | false => rw [hw] at h; cases h; exact Nat.le_refl _
theorem guard_ok {ops : Array Oper} {o : Oper} {g : Option (Nat × Bool)} {ρ : Rho} {a : HAct} {A : Act} (hg : lowGuard ops o.guard = some g) (ha : AR ρ a A) : wantedH g a = Region.wanted o (yielded ops A.tmps) := by
  unfold lowGuard at hg
  unfold Region.wanted
  split at hg
  · rename_i h; cases hg; rw [h]; rfl
  · rename_i j want h
    simp only [Option.map_eq_some_iff] at hg
    obtain ⟨d, hd, rfl⟩ := hg
    rw [h]
    simp only [wantedH]
    have hv := ha.tmp d
    simp only [yielded, hd, Option.bind_some]
    have hget : A.tmps.getD d Go.undef = (A.tmps[d]?).getD Go.undef := by rw [Array.getD_eq_getD_getElem?]
    rw [hget] at hv
    cases hb : A.tmps[d]? with
    | none =>
      rw [hb] at hv
      generalize a.tmp d = x at hv
      cases hv <;> rfl
    | some V =>
      rw [hb] at hv
      simp only [Option.getD_some] at hv
      generalize a.tmp d = x at hv
      cases hv <;> simp
theorem val_sound (hlp : LpOk P lp) (hle : ExLe ex) (hex : ExSound P ex) {ops : Array Oper} {i : Nat} {o : Oper} (hi : ops[i]? = some o) {fl : Nat} {a : HAct} {σ σ' : HS} {v : HV} (h : stepVal lp ex fl (lowOper P ops o) a σ = some (v, σ')) (hd : Dom σ) :
    ∀ (base : Nat) (ρ : Rho) (A : Act) (W : World) (R : Option Nat) (K : Act → World → Prop) (Q : Exit → Act → World → Prop), In P base σ σ' ρ W → AR ρ a A →
      HFS fl σ σ' ∧ (Next1 P base fl σ σ' ρ A W o.dst v K → wpOpIn (FR R) 0 P ops Q i K A W) := by
  intro base ρ A W R K Q hin ha
  unfold lowOper at h
  split at h
  · rename_i g hg
    unfold stepVal at h
    have hw := guard_ok hg ha
    unfold wpOpIn
    rw [hi]
    simp only
    rw [← hw]
    cases hwv : wantedH g a with
    | false =>
      simp only [hwv, cond_false] at h
      cases h
      refine ⟨HF.refl _ _ _, fun hn => ?_⟩
      simp only [Bool.false_eq_true, if_false]
      exact ⟨fun _ _ => trivial, hn Go.undef W ρ (VR.undef ρ) (Post.refl hin.sim)⟩
    | true =>
      simp only [hwv, cond_true] at h
      simp only [if_true]
      cases hl : lowOp P o.op with
      | none => rw [hl] at h; cases h
      | some l =>
        rw [hl] at h
        exact step_sound hlp hle hex hl h hd base ρ A W R K Q hin ha
  · unfold stepVal at h
    simp only [wantedH, cond_true] at h
    cases h
/-- What is walked comes somewhere: of an operation. -/
theorem wpOpIn_const {R : Option Nat} {ops : Array Oper} {i : Nat} {A : Act} {W : World} {p : Prop} (h : wpOpIn (FR R) 0 P ops (fun _ _ _ => p) i (fun _ _ => p) A W) : p := by
  have h' : wpOpsIn (FR R) 0 P ops (fun _ _ _ => p) [i] A W := by rw [wpOpsIn_cons]; exact h
  obtain ⟨_, _, _, hp, _⟩ := wp_opsIn [i] A W h' { (default : Frame) with roundOf := R } [] [] rfl trivial (fun _ hd => by simp [FR, Fence.wide] at hd)
  exact hp
theorem runOps_le (hle : ExLe ex) {fl : Nat} : ∀ (l : List LOper) (a a' : HAct) (σ σ' : HS), runOps lp ex fl l a σ = some (a', σ') → σ.nx ≤ σ'.nx
  | [], a, a', σ, σ', h => by cases h; exact Nat.le_refl _
  | o :: os, a, a', σ, σ', h => by
    unfold runOps at h
    split at h
    · rename_i a1 σ1 h1
      obtain ⟨v, hv, _⟩ := step_val h1
      exact Nat.le_trans (stepVal_le hle hv) (runOps_le hle os a1 a' σ1 σ' h)
    · cases h
theorem runOps_sound (hlp : LpOk P lp) (hle : ExLe ex) (hex : ExSound P ex) {ops : Array Oper} {fl : Nat} : ∀ (m k : Nat) (a a' : HAct) (σ σ' : HS), k + m = ops.size → runOps lp ex fl ((ops.toList.drop k).map (lowOper P ops)) a σ = some (a', σ') → Dom σ →
    ∀ (base : Nat) (ρ : Rho) (A : Act) (W : World) (R : Option Nat) (Q : Exit → Act → World → Prop), In P base σ σ' ρ W → AR ρ a A →
      HFS fl σ σ' ∧ ((∀ A' W' ρ', AR ρ' a' A' → PostS P base fl σ σ' ρ ρ' W W' → Q .normal A' W') → wpOpsIn (FR R) 0 P ops Q (List.range' k m) A W)
  | 0, k, a, a', σ, σ', hk, h, hd, base, ρ, A, W, R, Q, hin, ha => by
    have : ops.toList.drop k = [] := by apply List.drop_eq_nil_of_le; simp; omega
    rw [this] at h
    cases h
    exact ⟨HF.refl _ _ _, fun hn => hn A W ρ ha (Post.refl hin.sim)⟩
  | m + 1, k, a, a', σ, σ', hk, h, hd, base, ρ, A, W, R, Q, hin, ha => by
    have hlt : k < ops.toList.length := by simp; omega
    rw [List.drop_eq_getElem_cons hlt] at h
    simp only [List.map_cons] at h
    unfold runOps at h
    split at h
    · rename_i a1 σ1 h1
      obtain ⟨v, hv, rfl⟩ := step_val h1
      have hi : ops[k]? = some ops.toList[k] := by simp at hlt ⊢
      have le1 := stepVal_le hle hv
      have le2 := runOps_le hle _ _ _ _ _ h
      have hdst : (lowOper P ops ops.toList[k]).dst = ops.toList[k].dst := by unfold lowOper; split <;> rfl
      have hin1 : In P base σ σ1 ρ W := hin.less le2
      -- the rest, wherever the first operation leads
      have rest : ∀ (V : Value) (W' : World) (ρ' : Rho), VR ρ' v V → HFS fl σ σ1 → PostS P base fl σ σ1 ρ ρ' W W' → HFS fl σ σ' ∧ ((∀ A' W' ρ', AR ρ' a' A' → PostS P base fl σ σ' ρ ρ' W W' → Q .normal A' W') → wpOpsIn (FR R) 0 P ops Q (List.range' (k + 1) m) (A.put ops.toList[k].dst V) W') := by
        intro V W' ρ' hv' f1 p1
        have ar1 : AR ρ' (a.put (lowOper P ops ops.toList[k]).dst v) (A.put ops.toList[k].dst V) := by rw [hdst]; exact (ha.mono p1.ext).put hv' _
        obtain ⟨f2, w2⟩ := runOps_sound hlp hle hex m (k + 1) _ a' σ1 σ' (by omega) h (f1.dom hd) base ρ' _ W' R Q (hin.next p1 le1) ar1
        exact ⟨f1.trans f2, fun hn => w2 fun A'' W'' ρ'' har hp => hn A'' W'' ρ'' har (Post.trans f1.le f2.le p1 hp)⟩
      obtain ⟨f1, _⟩ := val_sound hlp hle hex hi hv hd base ρ A W R (fun _ _ => True) Q hin1 ha
      have hff : HFS fl σ σ' := by
        obtain ⟨_, w⟩ := val_sound hlp hle hex hi hv hd base ρ A W R (fun _ _ => HFS fl σ σ') (fun _ _ _ => HFS fl σ σ') hin1 ha
        exact wpOpIn_const (w (fun V W' ρ' hv' p1 => (rest V W' ρ' hv' f1 p1).1))
      refine ⟨hff, fun hn => ?_⟩
      rw [List.range'_succ, wpOpsIn_cons]
      exact (val_sound hlp hle hex hi hv hd base ρ A W R _ Q hin1 ha).2 fun V W' ρ' hv' p1 => (rest V W' ρ' hv' f1 p1).2 hn
    · cases h

/-! whole codes -/
section scope
variable {b : Frame} {a : Act} {k : List Item} {cs : List Frame} {w : World}
theorem stepR_scope {c : Code} : step P (lone (b.atR a (.code (.scope c) :: k)) cs w) = .next (lone (b.atR a (.code c :: .inScope c :: k)) cs w) :=
  step_lone_go (by simp [stepG, stepG.exec, Frame.atR])
theorem stepR_inScope {c : Code} : step P (lone (b.atR a (.inScope c :: k)) cs w) = .next (lone (b.atR a k) cs w) :=
  step_lone_go (by simp [stepG, stepG.exec, Frame.atR])
end scope
theorem wpIn_scope {F : Fence} {n : Nat} {c : Code} {Q : Exit → Act → World → Prop} {a : Act} {w : World} (h : c.wpIn F n P (Exit.noGoto Q) a w) : (Code.scope c).wpIn F n P Q a w := by
  intro b k cs hro hb hr
  have h0 : (lone (b.atR a (.code (.scope c) :: k)) cs w).fenced P F := fenced_calm hb hr rfl
  obtain ⟨e, a₁, w₁, hq, harr⟩ := h b (.inScope c :: k) cs hro hb hr
  cases e with
  | normal => exact ⟨.normal, a₁, w₁, hq, .head h0 stepR_scope (StepsIn.trans harr (.one (fenced_calm hb hr rfl) stepR_inScope))⟩
  | exit id =>
    have hx : exitTo id (.inScope c :: k) = exitTo id k := by simp [exitTo]
    exact ⟨.exit id, a₁, w₁, hq, fun k' hk => .head h0 stepR_scope (harr.1 k' (by rw [hx]; exact hk)),
      fun hr' hk => let ⟨k₁, h1, h2⟩ := harr.2 hr' (by rw [hx]; exact hk); ⟨k₁, h1, .head h0 stepR_scope h2⟩⟩
  | goto l => exact hq.elim
  | ret => exact ⟨_, a₁, w₁, hq, .of_steps (.one h0 stepR_scope) harr⟩
  | panic ch => exact ⟨_, a₁, w₁, hq, .of_steps (.one h0 stepR_scope) harr⟩
  | outgrown => exact ⟨_, a₁, w₁, hq, .of_steps (.one h0 stepR_scope) harr⟩
theorem exec_le (n : Nat) : (∀ fl s ops (a a' : HAct) (σ σ' : HS), ExLe (exec lp n) → drawOps lp (exec lp n) fl s σ.h ops 0 [] a σ.nx = some (a', σ') → σ.nx ≤ σ'.nx) → ExLe (exec lp n) → ExLe (exec lp (n + 1)) := by
  intro hdraw ih fl rd lc a σ e a' σ' h
  simp only [exec] at h
  cases lc <;> simp only [xCode] at h
  case skip => cases h; exact Nat.le_refl _
  case seq x y =>
    unfold xSeq at h
    split at h
    · rename_i a1 σ1 h1; exact Nat.le_trans (ih _ _ _ _ _ _ _ _ h1) (ih _ _ _ _ _ _ _ _ h)
    · exact ih _ _ _ _ _ _ _ _ h
  case cond c x y =>
    unfold xCond at h
    split at h
    · rename_i b _
      cases b <;> exact ih _ _ _ _ _ _ _ _ h
    · cases h
  case block id x =>
    unfold xBlock at h
    split at h
    · rename_i h1; cases h; exact ih _ _ _ _ _ _ _ _ h1
    · exact ih _ _ _ _ _ _ _ _ h
  case loop x =>
    unfold xSeq at h
    split at h
    · rename_i a1 σ1 h1; exact Nat.le_trans (ih _ _ _ _ _ _ _ _ h1) (ih _ _ _ _ _ _ _ _ h)
    · exact ih _ _ _ _ _ _ _ _ h
  case scope x => exact ih _ _ _ _ _ _ _ _ h
  case exit id => cases h; exact Nat.le_refl _
  case ret => cases h; exact Nat.le_refl _
  case reg ops =>
    unfold xRegion xNormal at h
    split at h
    · rename_i h1; cases h; exact runOps_le ih _ _ _ _ _ h1
    · cases h
  case draw s ops =>
    unfold xDraw xNormal at h
    revert h
    generalize Nat.ble fl σ.nx = c
    intro h
    cases c with
    | false => cases h
    | true =>
      simp only [cond_true] at h
      split at h
      · rename_i h1; cases h; exact hdraw _ _ _ _ _ _ _ ih h1
      · cases h
  case rangeFunc f ps assign body =>
    unfold xRange at h
    split at h
    · rename_i g first captured mk ms σ1 hf hm
      split at h
      · rename_i w σ2 hc
        have h1 := callF_le ih hc
        have h0 : σ.nx ≤ σ1.nx := by
          unfold marksOf at hm
          split at hm
          · cases hm; simp [HS.new]
          · split at hm
            · cases hm; exact Nat.le_refl _
            · cases hm
        have h2 : σ2.nx = σ'.nx := by
          unfold endLoopH at h
          split at h
          · split at h
            · cases h
            · revert h
              generalize Nat.ble _ _ = c
              intro h
              cases c with
              | false => cases h
              | true => cases h; rfl
          · cases h
        have h3 : σ1.nx + 1 ≤ σ2.nx := h1
        omega
      · cases h
    · cases h
  case bad => cases h
end Go.Hx
