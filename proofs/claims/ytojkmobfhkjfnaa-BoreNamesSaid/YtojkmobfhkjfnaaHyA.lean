/- The plain machine: with more fuel it comes to the same. -/
import Derived.Test.YtojkmobfhkjfnaaHxA
set_option linter.all false
namespace Go.Hx
variable {lp : Nat → Option LFunc} {ex ex' : Ex}

def ExMon (ex ex' : Ex) : Prop := ∀ fl rd c a σ r, ex fl rd c a σ = some r → ex' fl rd c a σ = some r
theorem callB_mon (h : ExMon ex ex') {fl : Nat} {lf : LFunc} {args : List HV} {σ : HS} {r : HV × HS} (hr : callB ex fl lf args σ = some r) : callB ex' fl lf args σ = some r := by
  unfold callB at hr ⊢
  cases he : ex fl none lf.body ⟨Nat.max lf.nt args.length, putAll .e 0 args, []⟩ σ with
  | none => rw [he] at hr; cases hr
  | some x => rw [he] at hr; rw [h _ _ _ _ _ _ he]; exact hr
theorem callF_mon (h : ExMon ex ex') {fl f : Nat} {args : List HV} {σ : HS} {r : HV × HS} (hr : callF lp ex fl f args σ = some r) : callF lp ex' fl f args σ = some r := by
  unfold callF at hr ⊢
  cases hl : lp f with
  | none => rw [hl] at hr; cases hr
  | some lf =>
    rw [hl] at hr
    dsimp only at hr ⊢
    cases hsp : lf.spec with
    | some g => rw [hsp] at hr; exact hr
    | none =>
    rw [hsp] at hr
    dsimp only at hr ⊢
    cases hi : lf.imp with
    | true => rw [hi] at hr; exact callB_mon h hr
    | false =>
      rw [hi] at hr
      simp only [cond_false] at hr ⊢
      cases he : callB ex σ.nx lf args σ with
      | none => rw [he] at hr; cases hr
      | some x => rw [he] at hr; rw [callB_mon h he]; exact hr
theorem roundH_mon (h : ExMon ex ex') {fl l : Nat} {args : List HV} {σ : HS} {r : HV × HS} (hr : roundH ex fl l args σ = some r) : roundH ex' fl l args σ = some r := by
  unfold roundH at hr ⊢
  cases hl : σ.h.get l with
  | none => rw [hl] at hr; cases hr
  | some b =>
    rw [hl] at hr
    cases b with
    | loop q =>
      dsimp only at hr ⊢
      cases hz : zipPut q.nt q.tmps q.params args with
      | none => rw [hz] at hr; cases hr
      | some tmps =>
        rw [hz] at hr
        dsimp only at hr ⊢
        cases he : ex fl (some l) q.assign ⟨q.nt, tmps, []⟩ σ with
        | none => rw [he] at hr; cases hr
        | some x =>
          rw [he] at hr
          rw [h _ _ _ _ _ _ he]
          obtain ⟨e, a, σ1⟩ := x
          cases e with
          | normal =>
            dsimp only at hr ⊢
            cases hb : beginRoundH fl l σ1 with
            | none => rw [hb] at hr; cases hr
            | some σ2 =>
              rw [hb] at hr
              dsimp only at hr ⊢
              cases he2 : ex fl (some l) q.body a σ2 with
              | none => rw [he2] at hr; cases hr
              | some y => rw [he2] at hr; rw [h _ _ _ _ _ _ he2]; exact hr
          | exit id => exact hr
          | ret => exact hr
    | cells cs k => cases hr
    | map es => cases hr
    | marks => cases hr
theorem op_mon (h : ExMon ex ex') {fl : Nat} {o : LOp} {a : HAct} {σ : HS} {r : HV × HS} (hr : opH lp ex fl o a σ = some r) : opH lp ex' fl o a σ = some r := by
  cases o <;> first | exact hr | skip
  case call f args =>
    simp only [opH] at hr ⊢
    unfold oCall callH at hr ⊢
    split at hr
    · exact callF_mon h hr
    · exact roundH_mon h hr
    · cases hr
theorem stepOp_mon (h : ExMon ex ex') {fl : Nat} {o : LOper} {a : HAct} {σ : HS} {r : HAct × HS} (hr : stepOp lp ex fl o a σ = some r) : stepOp lp ex' fl o a σ = some r := by
  unfold stepOp at hr ⊢
  cases hw : wantedH o.g a with
  | false => rw [hw] at hr; exact hr
  | true =>
    rw [hw] at hr
    simp only [cond_true] at hr ⊢
    cases ho : opH lp ex fl o.op a σ with
    | none => rw [ho] at hr; cases hr
    | some x => rw [ho] at hr; rw [op_mon h ho]; exact hr
theorem runOps_mon (h : ExMon ex ex') {fl : Nat} : ∀ {ops : List LOper} {a : HAct} {σ : HS} {r : HAct × HS}, runOps lp ex fl ops a σ = some r → runOps lp ex' fl ops a σ = some r
  | [], _, _, _, hr => hr
  | o :: os, a, σ, r, hr => by
    unfold runOps at hr ⊢
    cases ho : stepOp lp ex fl o a σ with
    | none => rw [ho] at hr; cases hr
    | some x => rw [ho] at hr; rw [stepOp_mon h ho]; exact runOps_mon h hr
theorem drawOps_mon (h : ExMon ex ex') {fl s : Nat} {h0 : Tr HBlk} : ∀ {ops : List LOper} {i : Nat} {done : List (Nat × List (Nat × HBlk))} {a : HAct} {nx : Nat} {r : HAct × HS}, drawOps lp ex fl s h0 ops i done a nx = some r → drawOps lp ex' fl s h0 ops i done a nx = some r
  | [], _, _, _, _, _, hr => hr
  | o :: os, i, done, a, nx, r, hr => by
    unfold drawOps at hr ⊢
    cases hc : Nat.blt i s with
    | false => rw [hc] at hr; exact runOps_mon h hr
    | true =>
      rw [hc] at hr
      simp only [cond_true] at hr ⊢
      cases ho : stepOp lp ex (Nat.max fl nx) o a ⟨merge h0 (some o.anc) done, nx⟩ with
      | none => rw [ho] at hr; cases hr
      | some x =>
        obtain ⟨a1, σ1⟩ := x
        rw [ho] at hr
        rw [stepOp_mon h ho]
        dsimp only at hr ⊢
        cases hb : Nat.ble nx σ1.nx with
        | false => rw [hb] at hr; cases hr
        | true => rw [hb] at hr; exact drawOps_mon h hr
theorem normal_mon {x x' : Option (HAct × HS)} (h : ∀ r, x = some r → x' = some r) {r : HExit × HAct × HS} (hr : xNormal x = some r) : xNormal x' = some r := by
  cases hx : x with
  | none => rw [hx] at hr; cases hr
  | some y => rw [hx] at hr; rw [h y hx]; exact hr
theorem xCode_mon (h : ExMon ex ex') : ExMon (xCode lp ex) (xCode lp ex') := by
  intro fl rd c a σ r hr
  have seq : ∀ x y, xSeq ex fl rd x y a σ = some r → xSeq ex' fl rd x y a σ = some r := by
    intro x y hr
    unfold xSeq at hr ⊢
    cases hx : ex fl rd x a σ with
    | none => rw [hx] at hr; cases hr
    | some q =>
      rw [hx] at hr
      rw [h _ _ _ _ _ _ hx]
      obtain ⟨e, a1, σ1⟩ := q
      cases e with
      | normal => exact h _ _ _ _ _ _ hr
      | exit id => exact hr
      | ret => exact hr
  cases c with
  | skip => exact hr
  | seq x y => exact seq x y hr
  | cond c x y =>
    simp only [xCode] at hr ⊢
    unfold xCond at hr ⊢
    split at hr
    · rename_i b _
      cases b <;> exact h _ _ _ _ _ _ hr
    · cases hr
  | block id x =>
    simp only [xCode] at hr ⊢
    unfold xBlock at hr ⊢
    cases hx : ex fl rd x a σ with
    | none => rw [hx] at hr; cases hr
    | some q => rw [hx] at hr; rw [h _ _ _ _ _ _ hx]; exact hr
  | loop x => exact seq x (.loop x) hr
  | scope x => exact h _ _ _ _ _ _ hr
  | exit id => exact hr
  | ret => exact hr
  | reg ops => exact normal_mon (fun _ => runOps_mon h) hr
  | draw s ops =>
    simp only [xCode] at hr ⊢
    unfold xDraw at hr ⊢
    cases hb : Nat.ble fl σ.nx with
    | false => rw [hb] at hr; cases hr
    | true => rw [hb] at hr; exact normal_mon (fun _ => drawOps_mon h) hr
  | rangeFunc f ps assign body =>
    simp only [xCode] at hr ⊢
    unfold xRange at hr ⊢
    split at hr
    · split at hr
      · rename_i hc; rw [callF_mon h hc]; exact hr
      · cases hr
    · cases hr
  | bad => exact hr
theorem exec_succ (n : Nat) : ExMon (exec lp n) (exec lp (n + 1)) := by
  induction n with
  | zero => intro fl rd c a σ r hr; cases hr
  | succ n ih => exact fun fl rd c a σ r hr => xCode_mon ih fl rd c a σ r hr
theorem exec_mon {m n : Nat} (h : m ≤ n) : ExMon (exec lp m) (exec lp n) := by
  induction n with
  | zero => rw [show m = 0 by omega]; exact fun _ _ _ _ _ _ h => h
  | succ n ih =>
    by_cases e : m = n + 1
    · rw [e]; exact fun _ _ _ _ _ _ h => h
    · exact fun fl rd c a σ r hr => exec_succ n _ _ _ _ _ _ (ih (by omega) _ _ _ _ _ _ hr)

/-! walks: a code leads, with some fuel, to where the post says -/
def W (lp : Nat → Option LFunc) (fl : Nat) (rd : Option Nat) (c : LCode) (Q : HExit → HAct → HS → Prop) (a : HAct) (σ : HS) : Prop := ∃ n e a' σ', exec lp n fl rd c a σ = some (e, a', σ') ∧ Q e a' σ'
/-- A call leads, with some fuel, to where the post says. -/
def C (lp : Nat → Option LFunc) (fl f : Nat) (args : List HV) (σ : HS) (Q : HV → HS → Prop) : Prop := ∃ n v σ', callF lp (exec lp n) fl f args σ = some (v, σ') ∧ Q v σ'
variable {fl : Nat} {rd : Option Nat} {Q : HExit → HAct → HS → Prop} {a : HAct} {σ : HS}
theorem W.mono {c : LCode} {Q' : HExit → HAct → HS → Prop} (h : W lp fl rd c Q a σ) (hq : ∀ e a σ, Q e a σ → Q' e a σ) : W lp fl rd c Q' a σ := by
  obtain ⟨n, e, a', σ', h1, h2⟩ := h; exact ⟨n, e, a', σ', h1, hq _ _ _ h2⟩
theorem C.mono {f : Nat} {args : List HV} {Q Q' : HV → HS → Prop} (h : C lp fl f args σ Q) (hq : ∀ v σ, Q v σ → Q' v σ) : C lp fl f args σ Q' := by
  obtain ⟨n, v, σ', h1, h2⟩ := h; exact ⟨n, v, σ', h1, hq _ _ h2⟩
def thenH (N : HAct → HS → Prop) (Q : HExit → HAct → HS → Prop) : HExit → HAct → HS → Prop
  | .normal, a, σ => N a σ
  | e, a, σ => Q e a σ
theorem w_skip (h : Q .normal a σ) : W lp fl rd .skip Q a σ := ⟨1, _, _, _, rfl, h⟩
theorem w_exit {id : Nat} (h : Q (.exit id) a σ) : W lp fl rd (.exit id) Q a σ := ⟨1, _, _, _, rfl, h⟩
theorem w_ret (h : Q .ret a σ) : W lp fl rd .ret Q a σ := ⟨1, _, _, _, rfl, h⟩
theorem w_scope {c : LCode} (h : W lp fl rd c Q a σ) : W lp fl rd (.scope c) Q a σ := by
  obtain ⟨n, e, a', σ', h1, h2⟩ := h; exact ⟨n + 1, e, a', σ', h1, h2⟩
theorem w_seq {x y : LCode} (h : W lp fl rd x (thenH (W lp fl rd y Q) Q) a σ) : W lp fl rd (.seq x y) Q a σ := by
  obtain ⟨n, e, a1, σ1, h1, h2⟩ := h
  cases e with
  | normal =>
    obtain ⟨m, e', a', σ', h3, h4⟩ := h2
    refine ⟨max n m + 1, e', a', σ', ?_, h4⟩
    show xSeq (exec lp (max n m)) fl rd x y a σ = _
    unfold xSeq
    rw [exec_mon (Nat.le_max_left n m) _ _ _ _ _ _ h1]
    exact exec_mon (Nat.le_max_right n m) _ _ _ _ _ _ h3
  | exit id =>
    refine ⟨n + 1, _, _, _, ?_, h2⟩
    show xSeq (exec lp n) fl rd x y a σ = _
    unfold xSeq; rw [h1]
  | ret =>
    refine ⟨n + 1, _, _, _, ?_, h2⟩
    show xSeq (exec lp n) fl rd x y a σ = _
    unfold xSeq; rw [h1]
theorem w_cond {c : Lo} {x y : LCode} {b : Bool} (hc : a.ev c = .bool b) (h : W lp fl rd (bif b then x else y) Q a σ) : W lp fl rd (.cond c x y) Q a σ := by
  obtain ⟨n, e, a', σ', h1, h2⟩ := h
  refine ⟨n + 1, e, a', σ', ?_, h2⟩
  show xCond (exec lp n) fl rd c x y a σ = _
  unfold xCond
  rw [hc]
  cases b <;> exact h1
def inBlockH (id : Nat) (Q : HExit → HAct → HS → Prop) : HExit → HAct → HS → Prop
  | .exit i, a, σ => if i = id then Q .normal a σ else Q (.exit i) a σ
  | e, a, σ => Q e a σ
theorem w_block {id : Nat} {x : LCode} (h : W lp fl rd x (inBlockH id Q) a σ) : W lp fl rd (.block id x) Q a σ := by
  obtain ⟨n, e, a', σ', h1, h2⟩ := h
  cases e with
  | normal =>
    refine ⟨n + 1, _, _, _, ?_, h2⟩
    show xBlock (exec lp n) fl rd id x a σ = _
    unfold xBlock; rw [h1]
  | ret =>
    refine ⟨n + 1, _, _, _, ?_, h2⟩
    show xBlock (exec lp n) fl rd id x a σ = _
    unfold xBlock; rw [h1]
  | exit i =>
    by_cases hi : i = id
    · subst hi
      simp only [inBlockH, if_true] at h2
      refine ⟨n + 1, .normal, a', σ', ?_, h2⟩
      show xBlock (exec lp n) fl rd i x a σ = _
      unfold xBlock; rw [h1]; simp
    · simp only [inBlockH, if_neg hi] at h2
      refine ⟨n + 1, .exit i, a', σ', ?_, h2⟩
      show xBlock (exec lp n) fl rd id x a σ = _
      unfold xBlock; rw [h1]
      have : Nat.beq i id = false := by
        cases e : Nat.beq i id
        · rfl
        · exact absurd (Nat.eq_of_beq_eq_true e) hi
      simp [this]
/-- A loop: what holds ahead of each round, with a number that falls. -/
theorem w_loop {x : LCode} (I : Nat → HAct → HS → Prop) (round : ∀ m a σ, I m a σ → W lp fl rd x (thenH (fun a σ => ∃ k, k < m ∧ I k a σ) Q) a σ) : ∀ (m : Nat) (a : HAct) (σ : HS), I m a σ → W lp fl rd (.loop x) Q a σ := by
  intro m
  induction m using Nat.strongRecOn with
  | ind m ih =>
    intro a σ h
    obtain ⟨n, e, a1, σ1, h1, h2⟩ := round m a σ h
    have step : W lp fl rd x (thenH (W lp fl rd (.loop x) Q) Q) a σ := by
      refine ⟨n, e, a1, σ1, h1, ?_⟩
      cases e with
      | normal => obtain ⟨k, hk, hi⟩ := h2; exact ih k hk a1 σ1 hi
      | exit id => exact h2
      | ret => exact h2
    obtain ⟨n', e', a', σ', g1, g2⟩ := w_seq step
    refine ⟨n', e', a', σ', ?_, g2⟩
    cases n' with
    | zero => cases g1
    | succ n' => exact g1
/-- Operations, one behind the other. -/
def R (lp : Nat → Option LFunc) (fl : Nat) (ops : List LOper) (N : HAct → HS → Prop) (a : HAct) (σ : HS) : Prop := ∃ n a' σ', runOps lp (exec lp n) fl ops a σ = some (a', σ') ∧ N a' σ'
theorem r_nil {N : HAct → HS → Prop} (h : N a σ) : R lp fl [] N a σ := ⟨0, a, σ, rfl, h⟩
/-- An operation that calls nothing. -/
theorem r_op {N : HAct → HS → Prop} {o : LOper} {os : List LOper} {v : HV} {σ' : HS} (hw : wantedH o.g a = true) (h : opH lp (exec lp 0) fl o.op a σ = some (v, σ')) (hn : R lp fl os N (a.put o.dst v) σ') : R lp fl (o :: os) N a σ := by
  obtain ⟨n, a', σ'', h1, h2⟩ := hn
  refine ⟨n, a', σ'', ?_, h2⟩
  unfold runOps stepOp
  rw [hw, op_mon (exec_mon (Nat.zero_le n)) h]
  exact h1
theorem r_not {N : HAct → HS → Prop} {o : LOper} {os : List LOper} (hw : wantedH o.g a = false) (hn : R lp fl os N (a.put o.dst .undef) σ) : R lp fl (o :: os) N a σ := by
  obtain ⟨n, a', σ'', h1, h2⟩ := hn
  refine ⟨n, a', σ'', ?_, h2⟩
  unfold runOps stepOp
  rw [hw]
  exact h1
theorem r_call {N : HAct → HS → Prop} {dst : Option Nat} {g : Option (Nat × Bool)} {anc : List Nat} {f : Lo} {args : List Lo} {os : List LOper} {k : Nat} {first captured : List HV} (hw : wantedH g a = true) (hf : a.ev f = .func k first captured)
    (h : C lp fl k (first ++ args.map a.ev ++ captured) σ fun v σ' => R lp fl os N (a.put dst v) σ') : R lp fl (⟨dst, .call f args, g, anc⟩ :: os) N a σ := by
  obtain ⟨n, v, σ', h1, m, a', σ'', h2, h3⟩ := h
  refine ⟨max n m, a', σ'', ?_, h3⟩
  unfold runOps stepOp
  have h4 : opH lp (exec lp (max n m)) fl (.call f args) a σ = some (v, σ') := by
    show callH lp _ fl (a.ev f) (args.map a.ev) σ = _
    unfold callH
    rw [hf]
    exact callF_mon (exec_mon (Nat.le_max_left n m)) h1
  rw [hw]
  simp only [cond_true, h4]
  exact runOps_mon (exec_mon (Nat.le_max_right n m)) h2
theorem w_reg {ops : List LOper} (h : R lp fl ops (Q .normal) a σ) : W lp fl rd (.reg ops) Q a σ := by
  obtain ⟨n, a', σ', h1, h2⟩ := h
  refine ⟨n + 1, .normal, a', σ', ?_, h2⟩
  show xNormal (runOps lp (exec lp n) fl ops a σ) = _
  rw [h1]; rfl
/-- A function called: its body's walk, and what it hands back. -/
theorem cb_of {n0 : Nat} {args : List HV} {lf : LFunc} {K : HV → HS → Prop}
    (h : W lp n0 none lf.body (fun e a σ' => match e with | .exit _ => False | _ => ∃ v σ'', leaveH n0 a lf.res σ' = some (v, σ'') ∧ K v σ'') ⟨Nat.max lf.nt args.length, putAll .e 0 args, []⟩ σ) : ∃ n v σ', callB (exec lp n) n0 lf args σ = some (v, σ') ∧ K v σ' := by
  obtain ⟨n, e, a', σ', h1, h2⟩ := h
  have key : ∀ v σ'', leaveH n0 a' lf.res σ' = some (v, σ'') → K v σ'' → (e = .normal ∨ e = .ret) → ∃ n v σ', callB (exec lp n) n0 lf args σ = some (v, σ') ∧ K v σ' := by
    intro v σ'' g1 g2 he
    refine ⟨n, v, σ'', ?_, g2⟩
    unfold callB
    rw [h1]
    rcases he with rfl | rfl <;> exact g1
  cases e with
  | normal => obtain ⟨v, σ'', g1, g2⟩ := h2; exact key v σ'' g1 g2 (.inl rfl)
  | exit id => exact h2.elim
  | ret => obtain ⟨v, σ'', g1, g2⟩ := h2; exact key v σ'' g1 g2 (.inr rfl)
/-- One that may write what is its caller's. -/
theorem c_imp {f : Nat} {args : List HV} {lf : LFunc} {K : HV → HS → Prop} (hf : lp f = some lf) (hs : lf.spec = none) (hi : lf.imp = true)
    (h : W lp fl none lf.body (fun e a σ' => match e with | .exit _ => False | _ => ∃ v σ'', leaveH fl a lf.res σ' = some (v, σ'') ∧ K v σ'') ⟨Nat.max lf.nt args.length, putAll .e 0 args, []⟩ σ) : C lp fl f args σ K := by
  obtain ⟨n, v, σ', h1, h2⟩ := cb_of h
  refine ⟨n, v, σ', ?_, h2⟩
  unfold callF
  rw [hf]
  simp only [hs, hi, cond_true]
  exact h1
/-- One that does not. -/
theorem c_of {f : Nat} {args : List HV} {lf : LFunc} {K : HV → HS → Prop} (hf : lp f = some lf) (hs : lf.spec = none) (hi : lf.imp = false)
    (h : W lp σ.nx none lf.body (fun e a σ' => match e with | .exit _ => False | _ => ∃ v σ'', leaveH σ.nx a lf.res σ' = some (v, σ'') ∧ K v (gcH σ σ'' v)) ⟨Nat.max lf.nt args.length, putAll .e 0 args, []⟩ σ) : C lp fl f args σ K := by
  obtain ⟨n, v, σ', h1, h2⟩ := cb_of (K := fun v σ' => K v (gcH σ σ' v)) h
  refine ⟨n, v, gcH σ σ' v, ?_, h2⟩
  unfold callF
  rw [hf]
  simp only [hs, hi, cond_false, h1]
/-- One of which all is known. -/
theorem c_spec {f : Nat} {args : List HV} {lf : LFunc} {g : List HV → HS → Option (HV × HS)} {v : HV} {σ' : HS} {K : HV → HS → Prop} (hf : lp f = some lf) (hs : lf.spec = some g) (hg : g args σ = some (v, σ')) (hn : σ.nx ≤ σ'.nx) (hk : K v σ') : C lp fl f args σ K := by
  refine ⟨0, v, σ', ?_, hk⟩
  unfold callF
  rw [hf]
  simp only [hs]
  unfold specH
  rw [hg]
  have : Nat.ble σ.nx σ'.nx = true := by rw [Nat.ble_eq]; exact hn
  simp only [this, cond_true]
end Go.Hx
