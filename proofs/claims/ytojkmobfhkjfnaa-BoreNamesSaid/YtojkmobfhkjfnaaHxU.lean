/- The plain machine and Go's: whole codes. -/
import Derived.Test.YtojkmobfhkjfnaaHxT
set_option linter.all false
namespace Go.Hx
variable {P : Program} {lp : Nat → Option LFunc} {ex : Ex}

abbrev PQ (P : Program) (base fl : Nat) (σ σ' : HS) (ρ : Rho) (W : World) (e : HExit) (a' : HAct) : Exit → Act → World → Prop :=
  fun E A' W' => ∃ ρ', PostS P base fl σ σ' ρ ρ' W W' ∧ E = exitOf e ∧ AR ρ' a' A'
/-- One code, from one state. -/
def Snd (P : Program) (c : Code) (fl : Nat) (rd : Option Nat) (a : HAct) (σ : HS) (e : HExit) (a' : HAct) (σ' : HS) : Prop :=
  ∀ (base : Nat) (ρ : Rho) (A : Act) (W : World) (R : Option Nat), In P base σ σ' ρ W → AR ρ a A → RdOk ρ rd R →
      HFS fl σ σ' ∧ c.wpIn (FR R) 0 P (PQ P base fl σ σ' ρ W e a') A W
def DrawSound (P : Program) (lp : Nat → Option LFunc) (ex : Ex) : Prop :=
  ∀ (id : Nat) (ops : Array Oper) (fl : Nat) (rd : Option Nat) (a : HAct) (σ : HS) (e : HExit) (a' : HAct) (σ' : HS), xCode lp ex fl rd (lowDraw P ops) a σ = some (e, a', σ') → Dom σ → Snd P (.region id ops true) fl rd a σ e a' σ'
def DrawLe (lp : Nat → Option LFunc) (ex : Ex) : Prop := ∀ fl s ops (a a' : HAct) (σ σ' : HS), drawOps lp ex fl s σ.h ops 0 [] a σ.nx = some (a', σ') → σ.nx ≤ σ'.nx

theorem pq_trans {base fl : Nat} {σ σ1 σ' : HS} {ρ ρ1 : Rho} {W W1 : World} {e : HExit} {a' : HAct} (f1 : HFS fl σ σ1) (f2 : HFS fl σ1 σ') (p1 : PostS P base fl σ σ1 ρ ρ1 W W1) {E : Exit} {A' : Act} {W' : World} (h : PQ P base fl σ1 σ' ρ1 W1 e a' E A' W') : PQ P base fl σ σ' ρ W e a' E A' W' := by
  obtain ⟨ρ', p2, he, ha⟩ := h
  exact ⟨ρ', Post.trans f1.le f2.le p1 p2, he, ha⟩

/-- Two codes, one behind the other. -/
theorem then_sound {c : Code} {fl : Nat} {rd : Option Nat} {a a1 a' : HAct} {σ σ1 σ' : HS} {e : HExit} {N : Act → World → Prop} {base : Nat} {ρ : Rho} {A : Act} {W : World} {R : Option Nat}
    (le1 : σ.nx ≤ σ1.nx) (le2 : σ1.nx ≤ σ'.nx) (h1 : Snd P c fl rd a σ .normal a1 σ1)
    (hin : In P base σ σ' ρ W) (ha : AR ρ a A) (hrd : RdOk ρ rd R)
    (h2 : ∀ (ρ1 : Rho) (A1 : Act) (W1 : World), HFS fl σ σ1 → PostS P base fl σ σ1 ρ ρ1 W W1 → In P base σ1 σ' ρ1 W1 → AR ρ1 a1 A1 → RdOk ρ1 rd R → HFS fl σ1 σ' ∧ ((∀ E A' W', PQ P base fl σ1 σ' ρ1 W1 e a' E A' W' → PQ P base fl σ σ' ρ W e a' E A' W') → N A1 W1)) :
    HFS fl σ σ' ∧ c.wpIn (FR R) 0 P (Exit.then N (PQ P base fl σ σ' ρ W e a')) A W := by
  obtain ⟨f1, w1⟩ := h1 base ρ A W R (hin.less le2) ha hrd
  have step : ∀ E A1 W1, PQ P base fl σ σ1 ρ W .normal a1 E A1 W1 → HFS fl σ σ' ∧ Exit.then N (PQ P base fl σ σ' ρ W e a') E A1 W1 := by
    rintro E A1 W1 ⟨ρ1, p1, rfl, ar1⟩
    obtain ⟨f2, n2⟩ := h2 ρ1 A1 W1 f1 p1 (hin.next p1 le1) ar1 (hrd.mono p1.ext)
    exact ⟨f1.trans f2, n2 fun E A' W' h => pq_trans f1 f2 p1 h⟩
  obtain ⟨E, A1, W1, hq⟩ := wpIn_some w1
  exact ⟨(step E A1 W1 hq).1, wpIn_mono w1 fun E A1 W1 hq => (step E A1 W1 hq).2⟩
theorem seq_sound (hle : ExLe ex) (hex : ExSound P ex) {x y : Code} {fl : Nat} {rd : Option Nat} {a a' : HAct} {σ σ' : HS} {e : HExit} (h : xSeq ex fl rd (lowC P x) (lowC P y) a σ = some (e, a', σ')) (hd : Dom σ) : Snd P (.seq x y) fl rd a σ e a' σ' := by
  intro base ρ A W R hin ha hrd
  unfold xSeq at h
  split at h
  · rename_i a1 σ1 h1
    have le1 := hle _ _ _ _ _ _ _ _ h1
    have le2 := hle _ _ _ _ _ _ _ _ h
    obtain ⟨g1, g2⟩ := then_sound (N := y.wpIn (FR R) 0 P (PQ P base fl σ σ' ρ W e a')) le1 le2 (hex x fl rd a σ .normal a1 σ1 h1 hd) hin ha hrd fun ρ1 A1 W1 f1 p1 hin1 ar1 hrd1 => by
      obtain ⟨f2, w2⟩ := hex y fl rd a1 σ1 e a' σ' h (f1.dom hd) base ρ1 A1 W1 R hin1 ar1 hrd1
      exact ⟨f2, fun hq => wpIn_mono w2 hq⟩
    exact ⟨g1, wpIn_seq g2⟩
  · rename_i hne
    obtain ⟨f1, w1⟩ := hex x fl rd a σ e a' σ' h hd base ρ A W R hin ha hrd
    refine ⟨f1, wpIn_seq (wpIn_mono w1 ?_)⟩
    rintro E A1 W1 ⟨ρ1, p1, rfl, ar1⟩
    cases e with
    | normal => exact absurd h (hne _ _)
    | exit id => exact ⟨ρ1, p1, rfl, ar1⟩
    | ret => exact ⟨ρ1, p1, rfl, ar1⟩
theorem cond_sound (hex : ExSound P ex) {c : Operand} {lc : Lo} (hc : lowX c = some lc) {x y : Code} {fl : Nat} {rd : Option Nat} {a a' : HAct} {σ σ' : HS} {e : HExit} (h : xCond ex fl rd lc (lowC P x) (lowC P y) a σ = some (e, a', σ')) (hd : Dom σ) : Snd P (.cond c x y) fl rd a σ e a' σ' := by
  intro base ρ A W R hin ha hrd
  have hv := ev_ok ha hc
  unfold xCond at h
  split at h
  · rename_i b hb
    rw [hb] at hv
    have hV : A.eval c = .bool b := by generalize A.eval c = V at hv; cases hv; rfl
    cases b with
    | true =>
      obtain ⟨f1, w1⟩ := hex x fl rd a σ e a' σ' h hd base ρ A W R hin ha hrd
      exact ⟨f1, wpIn_cond hV w1⟩
    | false =>
      obtain ⟨f1, w1⟩ := hex y fl rd a σ e a' σ' h hd base ρ A W R hin ha hrd
      exact ⟨f1, wpIn_cond hV w1⟩
  · cases h
theorem block_sound (hex : ExSound P ex) {id : Nat} {x : Code} {fl : Nat} {rd : Option Nat} {a a' : HAct} {σ σ' : HS} {e : HExit} (h : xBlock ex fl rd id (lowC P x) a σ = some (e, a', σ')) (hd : Dom σ) : Snd P (.block id x) fl rd a σ e a' σ' := by
  intro base ρ A W R hin ha hrd
  unfold xBlock at h
  split at h
  · rename_i i a1 σ1 h1
    cases h
    obtain ⟨f1, w1⟩ := hex x fl rd a σ (.exit i) a' σ' h1 hd base ρ A W R hin ha hrd
    refine ⟨f1, wpIn_block (wpIn_mono w1 ?_)⟩
    rintro E A1 W1 ⟨ρ1, p1, rfl, ar1⟩
    simp only [exitOf, Exit.inBlock]
    by_cases hi : i = id
    · subst hi
      simp only [if_true, Nat.beq_refl, cond_true]
      exact ⟨ρ1, p1, rfl, ar1⟩
    · have : Nat.beq i id = false := by
        cases e : Nat.beq i id
        · rfl
        · exact absurd (Nat.eq_of_beq_eq_true e) hi
      simp only [if_neg hi, this, cond_false]
      exact ⟨ρ1, p1, rfl, ar1⟩
  · rename_i hne
    obtain ⟨f1, w1⟩ := hex x fl rd a σ e a' σ' h hd base ρ A W R hin ha hrd
    refine ⟨f1, wpIn_block (wpIn_mono w1 ?_)⟩
    rintro E A1 W1 ⟨ρ1, p1, rfl, ar1⟩
    cases e with
    | normal => exact ⟨ρ1, p1, rfl, ar1⟩
    | exit id => exact absurd h (hne _ _ _)
    | ret => exact ⟨ρ1, p1, rfl, ar1⟩
theorem scope_sound (hex : ExSound P ex) {x : Code} {fl : Nat} {rd : Option Nat} {a a' : HAct} {σ σ' : HS} {e : HExit} (h : ex fl rd (lowC P x) a σ = some (e, a', σ')) (hd : Dom σ) : Snd P (.scope x) fl rd a σ e a' σ' := by
  intro base ρ A W R hin ha hrd
  obtain ⟨f1, w1⟩ := hex x fl rd a σ e a' σ' h hd base ρ A W R hin ha hrd
  refine ⟨f1, wpIn_scope (wpIn_mono w1 ?_)⟩
  rintro E A1 W1 ⟨ρ1, p1, rfl, ar1⟩
  cases e <;> exact ⟨ρ1, p1, rfl, ar1⟩
theorem region_sound (hlp : LpOk P lp) (hle : ExLe ex) (hex : ExSound P ex) {id : Nat} {ops : Array Oper} {fl : Nat} {rd : Option Nat} {a a' : HAct} {σ σ' : HS} {e : HExit} (h : xRegion lp ex fl (ops.toList.map (lowOper P ops)) a σ = some (e, a', σ')) (hd : Dom σ) : Snd P (.region id ops false) fl rd a σ e a' σ' := by
  intro base ρ A W R hin ha hrd
  unfold xRegion xNormal at h
  split at h
  · rename_i a1 σ1 h1
    cases h
    obtain ⟨f1, w1⟩ := runOps_sound hlp hle hex (ops := ops) (fl := fl) ops.size 0 a a' σ σ' (by omega) (by simpa using h1) hd base ρ A W R (PQ P base fl σ σ' ρ W .normal a') hin ha
    refine ⟨f1, wpIn_region ?_⟩
    rw [List.range_eq_range']
    exact w1 fun A' W' ρ' har hp => ⟨ρ', hp, rfl, har⟩
  · cases h
/-- A loop, in as many rounds as there is fuel. -/
theorem loop_sound (hlp : LpOk P lp) {c : Code} : ∀ (n : Nat), (∀ j, j < n → ExSound P (exec lp j) ∧ ExLe (exec lp j)) → ∀ {fl : Nat} {rd : Option Nat} {a a' : HAct} {σ σ' : HS} {e : HExit}, exec lp n fl rd (.loop (lowC P c)) a σ = some (e, a', σ') → Dom σ →
    ∀ (base : Nat) (ρ : Rho) (A : Act) (W : World) (R : Option Nat), In P base σ σ' ρ W → AR ρ a A → RdOk ρ rd R →
      HFS fl σ σ' ∧ ∀ (Q : Exit → Act → World → Prop), (∀ E A' W', PQ P base fl σ σ' ρ W e a' E A' W' → Q E A' W') → Code.roundsIn (FR R) 0 P c Q n A W
  | 0, _, _, _, _, _, _, _, _, h, _ => by cases h
  | n + 1, hall, fl, rd, a, a', σ, σ', e, h, hd => by
    intro base ρ A W R hin ha hrd
    obtain ⟨hex, hle⟩ := hall n (by omega)
    simp only [exec, xCode] at h
    unfold xSeq at h
    simp only [roundsIn_succ]
    split at h
    · rename_i a1 σ1 h1
      have le1 := hle _ _ _ _ _ _ _ _ h1
      have le2 := hle _ _ _ _ _ _ _ _ h
      have key : ∀ (N : Act → World → Prop) (ρ1 : Rho) (A1 : Act) (W1 : World), HFS fl σ σ1 → PostS P base fl σ σ1 ρ ρ1 W W1 → In P base σ1 σ' ρ1 W1 → AR ρ1 a1 A1 → RdOk ρ1 rd R → HFS fl σ1 σ' ∧ ∀ (Q : Exit → Act → World → Prop), (∀ E A' W', PQ P base fl σ1 σ' ρ1 W1 e a' E A' W' → Q E A' W') → Code.roundsIn (FR R) 0 P c Q n A1 W1 :=
        fun N ρ1 A1 W1 f1 p1 hin1 ar1 hrd1 => loop_sound hlp n (fun j hj => hall j (by omega)) h (f1.dom hd) base ρ1 A1 W1 R hin1 ar1 hrd1
      have hs := hex c fl rd a σ .normal a1 σ1 h1 hd
      refine ⟨(then_sound (N := fun _ _ => True) (e := e) (a' := a') le1 le2 hs hin ha hrd fun ρ1 A1 W1 f1 p1 hin1 ar1 hrd1 => ⟨(key (fun _ _ => True) ρ1 A1 W1 f1 p1 hin1 ar1 hrd1).1, fun _ => trivial⟩).1, fun Q hQ => ?_⟩
      refine wpIn_mono (then_sound (N := Code.roundsIn (FR R) 0 P c Q n) (e := e) (a' := a') le1 le2 hs hin ha hrd fun ρ1 A1 W1 f1 p1 hin1 ar1 hrd1 => ?_).2 ?_
      · obtain ⟨f2, r2⟩ := key (fun _ _ => True) ρ1 A1 W1 f1 p1 hin1 ar1 hrd1
        exact ⟨f2, fun hq => r2 Q fun E A' W' h => hQ _ _ _ (hq _ _ _ h)⟩
      · intro E A' W' h
        cases E <;> first | exact h | exact hQ _ _ _ h
    · rename_i hne
      obtain ⟨f1, w1⟩ := hex c fl rd a σ e a' σ' h hd base ρ A W R hin ha hrd
      refine ⟨f1, fun Q hQ => wpIn_mono w1 ?_⟩
      rintro E A1 W1 ⟨ρ1, p1, rfl, ar1⟩
      cases e with
      | normal => exact absurd h (hne _ _)
      | exit id => exact hQ _ _ _ ⟨ρ1, p1, rfl, ar1⟩
      | ret => exact hQ _ _ _ ⟨ρ1, p1, rfl, ar1⟩
end Go.Hx
