/- What is known of a function is taken in place of its text: at first for functions of plain values alone. -/
import Derived.Test.YtojkmobfhkjfnaaHyB
set_option linter.all false
namespace Go.Hx
variable {P : Program}

/-- Values that lead to no block. -/
def flat1 : HV → Bool
  | .bool _ | .int _ _ | .str _ | .ptr none | .slice none _ _ | .map none | .nilFunc | .nilIface | .func _ [] [] => true
  | _ => false
def flat : HV → Bool
  | .agg cs => cs.all flat1
  | v => flat1 v
def flatV : HV → Bool
  | .tuple vs => vs.all flat
  | v => flat v
theorem VR.f1 {ρ ρ' : Rho} {v : HV} {V : Value} (hf : flat1 v = true) (h : VR ρ v V) : VR ρ' v V := by
  cases h with
  | bool b => exact .bool b
  | int k n => exact .int k n
  | str s => exact .str s
  | ptr0 => exact .ptr0
  | slice0 => exact .slice0
  | map0 => exact .map0
  | nilFunc => exact .nilFunc
  | nilIface => exact .nilIface
  | func h1 h2 h3 h4 =>
    rename_i f first captured F C
    cases first with
    | cons _ _ => cases hf
    | nil =>
      cases captured with
      | cons _ _ => cases hf
      | nil => exact .func h1 h2 (fun i v u hv _ => by simp at hv) (fun i v u hv _ => by simp at hv)
  | ptr _ => cases hf
  | slice _ => cases hf
  | map _ => cases hf
  | yield _ => cases hf
  | agg _ _ => cases hf
  | tuple _ _ => cases hf
theorem VR.flat {ρ ρ' : Rho} {v : HV} {V : Value} (hf : Hx.flat v = true) (h : VR ρ v V) : VR ρ' v V := by
  cases v with
  | agg cs =>
    cases h with
    | agg hl h => exact .agg hl fun i v u hv hu => (h i v u hv hu).f1 (List.all_eq_true.1 hf v (List.mem_of_getElem? hv))
  | _ => exact h.f1 hf
theorem VR.flatV {ρ ρ' : Rho} {v : HV} {V : Value} (hf : Hx.flatV v = true) (h : VR ρ v V) : VR ρ' v V := by
  cases v with
  | tuple cs =>
    cases h with
    | tuple hl h => exact .tuple hl fun i v u hv hu => (h i v u hv hu).flat (List.all_eq_true.1 hf v (List.mem_of_getElem? hv))
  | _ => exact h.flat hf
theorem LR.flat {ρ ρ' : Rho} {vs : List HV} {V : List Value} (hf : vs.all Hx.flat = true) (h : LR ρ vs V) : LR ρ' vs V :=
  ⟨h.1, fun i v u hv hu => (h.2 i v u hv hu).flat (List.all_eq_true.1 hf v (List.mem_of_getElem? hv))⟩

/-- The store's part of a run that left all blocks of the world as they were. -/
theorem post_same {base fl nx0 nx0' : Nat} {g0 g0' : Hp} {ρ0 ρ0' ρ : Rho} {σ : HS} {W W' : World} (p : Post P W.heap.size 0 nx0 nx0' g0 g0' ρ0 ρ0' W W') (hro : ∀ b x, g0 b = some x → x.own = false) (hs : Sim P base σ.h.get ρ W) : PostS P base fl σ σ ρ ρ W W' := by
  have keep : ∀ k, k < W.heap.size → W'.heap[k]? = W.heap[k]? := fun k hk => p.same k hk fun ⟨b, x, r, h1, h2, _⟩ => by rw [hro b x h1] at h2; cases h2
  exact ⟨fun _ _ h => h, fun _ _ => rfl, ⟨fun b x hx => by
      obtain ⟨r, hr, hlt, _⟩ := (hs.ok b x hx).has
      exact (hs.ok b x hx).keep (fun _ _ h => h) fun r' hr' => by rw [hr] at hr'; cases hr'; exact keep _ hlt, hs.inj⟩,
    p.os, p.tape, p.output, p.frz, p.size, fun k hk _ => keep k hk, fun k hk => .inr hk⟩
theorem run_sound' (hm : P.follows .mixedOrders = true) {lp : Nat → Option LFunc} (hlp : LpOk P lp) {n fl f : Nat} {args : List HV} {σ σ' : HS} {v : HV} (h : callF lp (exec lp n) fl f args σ = some (v, σ')) (hd : Dom σ) :
    ∀ (base : Nat) (ρ : Rho) (Args : Array Value) (W : World), In P base σ σ' ρ W → LR ρ args Args.toList →
      HFS fl σ σ' ∧ (∃ fn, P.funcs[f]? = some fn ∧ fn.body.isSome = true ∧ (fn.name == "runtime.NumGoroutine") = false) ∧
      CallsIn (FR none) 0 P f Args W (fun E W' => ∃ V ρ', E = .returned V ∧ VR ρ' v V ∧ PostS P base fl σ σ' ρ ρ' W W') :=
  fun base ρ Args W hin hargs => callF_sound hlp (exec_sound hm hlp n).2 (exec_sound hm hlp n).1 h hd base ρ Args W hin hargs
/-- A function of plain values, known by its runs on no memory. -/
theorem spec_plain (hm : P.follows .mixedOrders = true) {lp : Nat → Option LFunc} (hlp : LpOk P lp) {f : Nat} {g : List HV → HS → Option (HV × HS)}
    (h : ∀ args σ v σ', g args σ = some (v, σ') → σ' = σ ∧ args.all flat = true ∧ flatV v = true ∧ C lp 0 f args ⟨.e, 0⟩ (fun v' _ => v' = v)) : SpecOk P f g := by
  intro args σ v σ' hg hd fl base ρ Args W hin hargs
  obtain ⟨rfl, hfa, hfv, n, v', σ1, h1, rfl⟩ := h _ _ _ _ hg
  have no : ∀ b x, (⟨.e, 0⟩ : HS).h.get b = some x → False := fun b x hx => by rw [show (⟨.e, 0⟩ : HS).h = .e from rfl, Tr.get_e] at hx; cases hx
  obtain ⟨_, hfn, hc⟩ := run_sound' hm hlp h1 (fun b x hx => (no b x hx).elim) W.heap.size (fun _ => none) Args W
    ⟨Nat.le_refl _, ⟨(fun b x hx => (no b x hx).elim), (fun b b' x x' r r' hx => (no b x hx).elim)⟩, fun _ _ _ => rfl⟩ (hargs.flat hfa)
  refine ⟨HF.refl _ _ _, hfn, hc.mono ?_⟩
  rintro E W' ⟨V, ρ', rfl, hv, hp⟩
  exact ⟨V, ρ, rfl, hv.flatV hfv, post_same hp (fun b x hx => (no b x hx).elim) hin.sim⟩

/-- The functions of a program, some of which are known. -/
def withS (lp : Nat → Option LFunc) (f : Nat) (g : List HV → HS → Option (HV × HS)) : Nat → Option LFunc := fun i => bif Nat.beq i f then some ⟨0, .bad, [], false, some g⟩ else lp i
theorem withS_ok {lp : Nat → Option LFunc} (hlp : LpOk P lp) {f : Nat} {g : List HV → HS → Option (HV × HS)} (hg : SpecOk P f g) : LpOk P (withS lp f g) := by
  intro i lf h
  unfold withS at h
  cases hb : Nat.beq i f with
  | true =>
    rw [hb] at h
    cases h
    have := Nat.eq_of_beq_eq_true hb
    subst this
    exact ⟨fun g' hg' => by cases hg'; exact hg, fun h => by cases h⟩
  | false => rw [hb] at h; exact hlp i lf h
end Go.Hx
