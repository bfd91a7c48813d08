/- From the plain machine to what a statement asks: a call in any world, which leaves all that was there. -/
import Derived.Test.YtojkmobfhkjfnaaHxZb
import Derived.Test.YtojkmobfhkjfnaaHyA
import Derived.RowKit3
set_option linter.all false
namespace Go.Hx
open Go.RowKit
variable {P : Program}

theorem fr_none : FR none = Fence.wide := rfl
/-- What a run has left, if none of the world's own blocks was its own. -/
theorem grown_of_post {base nx nx' : Nat} {g g' : Hp} {ρ ρ' : Rho} {W W' : World} (h : Post P base 0 nx nx' g g' ρ ρ' W W') (hro : ∀ b x, g b = some x → x.own = false) : Grown W W' := by
  have keep : ∀ k, k < W.heap.size → W'.heap[k]? = W.heap[k]? := fun k hk => h.same k hk fun ⟨b, x, r, h1, h2, _⟩ => by rw [hro b x h1] at h2; cases h2
  refine ⟨⟨h.os, h.output, fun i hi => ?_⟩, h.frz, h.size⟩
  rw [keep i hi]
  cases hw : W.heap[i]? with
  | none => rfl
  | some o => cases o <;> first | exact ⟨rfl, rfl, rfl, fun _ _ => rfl⟩ | exact .inr ⟨rfl, rfl⟩ | rfl
/-- A call of the plain machine, on blocks that are only read, in a world. -/
theorem calls_of {lp : Nat → Option LFunc} (hm : P.follows .mixedOrders = true) (hlp : LpOk P lp) {f : Nat} {args : List HV} {σ : HS} {K : HV → Prop} (h : C lp 0 f args σ fun v _ => K v) (hd : Dom σ) (hro : ∀ b x, σ.h.get b = some x → x.own = false)
    {ρ : Rho} {Args : Array Value} {W : World} (hs : Sim P W.heap.size σ.h.get ρ W) (hf : ∀ b, σ.nx ≤ b → ρ b = none) (ha : LR ρ args Args.toList) :
    Calls P f Args W fun e W' => (∃ v V ρ', K v ∧ e = .returned V ∧ VR ρ' v V) ∧ Grown W W' := by
  obtain ⟨n, v, σ', h1, h2⟩ := h
  have hin : In P W.heap.size σ σ' ρ W := ⟨Nat.le_refl _, hs, fun b hb _ => hf b hb⟩
  have := run_sound hm hlp h1 hd W.heap.size ρ Args W hin ha
  rw [fr_none] at this
  refine (callsIn_wide.1 this).mono ?_
  rintro e W' ⟨V, ρ', rfl, hv, hp⟩
  exact ⟨⟨v, V, ρ', h2, rfl, hv⟩, grown_of_post hp hro⟩
theorem calls_closed {lp : Nat → Option LFunc} (hm : P.follows .mixedOrders = true) (hlp : LpOk P lp) {f : Nat} (h : C lp 0 f [] ⟨.e, 0⟩ fun v _ => v = .bool true) (W : World) : Calls P f #[] W fun e W' => e = .returned (.bool true) ∧ Grown W W' := by
  have no : ∀ b x, (⟨.e, 0⟩ : HS).h.get b = some x → False := fun b x hx => by rw [show (⟨.e, 0⟩ : HS).h = .e from rfl, Tr.get_e] at hx; cases hx
  refine (calls_of hm hlp h (fun b x hx => (no b x hx).elim) (fun b x hx => (no b x hx).elim) (ρ := fun _ => none) (Args := #[]) ⟨(fun b x hx => (no b x hx).elim), (fun b b' x x' r r' hx => (no b x hx).elim)⟩ (fun _ _ => rfl) (LR.nil _)).mono ?_
  rintro e W' ⟨⟨v, V, ρ', rfl, rfl, hv⟩, hg⟩
  cases hv
  exact ⟨rfl, hg⟩
end Go.Hx
