/-
  PointKinds: for all scales and diaries the law of P3.5 and P3.6 is true. Conditions: none.
  Each function that the law calls was turned, by a program of ours, into a function on lists and numbers with a proof that the plain machine's run comes to it (Sf, C1 and on); of those functions the law is shown; the closed examples that it asks for at its end are reckoned once.
-/
import Derived.Test.YtncdppdghlkloaaH06
import Derived.Test.YtncdppdghlkloaaH07
import Derived.Test.YtncdppdghlkloaaRows
import Derived.WalkKit
import Derived.ProofKit
import Derived.OpenShut
import Derived.ShutString
import Derived.ChangeOld
import Derived.ChangeSlices
import Derived.Below
set_option linter.all false
/-
  PointKinds: for all scales and diaries the law of P3.5 and P3.6 is true. Conditions: none.
  Each function that the law calls was turned, by a program of ours, into a function on lists and numbers with a proof that the plain machine's run comes to it (Sf, C1 and on); of those functions the law is shown; the closed examples that it asks for at its end are reckoned once.
-/
namespace Go.Proofs.Ytncdppdghlkloaa.pointKinds
open Go.ChangeShapes Go.WideShapes Go.ChangeAt Go.RowKit
open Go.ChangeMaps (open_string shut_string)
set_option linter.unusedVariables false

theorem own : ownKnob Try.prog.godebug = none := by kernel_rfl
theorem laidOut : laidOutB Try.prog = true := by kernel_rfl
open Go.Hx in
set_option maxRecDepth 100000 in
theorem walk {W : World} {v0 v1 : Value} (h0 : AL e2 2 W v0 (fun _ => True)) (h1 : AL e3 3 W v1 (fun _ => True)) :
    Calls Try.prog 6 #[v0, v1] W fun e w' => e = .returned (.bool true) ∧ Below W.heap.size W w' := by
  obtain ⟨oi0, mki0, li0, ai0, ci0, _⟩ := h0
  obtain ⟨pi0, ki0, ei0, wi0⟩ := ai0.row 0
  obtain ⟨oi1, mki1, li1, ai1, ci1, _⟩ := h1
  obtain ⟨pi1, ki1, ei1, wi1⟩ := ai1.row 1
  have hd := lay_d ([oi0, oi1] : List (Option Slot))
  refine calls_args (ss := ([oi0, oi1] : List (Option Slot))) (args := [mki0 0, mki1 1]) mixed lw_ok (fun s hs => ?_) ?_ ?_
  · rcases List.mem_cons.1 hs with e | hs
    · exact ai0.ok s e.symm
    · rcases List.mem_cons.1 hs with e | hs
      · exact ai1.ok s e.symm
      · cases hs
  · rw [ei0, ei1]; exact V.ct6 100 (V.law6) hd (V.all_sub _) (row_of rel2 (of_decide_eq_true rfl) rfl (ci0 _ _ _ _ ei0) wi0) (row_of rel3 (of_decide_eq_true rfl) rfl (ci1 _ _ _ _ ei1) wi1)
  · exact LR.cons (ai0.vr 0 _ rfl) (LR.cons (ai1.vr 1 _ rfl) (LR.nil _))

set_option maxRecDepth 100000 in
theorem lifted (os : Os) (started : os.Started) (H : Type) (enc : TypeId × Value → H) :
    ReturnsInHanded {} Try.checked os 6 .any (Rows.pointKindsSpec.pre6 enc Try.prog Try.f6 Rows.pointKindsRow.domain false) (Rows.pointKindsSpec.post enc Try.prog Try.f6 false true false false) := by
  refine returnsInHanded_of_change (C := Try.checked) own started (by kernel_rfl) Try.func6
    (ChangeSpec.witness6 (enc := enc) (C := Try.checked) false ⟨#[], #[.slice none 0 0, .slice none 0 0], []⟩ 8 (by kernel_rfl) (by kernel_rfl) (by kernel_rfl) (by kernel_rfl)) ?_
  intro W base args ds gs before hval0 hW hcnd _
  have hval : ∀ (j : Nat) t v, Try.f6.params[j]? = some t → args[j]? = some v → Value.okWide Try.prog W .any base t v := hval0
  have hW' := hW
  obtain ⟨p, q, hA0, hV, rfl, hfz, hnd⟩ := hW
  have hA : DataW.TrodAll enc Try.prog W 0 (fun _ => true) true Try.f6.params.toList args.toList ds p := hA0
  rw [Try.params6] at hA hval
  obtain ⟨v0, vs0, d0, ds0, p0, q0, hargs, rfl, rfl, h0, r0⟩ := trodAll_cons hA
  obtain ⟨v1, vs1, d1, ds1, p1, q1, rfl, rfl, rfl, h1, r1⟩ := trodAll_cons r0
  obtain ⟨rfl, rfl, rfl⟩ := trodAll_nil r1
  obtain rfl : args = #[v0, v1] := by cases args; simp_all
  obtain ⟨rfl, rfl⟩ := trodVars_none hV
  have k0 := h0
  have k1 := h1
  have lt0 : ∀ x ∈ p0, x.block < W.heap.size := by obtain ⟨m, hm⟩ := k0; exact DataW.trod_lt m _ _ _ hm
  have lt1 : ∀ x ∈ p1, x.block < W.heap.size := by obtain ⟨m, hm⟩ := k1; exact DataW.trod_lt m _ _ _ hm
  have g0 := Hx.arg_scales (hval 0 36 v0 rfl rfl) h0
  have g1 := Hx.arg_diary (hval 1 61 v1 rfl rfl) h1
  clear hA0 hval0
  refine (walk g0 g1).mono fun e W' ⟨he, bel⟩ => ?_
  subst he
  exact ⟨_, rfl, _, _, _, [], _, [], hW', trodAll_mk1 (shut_bool Try.underlying4 _), (trodAll_cons_mk (Below.trod laidOut (by kernel_rfl) (of_decide_eq_true (by kernel_rfl)) k0 bel lt0) (trodAll_cons_mk (Below.trod laidOut (by kernel_rfl) (of_decide_eq_true (by kernel_rfl)) k1 bel lt1) trodAll_mk0)), rfl, bel.frame _, fun h => by cases h⟩

theorem over : Rows.pointKindsRow.holds Try.pinned (OpenSpec.ofChange Rows.pointKindsSpec) :=
  OpenClaim.holds_of_wide 6 Try.f6 rfl rfl rfl rfl rfl rfl rfl ⟨rfl, rfl, rfl, rfl, rfl⟩ rfl rfl rfl rfl rfl (by kernel_rfl) Try.func6 (by kernel_rfl)
    (of_decide_eq_true (by kernel_rfl)) (by unfold Func.isWrapper; first | (rw [if_pos (by decide +kernel)]; kernel_rfl) | (rw [if_neg (by decide +kernel)]; exact ⟨rfl, rfl⟩))
    (fun os started H enc _ => lifted os started H enc)

/-- ████ THE STATEMENT ████ -/
theorem proved : Rows.PointKindsSaid := over
#print axioms proved
end Go.Proofs.Ytncdppdghlkloaa.pointKinds

