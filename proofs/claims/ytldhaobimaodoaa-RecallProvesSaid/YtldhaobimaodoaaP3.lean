/-
  RecallProves: for all batches and lists of numbers the law of P9.1 is true: whether the batch is valid, and whether the order of sales and their days are a truth of it, is as the document says. Conditions: none.
  Each function that the law calls was turned, by a program of ours, into a function on lists and numbers with a proof that the plain machine's run comes to it (Sf, C1 and on); of those functions the law is shown; the closed examples that it asks for at its end are reckoned once.
-/
import Derived.Test.YtldhaobimaodoaaH08
import Derived.Test.YtldhaobimaodoaaH09
import Derived.Test.YtldhaobimaodoaaRows
import Derived.WalkKit
import Derived.ProofKit
import Derived.OpenShut
import Derived.ShutString
import Derived.ChangeOld
import Derived.ChangeSlices
import Derived.Below
set_option linter.all false
/-
  RecallProves: for all batches and lists of numbers the law of P9.1 is true: whether the batch is valid, and whether the order of sales and their days are a truth of it, is as the document says. Conditions: none.
  Each function that the law calls was turned, by a program of ours, into a function on lists and numbers with a proof that the plain machine's run comes to it (Sf, C1 and on); of those functions the law is shown; the closed examples that it asks for at its end are reckoned once.
-/
namespace Go.Proofs.Ytldhaobimaodoaa.recallProves
open Go.ChangeShapes Go.WideShapes Go.ChangeAt Go.RowKit
open Go.ChangeMaps (open_string shut_string)
set_option linter.unusedVariables false

theorem own : ownKnob Try.prog.godebug = none := by kernel_rfl
theorem laidOut : laidOutB Try.prog = true := by kernel_rfl
open Go.Hx in
set_option maxRecDepth 100000 in
theorem walk {W : World} {v0 v1 v2 : Value} (h0 : BatA W v0)
    (h1 : ∃ oo mo lo, ArgP V.rI 1 W v1 oo mo lo)
    (h2 : ∃ oo mo lo, ArgP V.rI 1 W v2 oo mo lo) :
    Calls Try.prog 3 #[v0, v1, v2] W fun e w' => e = .returned (.bool true) ∧ Below W.heap.size W w' := by
  obtain ⟨ow0, to0, vs0, rfl, oo0, mo0, lo0, ao0⟩ := h0
  obtain ⟨po0, co0, eo0, wo0⟩ := ao0.row 0
  obtain ⟨oo1, mo1, lo1, ao1⟩ := h1
  obtain ⟨po1, co1, eo1, wo1⟩ := ao1.row 1
  obtain ⟨oo2, mo2, lo2, ao2⟩ := h2
  obtain ⟨po2, co2, eo2, wo2⟩ := ao2.row 2
  have hd := lay_d ([oo0, oo1, oo2] : List (Option Slot))
  refine calls_argsN (ss := ([oo0, oo1, oo2] : List (Option Slot))) (args := [.agg [i64 ow0, i64 to0, mo0 0], mo1 1, mo2 2]) mixed lw_ok (fun s hs => ?_) ?_ ?_
  · rcases List.mem_cons.1 hs with e | hs
    · exact (ao0.ok s e.symm).n _
    · rcases List.mem_cons.1 hs with e | hs
      · exact (ao1.ok s e.symm).n _
      · rcases List.mem_cons.1 hs with e | hs
        · exact (ao2.ok s e.symm).n _
        · cases hs
  · rw [eo0, eo1, eo2]
    exact V.ct3 200000 (V.law3 (by decide) _ _ _ _ _) hd (V.all_sub _) (wo0 _ (by rw [lay_get]; rfl)) (wo1 _ (by rw [lay_get]; rfl)) (wo2 _ (by rw [lay_get]; rfl))
  · exact LR.cons (VR.aggL (LR.cons (.int _ _) (LR.cons (.int _ _) (LR.cons (ao0.vr 0 _ rfl) (LR.nil _))))) (LR.cons (ao1.vr 1 _ rfl) (LR.cons (ao2.vr 2 _ rfl) (LR.nil _)))

set_option maxRecDepth 100000 in
theorem lifted (os : Os) (started : os.Started) (H : Type) (enc : TypeId × Value → H) :
    ReturnsInHanded {} Try.checked os 3 .any (Rows.recallProvesSpec.pre6 enc Try.prog Try.f3 Rows.recallProvesRow.domain false) (Rows.recallProvesSpec.post enc Try.prog Try.f3 false true false false) := by
  refine returnsInHanded_of_change (C := Try.checked) own started (by kernel_rfl) Try.func3
    (ChangeSpec.witness6 (enc := enc) (C := Try.checked) false ⟨#[], #[.agg #[.int .i64 0, .int .i64 0, .slice none 0 0], .slice none 0 0, .slice none 0 0], []⟩ 8 (by kernel_rfl) (by kernel_rfl) (by kernel_rfl) (by kernel_rfl)) ?_
  intro W base args ds gs before hval0 hW hcnd _
  have hval : ∀ (j : Nat) t v, Try.f3.params[j]? = some t → args[j]? = some v → Value.okWide Try.prog W .any base t v := hval0
  have hW' := hW
  obtain ⟨p, q, hA0, hV, rfl, hfz, hnd⟩ := hW
  have hA : DataW.TrodAll enc Try.prog W 0 (fun _ => true) true Try.f3.params.toList args.toList ds p := hA0
  rw [Try.params3] at hA hval
  obtain ⟨v0, vs0, d0, ds0, p0, q0, hargs, rfl, rfl, h0, r0⟩ := trodAll_cons hA
  obtain ⟨v1, vs1, d1, ds1, p1, q1, rfl, rfl, rfl, h1, r1⟩ := trodAll_cons r0
  obtain ⟨v2, vs2, d2, ds2, p2, q2, rfl, rfl, rfl, h2, r2⟩ := trodAll_cons r1
  obtain ⟨rfl, rfl, rfl⟩ := trodAll_nil r2
  obtain rfl : args = #[v0, v1, v2] := by cases args; simp_all
  obtain ⟨rfl, rfl⟩ := trodVars_none hV
  have k0 := h0
  have k1 := h1
  have k2 := h2
  have lt0 : ∀ x ∈ p0, x.block < W.heap.size := by obtain ⟨m, hm⟩ := k0; exact DataW.trod_lt m _ _ _ hm
  have lt1 : ∀ x ∈ p1, x.block < W.heap.size := by obtain ⟨m, hm⟩ := k1; exact DataW.trod_lt m _ _ _ hm
  have lt2 : ∀ x ∈ p2, x.block < W.heap.size := by obtain ⟨m, hm⟩ := k2; exact DataW.trod_lt m _ _ _ hm
  have g0 := Hx.arg_batch (hval 0 24 v0 rfl rfl) h0
  have g1 := Hx.arg_intsP (hval 1 25 v1 rfl rfl) h1
  have g2 := Hx.arg_intsP (hval 2 25 v2 rfl rfl) h2
  clear hA0 hval0
  refine (walk g0 g1 g2).mono fun e W' ⟨he, bel⟩ => ?_
  subst he
  exact ⟨_, rfl, _, _, _, [], _, [], hW', trodAll_mk1 (shut_bool Try.underlying4 _), (trodAll_cons_mk (Below.trod laidOut (by kernel_rfl) (of_decide_eq_true (by kernel_rfl)) k0 bel lt0) (trodAll_cons_mk (Below.trod laidOut (by kernel_rfl) (of_decide_eq_true (by kernel_rfl)) k1 bel lt1) (trodAll_cons_mk (Below.trod laidOut (by kernel_rfl) (of_decide_eq_true (by kernel_rfl)) k2 bel lt2) trodAll_mk0))), rfl, bel.frame _, fun h => by cases h⟩

theorem over : Rows.recallProvesRow.holds Try.pinned (OpenSpec.ofChange Rows.recallProvesSpec) :=
  OpenClaim.holds_of_wide 3 Try.f3 rfl rfl rfl rfl rfl rfl rfl ⟨rfl, rfl, rfl, rfl, rfl⟩ rfl rfl rfl rfl rfl (by kernel_rfl) Try.func3 (by kernel_rfl)
    (of_decide_eq_true (by kernel_rfl)) (by unfold Func.isWrapper; first | (rw [if_pos (by decide +kernel)]; kernel_rfl) | (rw [if_neg (by decide +kernel)]; exact ⟨rfl, rfl⟩))
    (fun os started H enc _ => lifted os started H enc)

/-- ████ THE STATEMENT ████ -/
theorem proved : Rows.RecallProvesSaid := over
#print axioms proved
end Go.Proofs.Ytldhaobimaodoaa.recallProves

