/-
  BoreEnds: for all tubes and words the law of P1.8 is true. Conditions: none.
  Each function that the law calls was turned, by a program of ours, into a function on lists and numbers with a proof that the plain machine's run comes to it (Sf, C1 and on); of those functions the law is shown; the closed examples that it asks for at its end are reckoned once.
-/
import Derived.Test.YtcjidgfngjoclaaH07
import Derived.Test.YtcjidgfngjoclaaH08
import Derived.Test.YtcjidgfngjoclaaRows
import Derived.WalkKit
import Derived.ProofKit
import Derived.OpenShut
import Derived.ShutString
import Derived.ChangeOld
import Derived.ChangeSlices
import Derived.Below
set_option linter.all false
/-
  BoreEnds: for all tubes and words the law of P1.8 is true. Conditions: none.
  Each function that the law calls was turned, by a program of ours, into a function on lists and numbers with a proof that the plain machine's run comes to it (Sf, C1 and on); of those functions the law is shown; the closed examples that it asks for at its end are reckoned once.
-/
namespace Go.Proofs.Ytcjidgfngjoclaa.boreEnds
open Go.ChangeShapes Go.WideShapes Go.ChangeAt Go.RowKit
open Go.ChangeMaps (open_string shut_string)
set_option linter.unusedVariables false

theorem own : ownKnob Try.prog.godebug = none := by kernel_rfl
theorem laidOut : laidOutB Try.prog = true := by kernel_rfl
open Go.Hx in
set_option maxRecDepth 100000 in
theorem walk {W : World} {v0 v1 v2 : Value} (h0 : Q4 v0) (h1 : AL (eK .u16) 1 W v1 (fun x => IntKind.u16.min ≤ x ∧ x ≤ IntKind.u16.max)) (h2 : AL (eK .u16) 1 W v2 (fun x => IntKind.u16.min ≤ x ∧ x ≤ IntKind.u16.max)) :
    Calls Try.prog 11 #[v0, v1, v2] W fun e w' => e = .returned (.bool true) ∧ Below W.heap.size W w' := by
  obtain ⟨qa0, qb0, qc0, qd0, rfl⟩ := h0
  obtain ⟨ow1, mkw1, lw1, aw1, cw1, zw1⟩ := h1
  obtain ⟨pw1, kw1, ew1, ww1⟩ := aw1.row 0
  obtain ⟨ow2, mkw2, lw2, aw2, cw2, zw2⟩ := h2
  obtain ⟨pw2, kw2, ew2, ww2⟩ := aw2.row 1
  have hd := lay_d ([ow1, ow2] : List (Option Slot))
  refine calls_args (ss := ([ow1, ow2] : List (Option Slot))) (args := [.agg [i64 qa0, i64 qb0, i64 qc0, i64 qd0], mkw1 0, mkw2 1]) mixed lw_ok (fun s hs => ?_) ?_ ?_
  · rcases List.mem_cons.1 hs with e | hs
    · exact aw1.ok s e.symm
    · rcases List.mem_cons.1 hs with e | hs
      · exact aw2.ok s e.symm
      · cases hs
  · rw [ew1, ew2]; exact V.ct11 1000 (V.law11 (w16 zw1) (w16 zw2) (by decide)) hd (V.all_sub _) (row_of (relK .u16) (of_decide_eq_true rfl) rfl (cw1 _ _ _ _ ew1) ww1) (row_of (relK .u16) (of_decide_eq_true rfl) rfl (cw2 _ _ _ _ ew2) ww2)
  · exact LR.cons (VR.aggL (LR.cons (.int _ _) (LR.cons (.int _ _) (LR.cons (.int _ _) (LR.cons (.int _ _) (LR.nil _)))))) (LR.cons (aw1.vr 0 _ rfl) (LR.cons (aw2.vr 1 _ rfl) (LR.nil _)))

set_option maxRecDepth 100000 in
theorem lifted (os : Os) (started : os.Started) (H : Type) (enc : TypeId × Value → H) :
    ReturnsInHanded {} Try.checked os 11 .any (Rows.boreEndsSpec.pre6 enc Try.prog Try.f11 Rows.boreEndsRow.domain false) (Rows.boreEndsSpec.post enc Try.prog Try.f11 false true false false) := by
  refine returnsInHanded_of_change (C := Try.checked) own started (by kernel_rfl) Try.func11
    (ChangeSpec.witness6 (enc := enc) (C := Try.checked) false ⟨#[], #[.agg #[.int .i64 0, .int .i64 0, .int .i64 0, .int .i64 0], .slice none 0 0, .slice none 0 0], []⟩ 8 (by kernel_rfl) (by kernel_rfl) (by kernel_rfl) (by kernel_rfl)) ?_
  intro W base args ds gs before hval0 hW hcnd _
  have hval : ∀ (j : Nat) t v, Try.f11.params[j]? = some t → args[j]? = some v → Value.okWide Try.prog W .any base t v := hval0
  have hW' := hW
  obtain ⟨p, q, hA0, hV, rfl, hfz, hnd⟩ := hW
  have hA : DataW.TrodAll enc Try.prog W 0 (fun _ => true) true Try.f11.params.toList args.toList ds p := hA0
  rw [Try.params11] at hA hval
  obtain ⟨v0, vs0, d0, ds0, p0, q0, hargs, rfl, rfl, h0, r0⟩ := trodAll_cons hA
  obtain ⟨v1, vs1, d1, ds1, p1, q1, rfl, rfl, rfl, h1, r1⟩ := trodAll_cons r0
  obtain ⟨v2, vs2, d2, ds2, p2, q2, rfl, rfl, rfl, h2, r2⟩ := trodAll_cons r1
  obtain ⟨rfl, rfl, rfl⟩ := trodAll_nil r2
  obtain rfl : args = #[v0, v1, v2] := by cases args; simp_all
  obtain ⟨rfl, rfl⟩ := trodVars_none hV
  have k0 := h0
  have k1 := h1
  have k2 := h2
  have lt0 : ∀ x ∈ p0, x.block < W.heap.size := by obtain ⟨m, hm⟩ := k0; exact DataW.trod_lt m _ _ _ hm
  have lt1 : ∀ x ∈ p1, x.block < W.heap.size := by obtain ⟨m, hm⟩ := k1; exact DataW.trod_lt m _ _ _ hm
  have lt2 : ∀ x ∈ p2, x.block < W.heap.size := by obtain ⟨m, hm⟩ := k2; exact DataW.trod_lt m _ _ _ hm
  have g0 := Hx.arg_tube (hval 0 25 v0 rfl rfl) h0
  have g1 := Hx.arg_words (hval 1 76 v1 rfl rfl) h1
  have g2 := Hx.arg_words (hval 2 76 v2 rfl rfl) h2
  clear hA0 hval0
  refine (walk g0 g1 g2).mono fun e W' ⟨he, bel⟩ => ?_
  subst he
  exact ⟨_, rfl, _, _, _, [], _, [], hW', trodAll_mk1 (shut_bool Try.underlying4 _), (trodAll_cons_mk (Below.trod laidOut (by kernel_rfl) (of_decide_eq_true (by kernel_rfl)) k0 bel lt0) (trodAll_cons_mk (Below.trod laidOut (by kernel_rfl) (of_decide_eq_true (by kernel_rfl)) k1 bel lt1) (trodAll_cons_mk (Below.trod laidOut (by kernel_rfl) (of_decide_eq_true (by kernel_rfl)) k2 bel lt2) trodAll_mk0))), rfl, bel.frame _, fun h => by cases h⟩

theorem over : Rows.boreEndsRow.holds Try.pinned (OpenSpec.ofChange Rows.boreEndsSpec) :=
  OpenClaim.holds_of_wide 11 Try.f11 rfl rfl rfl rfl rfl rfl rfl ⟨rfl, rfl, rfl, rfl, rfl⟩ rfl rfl rfl rfl rfl (by kernel_rfl) Try.func11 (by kernel_rfl)
    (of_decide_eq_true (by kernel_rfl)) (by unfold Func.isWrapper; first | (rw [if_pos (by decide +kernel)]; kernel_rfl) | (rw [if_neg (by decide +kernel)]; exact ⟨rfl, rfl⟩))
    (fun os started H enc _ => lifted os started H enc)

/-- ████ THE STATEMENT ████ -/
theorem proved : Rows.BoreEndsSaid := over
#print axioms proved
end Go.Proofs.Ytcjidgfngjoclaa.boreEnds

