/-
  BoreFree: for every tube the law of P1.13 is true: without readings the bounds of each mark are those that the cells alone give. Conditions: none.
  The run is walked on the plain machine (texts Hx, Hy), function by function (T2 to T5, U1 to U8, R1 to R3); 'wakes' is reckoned once (BW).
-/
import Derived.Test.YtojkmobfhkjfnaaH09
import Derived.Test.YtojkmobfhkjfnaaH10
import Derived.Test.YtojkmobfhkjfnaaRows
import Derived.WalkKit
import Derived.ProofKit
import Derived.OpenShut
import Derived.ShutString
import Derived.ChangeOld
import Derived.Below
set_option linter.all false
/-
  BoreFree: for every tube the law of P1.13 is true: without readings the bounds of each mark are those that the cells alone give. Conditions: none.
  The run is walked on the plain machine (texts Hx, Hy), function by function (T2 to T5, U1 to U8, R1 to R3); 'wakes' is reckoned once (BW).
-/
namespace Go.Proofs.Ytojkmobfhkjfnaa.boreFree
open Go.ChangeShapes Go.WideShapes Go.ChangeAt Go.RowKit
open Go.ChangeMaps (open_string shut_string)
set_option linter.unusedVariables false

theorem own : ownKnob Try.prog.godebug = none := by kernel_rfl
theorem laidOut : laidOutB Try.prog = true := by kernel_rfl
theorem leaves25 : Hx.leaves Try.prog 20 25 = some [.i .i64, .i .i64, .i .i64, .i .i64] := by kernel_rfl
theorem cells25 : 4 = Try.prog.cellsOf 25 := by kernel_rfl

open Go.Hx in
theorem walk {W : World} {v0 : Value} (h0 : ∃ t : Tb, ∀ ρ, VR ρ (.agg t.cells) v0) : Calls Try.prog 16 #[v0] W fun e w' => e = .returned (.bool true) ∧ Below W.heap.size W w' := by
  obtain ⟨t, ht⟩ := h0
  refine calls_args (ss := []) (args := [.agg t.cells]) mixed lw_ok (fun s hs => by cases hs) ?_ (LR.cons (ht _) (LR.nil _))
  exact c_law16 (lay_d [])

set_option maxRecDepth 100000 in
theorem lifted (os : Os) (started : os.Started) (H : Type) (enc : TypeId × Value → H) :
    ReturnsInHanded {} Try.checked os 16 .any (Rows.boreFreeSpec.pre6 enc Try.prog Try.f16 Rows.boreFreeRow.domain false) (Rows.boreFreeSpec.post enc Try.prog Try.f16 false true false false) := by
  refine returnsInHanded_of_change (C := Try.checked) own started (by kernel_rfl) Try.func16
    (ChangeSpec.witness6 (enc := enc) (C := Try.checked) false ⟨#[], #[.agg #[.int .i64 0, .int .i64 0, .int .i64 0, .int .i64 0]], []⟩ 8 (by kernel_rfl) (by kernel_rfl) (by kernel_rfl) (by kernel_rfl)) ?_
  intro W base args ds gs before hval0 hW hcnd _
  have hval : ∀ (j : Nat) t v, Try.f16.params[j]? = some t → args[j]? = some v → Value.okWide Try.prog W .any base t v := hval0
  have hW' := hW
  obtain ⟨p, q, hA0, hV, rfl, hfz, hnd⟩ := hW
  have hA : DataW.TrodAll enc Try.prog W 0 (fun _ => true) true Try.f16.params.toList args.toList ds p := hA0
  rw [Try.params16] at hA hval
  obtain ⟨v0, vs0, d0, ds0, p0, q0, hargs, rfl, rfl, h0, r0⟩ := trodAll_cons hA
  obtain ⟨rfl, rfl, rfl⟩ := trodAll_nil r0
  obtain rfl : args = #[v0] := by cases args; simp_all
  obtain ⟨rfl, rfl⟩ := trodVars_none hV
  have k0 := h0
  have lt0 : ∀ x ∈ p0, x.block < W.heap.size := by obtain ⟨m, hm⟩ := k0; exact DataW.trod_lt m _ _ _ hm
  have g0 : ∃ t : Hx.Tb, ∀ ρ, Hx.VR ρ (.agg t.cells) v0 := by
    obtain ⟨C, rfl, hC⟩ := Hx.arg_struct Try.underlying25 leaves25 cells25 (hval 0 25 v0 rfl rfl) h0
    exact Hx.tube_arg hC
  clear hA0 hval0
  refine (walk g0).mono fun e W' ⟨he, bel⟩ => ?_
  subst he
  exact ⟨_, rfl, _, _, _, [], _, [], hW', trodAll_mk1 (shut_bool Try.underlying4 _), (trodAll_cons_mk (Below.trod laidOut (by kernel_rfl) (of_decide_eq_true (by kernel_rfl)) k0 bel lt0) trodAll_mk0), rfl, bel.frame _, fun h => by cases h⟩

theorem over : Rows.boreFreeRow.holds Try.pinned (OpenSpec.ofChange Rows.boreFreeSpec) :=
  OpenClaim.holds_of_wide 16 Try.f16 rfl rfl rfl rfl rfl rfl rfl ⟨rfl, rfl, rfl, rfl, rfl⟩ rfl rfl rfl rfl rfl (by kernel_rfl) Try.func16 (by kernel_rfl)
    (of_decide_eq_true (by kernel_rfl)) (by unfold Func.isWrapper; first | (rw [if_pos (by decide +kernel)]; kernel_rfl) | (rw [if_neg (by decide +kernel)]; exact ⟨rfl, rfl⟩))
    (fun os started H enc _ => lifted os started H enc)

/-- ████ THE STATEMENT ████ -/
theorem proved : Rows.BoreFreeSaid := over
#print axioms proved
end Go.Proofs.Ytojkmobfhkjfnaa.boreFree

