/-
  PointTurned: for every two scales, readings and number the law of P3.13 is true: scales and readings of the other sign, and those that are more by some number. Conditions: none.
  The run is walked on the plain machine (texts Hx, Hy), function by function (A1 to A6); 'wakes' is reckoned once (Wb).
-/
import Derived.Test.YtpilnebbghiemaaH06
import Derived.Test.YtpilnebbghiemaaH08
import Derived.Test.YtpilnebbghiemaaRows
import Derived.WalkKit
import Derived.ProofKit
import Derived.OpenShut
import Derived.ShutString
import Derived.ChangeOld
import Derived.ChangeSlices
import Derived.Below
set_option linter.all false
/-
  PointTurned: for every two scales, readings and number the law of P3.13 is true: scales and readings of the other sign, and those that are more by some number. Conditions: none.
  The run is walked on the plain machine (texts Hx, Hy), function by function (A1 to A6); 'wakes' is reckoned once (Wb).
-/
namespace Go.Proofs.Ytpilnebbghiemaa.pointTurned
open Go.ChangeShapes Go.WideShapes Go.ChangeAt Go.RowKit
open Go.ChangeMaps (open_string shut_string)
set_option linter.unusedVariables false

theorem own : ownKnob Try.prog.godebug = none := by kernel_rfl
theorem laidOut : laidOutB Try.prog = true := by kernel_rfl
theorem leaves23 : Hx.leaves Try.prog 20 23 = some [.i .i64, .i .i64] := by kernel_rfl
theorem cells23 : 2 = Try.prog.cellsOf 23 := by kernel_rfl
theorem leaves25 : Hx.leaves Try.prog 20 25 = some [.i .i64, .i .i64] := by kernel_rfl
theorem cells25 : 2 = Try.prog.cellsOf 25 := by kernel_rfl
open Go.Hx in
set_option maxRecDepth 100000 in
theorem walk {W : World} {v0 v1 v2 v3 : Value} (h0 : ∃ r : Int × Int, ∀ ρ, VR ρ (.agg (renc r)) v0) (h1 : ∃ r : Int × Int, ∀ ρ, VR ρ (.agg (renc r)) v1) (h2 : ∃ r : Int × Int, ∀ ρ, VR ρ (.agg (renc r)) v2) (h3 : ∃ n : Int, v3 = .int .i8 n ∧ -128 ≤ n ∧ n ≤ 127) :
    Calls Try.prog 14 #[v0, v1, v2, v3] W fun e w' => e = .returned (.bool true) ∧ Below W.heap.size W w' := by
  obtain ⟨r0, t0⟩ := h0
  obtain ⟨r1, t1⟩ := h1
  obtain ⟨r2, t2⟩ := h2
  obtain ⟨n3, rfl, b3⟩ := h3
  have hd := lay_d ([] : List (Option Slot))
  refine calls_args (ss := []) (args := [.agg (renc r0), .agg (renc r1), .agg (renc r2), .int .i8 n3]) mixed lw_ok (fun s hs => ?_) ?_ ?_
  · cases hs
  · exact c_law14 hd b3
  · exact LR.cons (t0 _) (LR.cons (t1 _) (LR.cons (t2 _) (LR.cons (.int _ _) (LR.nil _))))

set_option maxRecDepth 100000 in
theorem lifted (os : Os) (started : os.Started) (H : Type) (enc : TypeId × Value → H) :
    ReturnsInHanded {} Try.checked os 14 .any (Rows.pointTurnedSpec.pre6 enc Try.prog Try.f14 Rows.pointTurnedRow.domain false) (Rows.pointTurnedSpec.post enc Try.prog Try.f14 false true false false) := by
  refine returnsInHanded_of_change (C := Try.checked) own started (by kernel_rfl) Try.func14
    (ChangeSpec.witness6 (enc := enc) (C := Try.checked) false ⟨#[], #[.agg #[.int .i64 0, .int .i64 0], .agg #[.int .i64 0, .int .i64 0], .agg #[.int .i64 0, .int .i64 0], .int .i8 0], []⟩ 8 (by kernel_rfl) (by kernel_rfl) (by kernel_rfl) (by kernel_rfl)) ?_
  intro W base args ds gs before hval0 hW hcnd _
  have hval : ∀ (j : Nat) t v, Try.f14.params[j]? = some t → args[j]? = some v → Value.okWide Try.prog W .any base t v := hval0
  have hW' := hW
  obtain ⟨p, q, hA0, hV, rfl, hfz, hnd⟩ := hW
  have hA : DataW.TrodAll enc Try.prog W 0 (fun _ => true) true Try.f14.params.toList args.toList ds p := hA0
  rw [Try.params14] at hA hval
  obtain ⟨v0, vs0, d0, ds0, p0, q0, hargs, rfl, rfl, h0, r0⟩ := trodAll_cons hA
  obtain ⟨v1, vs1, d1, ds1, p1, q1, rfl, rfl, rfl, h1, r1⟩ := trodAll_cons r0
  obtain ⟨v2, vs2, d2, ds2, p2, q2, rfl, rfl, rfl, h2, r2⟩ := trodAll_cons r1
  obtain ⟨v3, vs3, d3, ds3, p3, q3, rfl, rfl, rfl, h3, r3⟩ := trodAll_cons r2
  obtain ⟨rfl, rfl, rfl⟩ := trodAll_nil r3
  obtain rfl : args = #[v0, v1, v2, v3] := by cases args; simp_all
  obtain ⟨rfl, rfl⟩ := trodVars_none hV
  have k0 := h0
  have k1 := h1
  have k2 := h2
  have k3 := h3
  have lt0 : ∀ x ∈ p0, x.block < W.heap.size := by obtain ⟨m, hm⟩ := k0; exact DataW.trod_lt m _ _ _ hm
  have lt1 : ∀ x ∈ p1, x.block < W.heap.size := by obtain ⟨m, hm⟩ := k1; exact DataW.trod_lt m _ _ _ hm
  have lt2 : ∀ x ∈ p2, x.block < W.heap.size := by obtain ⟨m, hm⟩ := k2; exact DataW.trod_lt m _ _ _ hm
  have lt3 : ∀ x ∈ p3, x.block < W.heap.size := by obtain ⟨m, hm⟩ := k3; exact DataW.trod_lt m _ _ _ hm
  have g0 : ∃ r : Int × Int, ∀ ρ, Hx.VR ρ (.agg (Hx.renc r)) v0 := by
    obtain ⟨C, rfl, hC⟩ := Hx.arg_struct Try.underlying23 leaves23 cells23 (hval 0 23 v0 rfl rfl) h0
    exact Hx.pair_arg hC
  have g1 : ∃ r : Int × Int, ∀ ρ, Hx.VR ρ (.agg (Hx.renc r)) v1 := by
    obtain ⟨C, rfl, hC⟩ := Hx.arg_struct Try.underlying23 leaves23 cells23 (hval 1 23 v1 rfl rfl) h1
    exact Hx.pair_arg hC
  have g2 : ∃ r : Int × Int, ∀ ρ, Hx.VR ρ (.agg (Hx.renc r)) v2 := by
    obtain ⟨C, rfl, hC⟩ := Hx.arg_struct Try.underlying25 leaves25 cells25 (hval 2 25 v2 rfl rfl) h2
    exact Hx.pair_arg hC
  have g3 : ∃ n : Int, v3 = .int .i8 n ∧ -128 ≤ n ∧ n ≤ 127 := by
    obtain ⟨n, rfl, _, _, hw⟩ := open_int Try.underlying89 (hval 3 89 v3 rfl rfl) h3
    exact ⟨n, rfl, Hx.wfk hw⟩
  clear hA0 hval0
  refine (walk g0 g1 g2 g3).mono fun e W' ⟨he, bel⟩ => ?_
  subst he
  exact ⟨_, rfl, _, _, _, [], _, [], hW', trodAll_mk1 (shut_bool Try.underlying4 _), (trodAll_cons_mk (Below.trod laidOut (by kernel_rfl) (of_decide_eq_true (by kernel_rfl)) k0 bel lt0) (trodAll_cons_mk (Below.trod laidOut (by kernel_rfl) (of_decide_eq_true (by kernel_rfl)) k1 bel lt1) (trodAll_cons_mk (Below.trod laidOut (by kernel_rfl) (of_decide_eq_true (by kernel_rfl)) k2 bel lt2) (trodAll_cons_mk (Below.trod laidOut (by kernel_rfl) (of_decide_eq_true (by kernel_rfl)) k3 bel lt3) trodAll_mk0)))), rfl, bel.frame _, fun h => by cases h⟩

theorem over : Rows.pointTurnedRow.holds Try.pinned (OpenSpec.ofChange Rows.pointTurnedSpec) :=
  OpenClaim.holds_of_wide 14 Try.f14 rfl rfl rfl rfl rfl rfl rfl ⟨rfl, rfl, rfl, rfl, rfl⟩ rfl rfl rfl rfl rfl (by kernel_rfl) Try.func14 (by kernel_rfl)
    (of_decide_eq_true (by kernel_rfl)) (by unfold Func.isWrapper; first | (rw [if_pos (by decide +kernel)]; kernel_rfl) | (rw [if_neg (by decide +kernel)]; exact ⟨rfl, rfl⟩))
    (fun os started H enc _ => lifted os started H enc)

/-- ████ THE STATEMENT ████ -/
theorem proved : Rows.PointTurnedSaid := over
#print axioms proved
end Go.Proofs.Ytpilnebbghiemaa.pointTurned

