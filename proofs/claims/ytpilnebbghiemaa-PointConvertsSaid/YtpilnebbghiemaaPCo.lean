/-
  PointConverts: for all scales and readings the law of P3.2 and P3.3 is true: what can stand on the last scale, through all of them or from one to the next one, is as the reference has it. Conditions: none.
  The run is walked on the plain machine (texts Hx, Hy), function by function (A1 to A6); 'wakes' is reckoned once (Wb).
-/
import Derived.Test.YtpilnebbghiemaaH07
import Derived.Test.YtpilnebbghiemaaH09
import Derived.Test.YtpilnebbghiemaaRows
import Derived.WalkKit
import Derived.ProofKit
import Derived.OpenShut
import Derived.ShutString
import Derived.ChangeOld
import Derived.ChangeSlices
import Derived.Below
set_option linter.all false
/-
  PointConverts: for all scales and readings the law of P3.2 and P3.3 is true: what can stand on the last scale, through all of them or from one to the next one, is as the reference has it. Conditions: none.
  The run is walked on the plain machine (texts Hx, Hy), function by function (A1 to A6); 'wakes' is reckoned once (Wb).
-/
namespace Go.Proofs.Ytpilnebbghiemaa.pointConverts
open Go.ChangeShapes Go.WideShapes Go.ChangeAt Go.RowKit
open Go.ChangeMaps (open_string shut_string)
set_option linter.unusedVariables false

theorem own : ownKnob Try.prog.godebug = none := by kernel_rfl
theorem laidOut : laidOutB Try.prog = true := by kernel_rfl
theorem leaves23 : Hx.leaves Try.prog 20 23 = some [.i .i64, .i .i64] := by kernel_rfl
theorem cells23 : 2 = Try.prog.cellsOf 23 := by kernel_rfl
theorem leaves25 : Hx.leaves Try.prog 20 25 = some [.i .i64, .i .i64] := by kernel_rfl
theorem cells25 : 2 = Try.prog.cellsOf 25 := by kernel_rfl
open Go.Hx in
set_option maxRecDepth 100000 in
theorem walk {W : World} {v0 v1 : Value} (h0 : ∃ (o : Option Slot) (mk : Nat → HV) (l : List (Int × Int)), ArgL renc 2 W v0 o mk l ∧ ∀ k p n c, mk k = .slice p n c → n ≤ c) (h1 : ∃ r : Int × Int, ∀ ρ, VR ρ (.agg (renc r)) v1) :
    Calls Try.prog 4 #[v0, v1] W fun e w' => e = .returned (.bool true) ∧ Below W.heap.size W w' := by
  obtain ⟨o0, mk0, l0, a0, cap0⟩ := h0
  obtain ⟨p0, c0, e0, w0⟩ := a0.row 0
  obtain ⟨r1, t1⟩ := h1
  have hd := lay_d [o0]
  refine calls_args (ss := [o0]) (args := [mk0 0, .agg (renc r1)]) mixed lw_ok (fun s hs => ?_) ?_ ?_
  · rcases List.mem_cons.1 hs with e | hs
    · exact a0.ok s e.symm
    · cases hs
  · rw [e0]; exact c_law4 hd rfl (cap0 _ _ _ _ e0) (w0 _ _ (by show 0 < 1; omega) (lay_get _ 0))
  · exact LR.cons (a0.vr 0 _ rfl) (LR.cons (t1 _) (LR.nil _))

set_option maxRecDepth 100000 in
theorem lifted (os : Os) (started : os.Started) (H : Type) (enc : TypeId × Value → H) :
    ReturnsInHanded {} Try.checked os 4 .any (Rows.pointConvertsSpec.pre6 enc Try.prog Try.f4 Rows.pointConvertsRow.domain false) (Rows.pointConvertsSpec.post enc Try.prog Try.f4 false true false false) := by
  refine returnsInHanded_of_change (C := Try.checked) own started (by kernel_rfl) Try.func4
    (ChangeSpec.witness6 (enc := enc) (C := Try.checked) false ⟨#[], #[.slice none 0 0, .agg #[.int .i64 0, .int .i64 0]], []⟩ 8 (by kernel_rfl) (by kernel_rfl) (by kernel_rfl) (by kernel_rfl)) ?_
  intro W base args ds gs before hval0 hW hcnd _
  have hval : ∀ (j : Nat) t v, Try.f4.params[j]? = some t → args[j]? = some v → Value.okWide Try.prog W .any base t v := hval0
  have hW' := hW
  obtain ⟨p, q, hA0, hV, rfl, hfz, hnd⟩ := hW
  have hA : DataW.TrodAll enc Try.prog W 0 (fun _ => true) true Try.f4.params.toList args.toList ds p := hA0
  rw [Try.params4] at hA hval
  obtain ⟨v0, vs0, d0, ds0, p0, q0, hargs, rfl, rfl, h0, r0⟩ := trodAll_cons hA
  obtain ⟨v1, vs1, d1, ds1, p1, q1, rfl, rfl, rfl, h1, r1⟩ := trodAll_cons r0
  obtain ⟨rfl, rfl, rfl⟩ := trodAll_nil r1
  obtain rfl : args = #[v0, v1] := by cases args; simp_all
  obtain ⟨rfl, rfl⟩ := trodVars_none hV
  have k0 := h0
  have k1 := h1
  have lt0 : ∀ x ∈ p0, x.block < W.heap.size := by obtain ⟨m, hm⟩ := k0; exact DataW.trod_lt m _ _ _ hm
  have lt1 : ∀ x ∈ p1, x.block < W.heap.size := by obtain ⟨m, hm⟩ := k1; exact DataW.trod_lt m _ _ _ hm
  have g0 := Hx.arg_rowsC (enc := Hx.renc) Try.underlying36 leaves23 cells23 (hval 0 36 v0 rfl rfl) h0 (fun _ => rfl) Hx.dec_pair
  have g1 : ∃ r : Int × Int, ∀ ρ, Hx.VR ρ (.agg (Hx.renc r)) v1 := by
    obtain ⟨C, rfl, hC⟩ := Hx.arg_struct Try.underlying25 leaves25 cells25 (hval 1 25 v1 rfl rfl) h1
    exact Hx.pair_arg hC
  clear hA0 hval0
  refine (walk g0 g1).mono fun e W' ⟨he, bel⟩ => ?_
  subst he
  exact ⟨_, rfl, _, _, _, [], _, [], hW', trodAll_mk1 (shut_bool Try.underlying4 _), (trodAll_cons_mk (Below.trod laidOut (by kernel_rfl) (of_decide_eq_true (by kernel_rfl)) k0 bel lt0) (trodAll_cons_mk (Below.trod laidOut (by kernel_rfl) (of_decide_eq_true (by kernel_rfl)) k1 bel lt1) trodAll_mk0)), rfl, bel.frame _, fun h => by cases h⟩

theorem over : Rows.pointConvertsRow.holds Try.pinned (OpenSpec.ofChange Rows.pointConvertsSpec) :=
  OpenClaim.holds_of_wide 4 Try.f4 rfl rfl rfl rfl rfl rfl rfl ⟨rfl, rfl, rfl, rfl, rfl⟩ rfl rfl rfl rfl rfl (by kernel_rfl) Try.func4 (by kernel_rfl)
    (of_decide_eq_true (by kernel_rfl)) (by unfold Func.isWrapper; first | (rw [if_pos (by decide +kernel)]; kernel_rfl) | (rw [if_neg (by decide +kernel)]; exact ⟨rfl, rfl⟩))
    (fun os started H enc _ => lifted os started H enc)

/-- ████ THE STATEMENT ████ -/
theorem proved : Rows.PointConvertsSaid := over
#print axioms proved
end Go.Proofs.Ytpilnebbghiemaa.pointConverts

