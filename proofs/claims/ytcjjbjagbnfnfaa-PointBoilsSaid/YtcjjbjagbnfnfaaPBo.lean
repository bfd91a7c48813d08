/-
  PointBoils: for every scale, table, pressures and readings the law of P3.4 is true: Boils and Corrected of package point answer as the reference does. Conditions: none.
  The run is walked on the plain machine (texts Hx, Hy), function by function (A1 to A6); 'wakes' is reckoned once (Wb).
-/
import Derived.Test.YtcjjbjagbnfnfaaH08
import Derived.Test.YtcjjbjagbnfnfaaH11
import Derived.Test.YtcjjbjagbnfnfaaRows
import Derived.WalkKit
import Derived.ProofKit
import Derived.OpenShut
import Derived.ShutString
import Derived.ChangeOld
import Derived.ChangeSlices
import Derived.Below
set_option linter.all false
/-
  PointBoils: for every scale, table, pressures and readings the law of P3.4 is true: Boils and Corrected of package point answer as the reference does. Conditions: none.
  The run is walked on the plain machine (texts Hx, Hy), function by function (A1 to A6); 'wakes' is reckoned once (Wb).
-/
namespace Go.Proofs.Ytcjjbjagbnfnfaa.pointBoils
open Go.ChangeShapes Go.WideShapes Go.ChangeAt Go.RowKit
open Go.ChangeMaps (open_string shut_string)
set_option linter.unusedVariables false

theorem own : ownKnob Try.prog.godebug = none := by kernel_rfl
theorem laidOut : laidOutB Try.prog = true := by kernel_rfl
theorem leaves23 : Hx.leaves Try.prog 20 23 = some [.i .i64, .i .i64] := by kernel_rfl
theorem cells23 : 2 = Try.prog.cellsOf 23 := by kernel_rfl
theorem leaves25 : Hx.leaves Try.prog 20 25 = some [.i .i64, .i .i64] := by kernel_rfl
theorem cells25 : 2 = Try.prog.cellsOf 25 := by kernel_rfl
theorem leaves57 : Hx.leaves Try.prog 20 57 = some [.i .i64, .i .i64] := by kernel_rfl
theorem cells57 : 2 = Try.prog.cellsOf 57 := by kernel_rfl
open Go.Hx in
set_option maxRecDepth 100000 in
theorem walk {W : World} {v0 v1 v2 v3 : Value} (h0 : ∃ r : Int × Int, ∀ ρ, VR ρ (.agg (renc r)) v0) (h1 : ∃ (o : Option Slot) (mk : Nat → HV) (l : List (Int × Int)), ArgL renc 2 W v1 o mk l) (h2 : ∃ r : Int × Int, ∀ ρ, VR ρ (.agg (renc r)) v2) (h3 : ∃ r : Int × Int, ∀ ρ, VR ρ (.agg (renc r)) v3) :
    Calls Try.prog 5 #[v0, v1, v2, v3] W fun e w' => e = .returned (.bool true) ∧ Below W.heap.size W w' := by
  obtain ⟨r0, t0⟩ := h0
  obtain ⟨o1, mk1, l1, a1⟩ := h1
  obtain ⟨p1, c1, e1, w1⟩ := a1.row 0
  obtain ⟨r2, t2⟩ := h2
  obtain ⟨r3, t3⟩ := h3
  have hd := lay_d [o1]
  refine calls_args (ss := [o1]) (args := [.agg (renc r0), mk1 0, .agg (renc r2), .agg (renc r3)]) mixed lw_ok (fun s hs => ?_) ?_ ?_
  · rcases List.mem_cons.1 hs with e | hs
    · exact a1.ok s e.symm
    · cases hs
  · rw [e1]; exact c_law5 hd rfl (w1 _ _ (by show 0 < 1; omega) (lay_get _ 0))
  · exact LR.cons (t0 _) (LR.cons (a1.vr 0 _ rfl) (LR.cons (t2 _) (LR.cons (t3 _) (LR.nil _))))

set_option maxRecDepth 100000 in
theorem lifted (os : Os) (started : os.Started) (H : Type) (enc : TypeId × Value → H) :
    ReturnsInHanded {} Try.checked os 5 .any (Rows.pointBoilsSpec.pre6 enc Try.prog Try.f5 Rows.pointBoilsRow.domain false) (Rows.pointBoilsSpec.post enc Try.prog Try.f5 false true false false) := by
  refine returnsInHanded_of_change (C := Try.checked) own started (by kernel_rfl) Try.func5
    (ChangeSpec.witness6 (enc := enc) (C := Try.checked) false ⟨#[], #[.agg #[.int .i64 0, .int .i64 0], .slice none 0 0, .agg #[.int .i64 0, .int .i64 0], .agg #[.int .i64 0, .int .i64 0]], []⟩ 8 (by kernel_rfl) (by kernel_rfl) (by kernel_rfl) (by kernel_rfl)) ?_
  intro W base args ds gs before hval0 hW hcnd _
  have hval : ∀ (j : Nat) t v, Try.f5.params[j]? = some t → args[j]? = some v → Value.okWide Try.prog W .any base t v := hval0
  have hW' := hW
  obtain ⟨p, q, hA0, hV, rfl, hfz, hnd⟩ := hW
  have hA : DataW.TrodAll enc Try.prog W 0 (fun _ => true) true Try.f5.params.toList args.toList ds p := hA0
  rw [Try.params5] at hA hval
  obtain ⟨v0, vs0, d0, ds0, p0, q0, hargs, rfl, rfl, h0, r0⟩ := trodAll_cons hA
  obtain ⟨v1, vs1, d1, ds1, p1, q1, rfl, rfl, rfl, h1, r1⟩ := trodAll_cons r0
  obtain ⟨v2, vs2, d2, ds2, p2, q2, rfl, rfl, rfl, h2, r2⟩ := trodAll_cons r1
  obtain ⟨v3, vs3, d3, ds3, p3, q3, rfl, rfl, rfl, h3, r3⟩ := trodAll_cons r2
  obtain ⟨rfl, rfl, rfl⟩ := trodAll_nil r3
  obtain rfl : args = #[v0, v1, v2, v3] := by cases args; simp_all
  obtain ⟨rfl, rfl⟩ := trodVars_none hV
  have k0 := h0
  have k1 := h1
  have k2 := h2
  have k3 := h3
  have lt0 : ∀ x ∈ p0, x.block < W.heap.size := by obtain ⟨m, hm⟩ := k0; exact DataW.trod_lt m _ _ _ hm
  have lt1 : ∀ x ∈ p1, x.block < W.heap.size := by obtain ⟨m, hm⟩ := k1; exact DataW.trod_lt m _ _ _ hm
  have lt2 : ∀ x ∈ p2, x.block < W.heap.size := by obtain ⟨m, hm⟩ := k2; exact DataW.trod_lt m _ _ _ hm
  have lt3 : ∀ x ∈ p3, x.block < W.heap.size := by obtain ⟨m, hm⟩ := k3; exact DataW.trod_lt m _ _ _ hm
  have g0 : ∃ r : Int × Int, ∀ ρ, Hx.VR ρ (.agg (Hx.renc r)) v0 := by
    obtain ⟨C, rfl, hC⟩ := Hx.arg_struct Try.underlying23 leaves23 cells23 (hval 0 23 v0 rfl rfl) h0
    exact Hx.pair_arg hC
  have g1 := Hx.arg_rows (enc := Hx.renc) Try.underlying49 leaves57 cells57 (hval 1 49 v1 rfl rfl) h1 (fun _ => rfl) Hx.dec_pair
  have g2 : ∃ r : Int × Int, ∀ ρ, Hx.VR ρ (.agg (Hx.renc r)) v2 := by
    obtain ⟨C, rfl, hC⟩ := Hx.arg_struct Try.underlying25 leaves25 cells25 (hval 2 25 v2 rfl rfl) h2
    exact Hx.pair_arg hC
  have g3 : ∃ r : Int × Int, ∀ ρ, Hx.VR ρ (.agg (Hx.renc r)) v3 := by
    obtain ⟨C, rfl, hC⟩ := Hx.arg_struct Try.underlying25 leaves25 cells25 (hval 3 25 v3 rfl rfl) h3
    exact Hx.pair_arg hC
  clear hA0 hval0
  refine (walk g0 g1 g2 g3).mono fun e W' ⟨he, bel⟩ => ?_
  subst he
  exact ⟨_, rfl, _, _, _, [], _, [], hW', trodAll_mk1 (shut_bool Try.underlying4 _), (trodAll_cons_mk (Below.trod laidOut (by kernel_rfl) (of_decide_eq_true (by kernel_rfl)) k0 bel lt0) (trodAll_cons_mk (Below.trod laidOut (by kernel_rfl) (of_decide_eq_true (by kernel_rfl)) k1 bel lt1) (trodAll_cons_mk (Below.trod laidOut (by kernel_rfl) (of_decide_eq_true (by kernel_rfl)) k2 bel lt2) (trodAll_cons_mk (Below.trod laidOut (by kernel_rfl) (of_decide_eq_true (by kernel_rfl)) k3 bel lt3) trodAll_mk0)))), rfl, bel.frame _, fun h => by cases h⟩

theorem over : Rows.pointBoilsRow.holds Try.pinned (OpenSpec.ofChange Rows.pointBoilsSpec) :=
  OpenClaim.holds_of_wide 5 Try.f5 rfl rfl rfl rfl rfl rfl rfl ⟨rfl, rfl, rfl, rfl, rfl⟩ rfl rfl rfl rfl rfl (by kernel_rfl) Try.func5 (by kernel_rfl)
    (of_decide_eq_true (by kernel_rfl)) (by unfold Func.isWrapper; first | (rw [if_pos (by decide +kernel)]; kernel_rfl) | (rw [if_neg (by decide +kernel)]; exact ⟨rfl, rfl⟩))
    (fun os started H enc _ => lifted os started H enc)

/-- ████ THE STATEMENT ████ -/
theorem proved : Rows.PointBoilsSaid := over
#print axioms proved
end Go.Proofs.Ytcjjbjagbnfnfaa.pointBoils

