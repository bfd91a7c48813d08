/-
  PointWider: for all valid scales, tables with pressures, readings, and so much more of each, the law of P3.11 is true: with more readings, or more pressures, no range is narrower. Conditions: none.
  The run is walked on the plain machine (texts Hx, Hy), function by function (A1 to A6); 'wakes' is reckoned once (Wb).
-/
import Derived.Test.YtcjjbjagbnfnfaaH09
import Derived.Test.YtcjjbjagbnfnfaaH12
import Derived.Test.YtcjjbjagbnfnfaaRows
import Derived.WalkKit
import Derived.ProofKit
import Derived.OpenShut
import Derived.ShutString
import Derived.ChangeOld
import Derived.ChangeSlices
import Derived.Below
set_option linter.all false
/-
  PointWider: for all valid scales, tables with pressures, readings, and so much more of each, the law of P3.11 is true: with more readings, or more pressures, no range is narrower. Conditions: none.
  The run is walked on the plain machine (texts Hx, Hy), function by function (A1 to A6); 'wakes' is reckoned once (Wb).
-/
namespace Go.Proofs.Ytcjjbjagbnfnfaa.pointWider
open Go.ChangeShapes Go.WideShapes Go.ChangeAt Go.RowKit
open Go.ChangeMaps (open_string shut_string)
set_option linter.unusedVariables false

theorem own : ownKnob Try.prog.godebug = none := by kernel_rfl
theorem laidOut : laidOutB Try.prog = true := by kernel_rfl
theorem leaves23 : Hx.leaves Try.prog 20 23 = some [.i .i64, .i .i64] := by kernel_rfl
theorem cells23 : 2 = Try.prog.cellsOf 23 := by kernel_rfl
theorem leaves25 : Hx.leaves Try.prog 20 25 = some [.i .i64, .i .i64] := by kernel_rfl
theorem cells25 : 2 = Try.prog.cellsOf 25 := by kernel_rfl
theorem leaves57 : Hx.leaves Try.prog 20 57 = some [.i .i64, .i .i64] := by kernel_rfl
theorem cells57 : 2 = Try.prog.cellsOf 57 := by kernel_rfl
open Go.Hx in
set_option maxRecDepth 100000 in
theorem walk {W : World} {v0 v1 v2 v3 v4 v5 : Value} (h0 : ∃ r : Int × Int, ∀ ρ, VR ρ (.agg (renc r)) v0) (h1 : ∃ r : Int × Int, ∀ ρ, VR ρ (.agg (renc r)) v1) (h2 : ∃ (o : Option Slot) (mk : Nat → HV) (l : List (Int × Int)), ArgL renc 2 W v2 o mk l) (h3 : ∃ r : Int × Int, ∀ ρ, VR ρ (.agg (renc r)) v3) (h4 : ∃ r : Int × Int, ∀ ρ, VR ρ (.agg (renc r)) v4) (h5 : ∃ n : Int, v5 = .int .u8 n ∧ 0 ≤ n ∧ n ≤ 255) :
    Calls Try.prog 12 #[v0, v1, v2, v3, v4, v5] W fun e w' => e = .returned (.bool true) ∧ Below W.heap.size W w' := by
  obtain ⟨r0, t0⟩ := h0
  obtain ⟨r1, t1⟩ := h1
  obtain ⟨o2, mk2, l2, a2⟩ := h2
  obtain ⟨p2, c2, e2, w2⟩ := a2.row 0
  obtain ⟨r3, t3⟩ := h3
  obtain ⟨r4, t4⟩ := h4
  obtain ⟨n5, rfl, b5⟩ := h5
  have hd := lay_d [o2]
  refine calls_args (ss := [o2]) (args := [.agg (renc r0), .agg (renc r1), mk2 0, .agg (renc r3), .agg (renc r4), .int .u8 n5]) mixed lw_ok (fun s hs => ?_) ?_ ?_
  · rcases List.mem_cons.1 hs with e | hs
    · exact a2.ok s e.symm
    · cases hs
  · rw [e2]; exact c_law12 hd rfl (w2 _ _ (by show 0 < 1; omega) (lay_get _ 0)) b5
  · exact LR.cons (t0 _) (LR.cons (t1 _) (LR.cons (a2.vr 0 _ rfl) (LR.cons (t3 _) (LR.cons (t4 _) (LR.cons (.int _ _) (LR.nil _))))))

set_option maxRecDepth 100000 in
theorem lifted (os : Os) (started : os.Started) (H : Type) (enc : TypeId × Value → H) :
    ReturnsInHanded {} Try.checked os 12 .any (Rows.pointWiderSpec.pre6 enc Try.prog Try.f12 Rows.pointWiderRow.domain false) (Rows.pointWiderSpec.post enc Try.prog Try.f12 false true false false) := by
  refine returnsInHanded_of_change (C := Try.checked) own started (by kernel_rfl) Try.func12
    (ChangeSpec.witness6 (enc := enc) (C := Try.checked) false ⟨#[], #[.agg #[.int .i64 0, .int .i64 0], .agg #[.int .i64 0, .int .i64 0], .slice none 0 0, .agg #[.int .i64 0, .int .i64 0], .agg #[.int .i64 0, .int .i64 0], .int .u8 0], []⟩ 8 (by kernel_rfl) (by kernel_rfl) (by kernel_rfl) (by kernel_rfl)) ?_
  intro W base args ds gs before hval0 hW hcnd _
  have hval : ∀ (j : Nat) t v, Try.f12.params[j]? = some t → args[j]? = some v → Value.okWide Try.prog W .any base t v := hval0
  have hW' := hW
  obtain ⟨p, q, hA0, hV, rfl, hfz, hnd⟩ := hW
  have hA : DataW.TrodAll enc Try.prog W 0 (fun _ => true) true Try.f12.params.toList args.toList ds p := hA0
  rw [Try.params12] at hA hval
  obtain ⟨v0, vs0, d0, ds0, p0, q0, hargs, rfl, rfl, h0, r0⟩ := trodAll_cons hA
  obtain ⟨v1, vs1, d1, ds1, p1, q1, rfl, rfl, rfl, h1, r1⟩ := trodAll_cons r0
  obtain ⟨v2, vs2, d2, ds2, p2, q2, rfl, rfl, rfl, h2, r2⟩ := trodAll_cons r1
  obtain ⟨v3, vs3, d3, ds3, p3, q3, rfl, rfl, rfl, h3, r3⟩ := trodAll_cons r2
  obtain ⟨v4, vs4, d4, ds4, p4, q4, rfl, rfl, rfl, h4, r4⟩ := trodAll_cons r3
  obtain ⟨v5, vs5, d5, ds5, p5, q5, rfl, rfl, rfl, h5, r5⟩ := trodAll_cons r4
  obtain ⟨rfl, rfl, rfl⟩ := trodAll_nil r5
  obtain rfl : args = #[v0, v1, v2, v3, v4, v5] := by cases args; simp_all
  obtain ⟨rfl, rfl⟩ := trodVars_none hV
  have k0 := h0
  have k1 := h1
  have k2 := h2
  have k3 := h3
  have k4 := h4
  have k5 := h5
  have lt0 : ∀ x ∈ p0, x.block < W.heap.size := by obtain ⟨m, hm⟩ := k0; exact DataW.trod_lt m _ _ _ hm
  have lt1 : ∀ x ∈ p1, x.block < W.heap.size := by obtain ⟨m, hm⟩ := k1; exact DataW.trod_lt m _ _ _ hm
  have lt2 : ∀ x ∈ p2, x.block < W.heap.size := by obtain ⟨m, hm⟩ := k2; exact DataW.trod_lt m _ _ _ hm
  have lt3 : ∀ x ∈ p3, x.block < W.heap.size := by obtain ⟨m, hm⟩ := k3; exact DataW.trod_lt m _ _ _ hm
  have lt4 : ∀ x ∈ p4, x.block < W.heap.size := by obtain ⟨m, hm⟩ := k4; exact DataW.trod_lt m _ _ _ hm
  have lt5 : ∀ x ∈ p5, x.block < W.heap.size := by obtain ⟨m, hm⟩ := k5; exact DataW.trod_lt m _ _ _ hm
  have g0 : ∃ r : Int × Int, ∀ ρ, Hx.VR ρ (.agg (Hx.renc r)) v0 := by
    obtain ⟨C, rfl, hC⟩ := Hx.arg_struct Try.underlying23 leaves23 cells23 (hval 0 23 v0 rfl rfl) h0
    exact Hx.pair_arg hC
  have g1 : ∃ r : Int × Int, ∀ ρ, Hx.VR ρ (.agg (Hx.renc r)) v1 := by
    obtain ⟨C, rfl, hC⟩ := Hx.arg_struct Try.underlying23 leaves23 cells23 (hval 1 23 v1 rfl rfl) h1
    exact Hx.pair_arg hC
  have g2 := Hx.arg_rows (enc := Hx.renc) Try.underlying49 leaves57 cells57 (hval 2 49 v2 rfl rfl) h2 (fun _ => rfl) Hx.dec_pair
  have g3 : ∃ r : Int × Int, ∀ ρ, Hx.VR ρ (.agg (Hx.renc r)) v3 := by
    obtain ⟨C, rfl, hC⟩ := Hx.arg_struct Try.underlying25 leaves25 cells25 (hval 3 25 v3 rfl rfl) h3
    exact Hx.pair_arg hC
  have g4 : ∃ r : Int × Int, ∀ ρ, Hx.VR ρ (.agg (Hx.renc r)) v4 := by
    obtain ⟨C, rfl, hC⟩ := Hx.arg_struct Try.underlying25 leaves25 cells25 (hval 4 25 v4 rfl rfl) h4
    exact Hx.pair_arg hC
  have g5 : ∃ n : Int, v5 = .int .u8 n ∧ 0 ≤ n ∧ n ≤ 255 := by
    obtain ⟨n, rfl, _, _, hw⟩ := open_int Try.underlying5 (hval 5 5 v5 rfl rfl) h5
    exact ⟨n, rfl, Hx.wfk hw⟩
  clear hA0 hval0
  refine (walk g0 g1 g2 g3 g4 g5).mono fun e W' ⟨he, bel⟩ => ?_
  subst he
  exact ⟨_, rfl, _, _, _, [], _, [], hW', trodAll_mk1 (shut_bool Try.underlying4 _), (trodAll_cons_mk (Below.trod laidOut (by kernel_rfl) (of_decide_eq_true (by kernel_rfl)) k0 bel lt0) (trodAll_cons_mk (Below.trod laidOut (by kernel_rfl) (of_decide_eq_true (by kernel_rfl)) k1 bel lt1) (trodAll_cons_mk (Below.trod laidOut (by kernel_rfl) (of_decide_eq_true (by kernel_rfl)) k2 bel lt2) (trodAll_cons_mk (Below.trod laidOut (by kernel_rfl) (of_decide_eq_true (by kernel_rfl)) k3 bel lt3) (trodAll_cons_mk (Below.trod laidOut (by kernel_rfl) (of_decide_eq_true (by kernel_rfl)) k4 bel lt4) (trodAll_cons_mk (Below.trod laidOut (by kernel_rfl) (of_decide_eq_true (by kernel_rfl)) k5 bel lt5) trodAll_mk0)))))), rfl, bel.frame _, fun h => by cases h⟩

theorem over : Rows.pointWiderRow.holds Try.pinned (OpenSpec.ofChange Rows.pointWiderSpec) :=
  OpenClaim.holds_of_wide 12 Try.f12 rfl rfl rfl rfl rfl rfl rfl ⟨rfl, rfl, rfl, rfl, rfl⟩ rfl rfl rfl rfl rfl (by kernel_rfl) Try.func12 (by kernel_rfl)
    (of_decide_eq_true (by kernel_rfl)) (by unfold Func.isWrapper; first | (rw [if_pos (by decide +kernel)]; kernel_rfl) | (rw [if_neg (by decide +kernel)]; exact ⟨rfl, rfl⟩))
    (fun os started H enc _ => lifted os started H enc)

/-- ████ THE STATEMENT ████ -/
theorem proved : Rows.PointWiderSaid := over
#print axioms proved
end Go.Proofs.Ytcjjbjagbnfnfaa.pointWider

