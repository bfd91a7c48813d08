/-
  BoreProves: for every tube, readings and volumes the law of P1.1 is true: CheckTube and ProveTruth of package bore answer as the reference does. Conditions: none.
  The run is walked on the plain machine (texts Hx, Hy), function by function (U1 to U8); 'wakes' is reckoned once (BW).
-/
import Derived.Test.YtojkmobfhkjfnaaH09
import Derived.Test.YtojkmobfhkjfnaaRows
import Derived.WalkKit
import Derived.ProofKit
import Derived.OpenShut
import Derived.ShutString
import Derived.ChangeOld
import Derived.Below
set_option linter.all false
/-
  BoreProves: for every tube, readings and volumes the law of P1.1 is true: CheckTube and ProveTruth of package bore answer as the reference does. Conditions: none.
  The run is walked on the plain machine (texts Hx, Hy), function by function (U1 to U8); 'wakes' is reckoned once (BW).
-/
namespace Go.Proofs.Ytojkmobfhkjfnaa.boreProves
open Go.ChangeShapes Go.WideShapes Go.ChangeAt Go.RowKit
open Go.ChangeMaps (open_string shut_string)
set_option linter.unusedVariables false

theorem own : ownKnob Try.prog.godebug = none := by kernel_rfl
theorem laidOut : laidOutB Try.prog = true := by kernel_rfl
theorem leaves25 : Hx.leaves Try.prog 20 25 = some [.i .i64, .i .i64, .i .i64, .i .i64] := by kernel_rfl
theorem leaves82 : Hx.leaves Try.prog 20 82 = some [.i .i64, .i .i64, .i .i64, .i .i64] := by kernel_rfl
theorem leaves3 : Hx.leaves Try.prog 20 3 = some [.i .i64] := by kernel_rfl
theorem cells25 : 4 = Try.prog.cellsOf 25 := by kernel_rfl
theorem cells82 : 4 = Try.prog.cellsOf 82 := by kernel_rfl
theorem cells3 : 1 = Try.prog.cellsOf 3 := by kernel_rfl

open Go.Hx in
set_option maxRecDepth 100000 in
theorem walk {W : World} {v0 v1 v2 : Value} (h0 : ∃ t : Tb, ∀ ρ, VR ρ (.agg t.cells) v0) (h1 : ∃ (o : Option Slot) (mk : Nat → HV) (l : List Rd), ArgL Rd.enc 4 W v1 o mk l) (h2 : ∃ (o : Option Slot) (mk : Nat → HV) (l : List Int), ArgL ienc 1 W v2 o mk l) :
    Calls Try.prog 3 #[v0, v1, v2] W fun e w' => e = .returned (.bool true) ∧ Below W.heap.size W w' := by
  obtain ⟨t, ht⟩ := h0
  obtain ⟨o1, mk1, l, a1⟩ := h1
  obtain ⟨o2, mk2, v, a2⟩ := h2
  obtain ⟨p1, c1, e1, r1⟩ := a1.row 0
  obtain ⟨p2, c2, e2, r2⟩ := a2.row 1
  have hd := lay_d [o1, o2]
  refine calls_args (ss := [o1, o2]) (args := [.agg t.cells, mk1 0, mk2 1]) mixed lw_ok (fun s hs => ?_) ?_ ?_
  · rcases List.mem_cons.1 hs with e | hs
    · exact a1.ok s e.symm
    · rcases List.mem_cons.1 hs with e | hs
      · exact a2.ok s e.symm
      · cases hs
  · rw [e1, e2]
    exact c_law3 hd rfl rfl (r2 _ _ (by show 1 < 2; omega) (lay_get _ 1)) (r1 _ _ (by show 0 < 2; omega) (lay_get _ 0))
  · exact LR.cons (ht _) (LR.cons (a1.vr 0 _ rfl) (LR.cons (a2.vr 1 _ rfl) (LR.nil _)))

set_option maxRecDepth 100000 in
theorem lifted (os : Os) (started : os.Started) (H : Type) (enc : TypeId × Value → H) :
    ReturnsInHanded {} Try.checked os 3 .any (Rows.boreProvesSpec.pre6 enc Try.prog Try.f3 Rows.boreProvesRow.domain false) (Rows.boreProvesSpec.post enc Try.prog Try.f3 false true false false) := by
  refine returnsInHanded_of_change (C := Try.checked) own started (by kernel_rfl) Try.func3
    (ChangeSpec.witness6 (enc := enc) (C := Try.checked) false ⟨#[], #[.agg #[.int .i64 0, .int .i64 0, .int .i64 0, .int .i64 0], .slice none 0 0, .slice none 0 0], []⟩ 8 (by kernel_rfl) (by kernel_rfl) (by kernel_rfl) (by kernel_rfl)) ?_
  intro W base args ds gs before hval0 hW hcnd _
  have hval : ∀ (j : Nat) t v, Try.f3.params[j]? = some t → args[j]? = some v → Value.okWide Try.prog W .any base t v := hval0
  have hW' := hW
  obtain ⟨p, q, hA0, hV, rfl, hfz, hnd⟩ := hW
  have hA : DataW.TrodAll enc Try.prog W 0 (fun _ => true) true Try.f3.params.toList args.toList ds p := hA0
  rw [Try.params3] at hA hval
  obtain ⟨v0, vs0, d0, ds0, p0, q0, hargs, rfl, rfl, h0, r0⟩ := trodAll_cons hA
  obtain ⟨v1, vs1, d1, ds1, p1, q1, rfl, rfl, rfl, h1, r1⟩ := trodAll_cons r0
  obtain ⟨v2, vs2, d2, ds2, p2, q2, rfl, rfl, rfl, h2, r2⟩ := trodAll_cons r1
  obtain ⟨rfl, rfl, rfl⟩ := trodAll_nil r2
  obtain rfl : args = #[v0, v1, v2] := by cases args; simp_all
  obtain ⟨rfl, rfl⟩ := trodVars_none hV
  have k0 := h0
  have k1 := h1
  have k2 := h2
  have lt0 : ∀ x ∈ p0, x.block < W.heap.size := by obtain ⟨m, hm⟩ := k0; exact DataW.trod_lt m _ _ _ hm
  have lt1 : ∀ x ∈ p1, x.block < W.heap.size := by obtain ⟨m, hm⟩ := k1; exact DataW.trod_lt m _ _ _ hm
  have lt2 : ∀ x ∈ p2, x.block < W.heap.size := by obtain ⟨m, hm⟩ := k2; exact DataW.trod_lt m _ _ _ hm
  have g0 : ∃ t : Hx.Tb, ∀ ρ, Hx.VR ρ (.agg t.cells) v0 := by
    obtain ⟨C, rfl, hC⟩ := Hx.arg_struct Try.underlying25 leaves25 cells25 (hval 0 25 v0 rfl rfl) h0
    exact Hx.tube_arg hC
  have g1 := Hx.arg_rows (enc := Hx.Rd.enc) Try.underlying26 leaves82 cells82 (hval 1 26 v1 rfl rfl) h1 (fun _ => rfl) Hx.dec_rd
  have g2 := Hx.arg_rows (enc := Hx.ienc) Try.underlying27 leaves3 cells3 (hval 2 27 v2 rfl rfl) h2 (fun _ => rfl) Hx.dec_int
  clear hA0 hval0
  refine (walk g0 g1 g2).mono fun e W' ⟨he, bel⟩ => ?_
  subst he
  exact ⟨_, rfl, _, _, _, [], _, [], hW', trodAll_mk1 (shut_bool Try.underlying4 _), (trodAll_cons_mk (Below.trod laidOut (by kernel_rfl) (of_decide_eq_true (by kernel_rfl)) k0 bel lt0) (trodAll_cons_mk (Below.trod laidOut (by kernel_rfl) (of_decide_eq_true (by kernel_rfl)) k1 bel lt1) (trodAll_cons_mk (Below.trod laidOut (by kernel_rfl) (of_decide_eq_true (by kernel_rfl)) k2 bel lt2) trodAll_mk0))), rfl, bel.frame _, fun h => by cases h⟩

theorem over : Rows.boreProvesRow.holds Try.pinned (OpenSpec.ofChange Rows.boreProvesSpec) :=
  OpenClaim.holds_of_wide 3 Try.f3 rfl rfl rfl rfl rfl rfl rfl ⟨rfl, rfl, rfl, rfl, rfl⟩ rfl rfl rfl rfl rfl (by kernel_rfl) Try.func3 (by kernel_rfl)
    (of_decide_eq_true (by kernel_rfl)) (by unfold Func.isWrapper; first | (rw [if_pos (by decide +kernel)]; kernel_rfl) | (rw [if_neg (by decide +kernel)]; exact ⟨rfl, rfl⟩))
    (fun os started H enc _ => lifted os started H enc)

/-- ████ THE STATEMENT ████ -/
theorem proved : Rows.BoreProvesSaid := over
#print axioms proved
end Go.Proofs.Ytojkmobfhkjfnaa.boreProves

