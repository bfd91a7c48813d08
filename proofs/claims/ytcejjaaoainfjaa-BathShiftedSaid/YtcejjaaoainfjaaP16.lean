/-
  BathShifted: for all series and numbers the law of P5.13 is true: if all values of an instrument and its offsets are more by some number, so are its ranges, and all heats stay; turned baths change no offsets. Conditions: none.
  Each function that the law calls was turned, by a program of ours, into a function on lists and numbers with a proof that the plain machine's run comes to it (Sf, C1 and on); of those functions the law is shown; the closed examples that it asks for at its end are reckoned once.
-/
import Derived.Test.YtcejjaaoainfjaaH07
import Derived.Test.YtcejjaaoainfjaaH08
import Derived.Test.YtcejjaaoainfjaaRows
import Derived.WalkKit
import Derived.ProofKit
import Derived.OpenShut
import Derived.ShutString
import Derived.ChangeOld
import Derived.ChangeSlices
import Derived.Below
set_option linter.all false
/-
  BathShifted: for all series and numbers the law of P5.13 is true: if all values of an instrument and its offsets are more by some number, so are its ranges, and all heats stay; turned baths change no offsets. Conditions: none.
  Each function that the law calls was turned, by a program of ours, into a function on lists and numbers with a proof that the plain machine's run comes to it (Sf, C1 and on); of those functions the law is shown; the closed examples that it asks for at its end are reckoned once.
-/
namespace Go.Proofs.Ytcejjaaoainfjaa.bathShifted
open Go.ChangeShapes Go.WideShapes Go.ChangeAt Go.RowKit
open Go.ChangeMaps (open_string shut_string)
set_option linter.unusedVariables false

theorem own : ownKnob Try.prog.godebug = none := by kernel_rfl
theorem laidOut : laidOutB Try.prog = true := by kernel_rfl
open Go.Hx in
set_option maxRecDepth 100000 in
theorem walk {W : World} {v0 v1 v2 v3 : Value} (h0 : SerA W v0)
    (h1 : ∃ n : Int, v1 = .int .u8 n ∧ 0 ≤ n ∧ n ≤ 255)
    (h2 : ∃ n : Int, v2 = .int .i8 n ∧ -128 ≤ n ∧ n ≤ 127)
    (h3 : ∃ n : Int, v3 = .int .u8 n ∧ 0 ≤ n ∧ n ≤ 255) :
    Calls Try.prog 16 #[v0, v1, v2, v3] W fun e w' => e = .returned (.bool true) ∧ Below W.heap.size W w' := by
  obtain ⟨se0, vo0, vb0, rfl, ⟨oo0, mo0, lo0, ao0⟩, mk0, part0, lb0, ab0⟩ := h0
  obtain ⟨po0, co0, eo0, wo0⟩ := ao0.row 0
  obtain ⟨n1, rfl, b1⟩ := h1
  obtain ⟨n2, rfl, b2⟩ := h2
  obtain ⟨n3, rfl, b3⟩ := h3
  obtain ⟨pb0, cb0, eb0, wb0⟩ := ab0.row 1
  have hh : Has ([oo0] ++ (part0 1 ++ []) : List (Option Slot)) 1 (part0 1) := Has.mid [oo0] (part0 1) []
  have hd := lay_d ([oo0] ++ (part0 1 ++ []) : List (Option Slot))
  refine calls_argsN (ss := ([oo0] ++ (part0 1 ++ []) : List (Option Slot))) (args := [.agg [mo0 0, i64 se0, mk0 1], .int .u8 n1, .int .i8 n2, .int .u8 n3]) mixed lw_ok (fun s hs => ?_) ?_ ?_
  · rcases List.mem_append.1 hs with hs | hs
    · rcases List.mem_cons.1 hs with e | hs
      · exact (ao0.ok s e.symm).n _
      · cases hs
    · rw [List.append_nil] at hs
      exact ab0.ok _ 1 hh s hs
  · rw [eo0, eb0]
    exact V.ct16 200000 (V.law16 ⟨b1.1, Int.lt_of_le_of_lt b1.2 (by decide)⟩ ⟨b2.1, Int.lt_of_le_of_lt b2.2 (by decide)⟩ ⟨b3.1, Int.lt_of_le_of_lt b3.2 (by decide)⟩ (by decide)) hd (V.all_sub _) (wo0 _ (by rw [lay_get]; rfl)) (wb0 _ hh)
  · exact LR.cons (VR.aggL (LR.cons (ao0.vr 0 _ rfl) (LR.cons (.int _ _) (LR.cons (ab0.vr _ 1 hh) (LR.nil _))))) (LR.cons (.int _ _) (LR.cons (.int _ _) (LR.cons (.int _ _) (LR.nil _))))

set_option maxRecDepth 100000 in
theorem lifted (os : Os) (started : os.Started) (H : Type) (enc : TypeId × Value → H) :
    ReturnsInHanded {} Try.checked os 16 .any (Rows.bathShiftedSpec.pre6 enc Try.prog Try.f16 Rows.bathShiftedRow.domain false) (Rows.bathShiftedSpec.post enc Try.prog Try.f16 false true false false) := by
  refine returnsInHanded_of_change (C := Try.checked) own started (by kernel_rfl) Try.func16
    (ChangeSpec.witness6 (enc := enc) (C := Try.checked) false ⟨#[], #[.agg #[.slice none 0 0, .int .i64 0, .slice none 0 0], .int .u8 0, .int .i8 0, .int .u8 0], []⟩ 8 (by kernel_rfl) (by kernel_rfl) (by kernel_rfl) (by kernel_rfl)) ?_
  intro W base args ds gs before hval0 hW hcnd _
  have hval : ∀ (j : Nat) t v, Try.f16.params[j]? = some t → args[j]? = some v → Value.okWide Try.prog W .any base t v := hval0
  have hW' := hW
  obtain ⟨p, q, hA0, hV, rfl, hfz, hnd⟩ := hW
  have hA : DataW.TrodAll enc Try.prog W 0 (fun _ => true) true Try.f16.params.toList args.toList ds p := hA0
  rw [Try.params16] at hA hval
  obtain ⟨v0, vs0, d0, ds0, p0, q0, hargs, rfl, rfl, h0, r0⟩ := trodAll_cons hA
  obtain ⟨v1, vs1, d1, ds1, p1, q1, rfl, rfl, rfl, h1, r1⟩ := trodAll_cons r0
  obtain ⟨v2, vs2, d2, ds2, p2, q2, rfl, rfl, rfl, h2, r2⟩ := trodAll_cons r1
  obtain ⟨v3, vs3, d3, ds3, p3, q3, rfl, rfl, rfl, h3, r3⟩ := trodAll_cons r2
  obtain ⟨rfl, rfl, rfl⟩ := trodAll_nil r3
  obtain rfl : args = #[v0, v1, v2, v3] := by cases args; simp_all
  obtain ⟨rfl, rfl⟩ := trodVars_none hV
  have k0 := h0
  have k1 := h1
  have k2 := h2
  have k3 := h3
  have lt0 : ∀ x ∈ p0, x.block < W.heap.size := by obtain ⟨m, hm⟩ := k0; exact DataW.trod_lt m _ _ _ hm
  have lt1 : ∀ x ∈ p1, x.block < W.heap.size := by obtain ⟨m, hm⟩ := k1; exact DataW.trod_lt m _ _ _ hm
  have lt2 : ∀ x ∈ p2, x.block < W.heap.size := by obtain ⟨m, hm⟩ := k2; exact DataW.trod_lt m _ _ _ hm
  have lt3 : ∀ x ∈ p3, x.block < W.heap.size := by obtain ⟨m, hm⟩ := k3; exact DataW.trod_lt m _ _ _ hm
  have g0 := Hx.arg_series (hval 0 25 v0 rfl rfl) h0
  have g1 : ∃ n : Int, v1 = .int .u8 n ∧ 0 ≤ n ∧ n ≤ 255 := by
    obtain ⟨n, rfl, _, _, hw⟩ := open_int Try.underlying5 (hval 1 5 v1 rfl rfl) h1
    exact ⟨n, rfl, Hx.wfk hw⟩
  have g2 : ∃ n : Int, v2 = .int .i8 n ∧ -128 ≤ n ∧ n ≤ 127 := by
    obtain ⟨n, rfl, _, _, hw⟩ := open_int Try.underlying113 (hval 2 113 v2 rfl rfl) h2
    exact ⟨n, rfl, Hx.wfk hw⟩
  have g3 : ∃ n : Int, v3 = .int .u8 n ∧ 0 ≤ n ∧ n ≤ 255 := by
    obtain ⟨n, rfl, _, _, hw⟩ := open_int Try.underlying5 (hval 3 5 v3 rfl rfl) h3
    exact ⟨n, rfl, Hx.wfk hw⟩
  clear hA0 hval0
  refine (walk g0 g1 g2 g3).mono fun e W' ⟨he, bel⟩ => ?_
  subst he
  exact ⟨_, rfl, _, _, _, [], _, [], hW', trodAll_mk1 (shut_bool Try.underlying4 _), (trodAll_cons_mk (Below.trod laidOut (by kernel_rfl) (of_decide_eq_true (by kernel_rfl)) k0 bel lt0) (trodAll_cons_mk (Below.trod laidOut (by kernel_rfl) (of_decide_eq_true (by kernel_rfl)) k1 bel lt1) (trodAll_cons_mk (Below.trod laidOut (by kernel_rfl) (of_decide_eq_true (by kernel_rfl)) k2 bel lt2) (trodAll_cons_mk (Below.trod laidOut (by kernel_rfl) (of_decide_eq_true (by kernel_rfl)) k3 bel lt3) trodAll_mk0)))), rfl, bel.frame _, fun h => by cases h⟩

theorem over : Rows.bathShiftedRow.holds Try.pinned (OpenSpec.ofChange Rows.bathShiftedSpec) :=
  OpenClaim.holds_of_wide 16 Try.f16 rfl rfl rfl rfl rfl rfl rfl ⟨rfl, rfl, rfl, rfl, rfl⟩ rfl rfl rfl rfl rfl (by kernel_rfl) Try.func16 (by kernel_rfl)
    (of_decide_eq_true (by kernel_rfl)) (by unfold Func.isWrapper; first | (rw [if_pos (by decide +kernel)]; kernel_rfl) | (rw [if_neg (by decide +kernel)]; exact ⟨rfl, rfl⟩))
    (fun os started H enc _ => lifted os started H enc)

/-- ████ THE STATEMENT ████ -/
theorem proved : Rows.BathShiftedSaid := over
#print axioms proved
end Go.Proofs.Ytcejjaaoainfjaa.bathShifted

