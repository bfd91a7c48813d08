/-
  ScrewLess: for every screw, scale, cutting, bound and bits the law of P4.12 is true. Conditions: none.
  Each function that the law calls was turned, by a program of ours, into a function on lists and numbers with a proof that the plain machine's run comes to it (Sf, C1 to C10); of those functions the law is shown (M4 and on); 'awake' is reckoned once (W17).
-/
import Derived.Test.YtamfcjekhiapdaaH07
import Derived.Test.YtamfcjekhiapdaaH08
import Derived.Test.YtamfcjekhiapdaaRows
import Derived.WalkKit
import Derived.ProofKit
import Derived.OpenShut
import Derived.ShutString
import Derived.ChangeOld
import Derived.ChangeSlices
import Derived.Below
set_option linter.all false
/-
  ScrewLess: for every screw, scale, cutting, bound and bits the law of P4.12 is true. Conditions: none.
  Each function that the law calls was turned, by a program of ours, into a function on lists and numbers with a proof that the plain machine's run comes to it (Sf, C1 to C10); of those functions the law is shown (M4 and on); 'awake' is reckoned once (W17).
-/
namespace Go.Proofs.Ytamfcjekhiapdaa.screwLess
open Go.ChangeShapes Go.WideShapes Go.ChangeAt Go.RowKit
open Go.ChangeMaps (open_string shut_string)
set_option linter.unusedVariables false

theorem own : ownKnob Try.prog.godebug = none := by kernel_rfl
theorem laidOut : laidOutB Try.prog = true := by kernel_rfl
open Go.Hx in
set_option maxRecDepth 100000 in
theorem walk {W : World} {v0 v1 v2 v3 v4 : Value} (h0 : ScrewA W v0) (h1 : AL (eK .i64) 1 W v1 (fun _ => True)) (h2 : AL (eK .i64) 1 W v2 (fun _ => True)) (h3 : ∃ n : Int, v3 = .int .u8 n ∧ 0 ≤ n ∧ n ≤ 255) (h4 : ∃ n : Int, v4 = .int .u16 n ∧ 0 ≤ n ∧ n ≤ 65535) :
    Calls Try.prog 14 #[v0, v1, v2, v3, v4] W fun e w' => e = .returned (.bool true) ∧ Below W.heap.size W w' := by
  obtain ⟨st0, tk0, vp0, vz0, rfl, ⟨op0, mkp0, lp0, ap0, cp0, _⟩, ⟨oz0, mkz0, lz0, az0, cz0, _⟩⟩ := h0
  obtain ⟨pp0, kp0, ep0, wp0⟩ := ap0.row 0
  obtain ⟨pz0, kz0, ez0, wz0⟩ := az0.row 1
  obtain ⟨oi1, mki1, li1, ai1, ci1, _⟩ := h1
  obtain ⟨pi1, ki1, ei1, wi1⟩ := ai1.row 2
  obtain ⟨oi2, mki2, li2, ai2, ci2, _⟩ := h2
  obtain ⟨pi2, ki2, ei2, wi2⟩ := ai2.row 3
  obtain ⟨n3, rfl, b3⟩ := h3
  obtain ⟨n4, rfl, b4⟩ := h4
  have hd := lay_d ([op0, oz0, oi1, oi2] : List (Option Slot))
  refine calls_args (ss := ([op0, oz0, oi1, oi2] : List (Option Slot))) (args := [.agg [i64 st0, mkp0 0, mkz0 1, i64 tk0], mki1 2, mki2 3, .int .u8 n3, .int .u16 n4]) mixed lw_ok (fun s hs => ?_) ?_ ?_
  · rcases List.mem_cons.1 hs with e | hs
    · exact ap0.ok s e.symm
    · rcases List.mem_cons.1 hs with e | hs
      · exact az0.ok s e.symm
      · rcases List.mem_cons.1 hs with e | hs
        · exact ai1.ok s e.symm
        · rcases List.mem_cons.1 hs with e | hs
          · exact ai2.ok s e.symm
          · cases hs
  · rw [ep0, ez0, ei1, ei2]; exact V.ct14 100 (V.law14 b3) hd (V.all_sub _) (row_of rel2 (of_decide_eq_true rfl) rfl (cp0 _ _ _ _ ep0) wp0) (row_of rel3 (of_decide_eq_true rfl) rfl (cz0 _ _ _ _ ez0) wz0) (row_of (relK .i64) (of_decide_eq_true rfl) rfl (ci1 _ _ _ _ ei1) wi1) (row_of (relK .i64) (of_decide_eq_true rfl) rfl (ci2 _ _ _ _ ei2) wi2)
  · exact LR.cons (VR.aggL (LR.cons (.int _ _) (LR.cons (ap0.vr 0 _ rfl) (LR.cons (az0.vr 1 _ rfl) (LR.cons (.int _ _) (LR.nil _)))))) (LR.cons (ai1.vr 2 _ rfl) (LR.cons (ai2.vr 3 _ rfl) (LR.cons (.int _ _) (LR.cons (.int _ _) (LR.nil _)))))

set_option maxRecDepth 100000 in
theorem lifted (os : Os) (started : os.Started) (H : Type) (enc : TypeId × Value → H) :
    ReturnsInHanded {} Try.checked os 14 .any (Rows.screwLessSpec.pre6 enc Try.prog Try.f14 Rows.screwLessRow.domain false) (Rows.screwLessSpec.post enc Try.prog Try.f14 false true false false) := by
  refine returnsInHanded_of_change (C := Try.checked) own started (by kernel_rfl) Try.func14
    (ChangeSpec.witness6 (enc := enc) (C := Try.checked) false ⟨#[], #[.agg #[.int .i64 0, .slice none 0 0, .slice none 0 0, .int .i64 0], .slice none 0 0, .slice none 0 0, .int .u8 0, .int .u16 0], []⟩ 8 (by kernel_rfl) (by kernel_rfl) (by kernel_rfl) (by kernel_rfl)) ?_
  intro W base args ds gs before hval0 hW hcnd _
  have hval : ∀ (j : Nat) t v, Try.f14.params[j]? = some t → args[j]? = some v → Value.okWide Try.prog W .any base t v := hval0
  have hW' := hW
  obtain ⟨p, q, hA0, hV, rfl, hfz, hnd⟩ := hW
  have hA : DataW.TrodAll enc Try.prog W 0 (fun _ => true) true Try.f14.params.toList args.toList ds p := hA0
  rw [Try.params14] at hA hval
  obtain ⟨v0, vs0, d0, ds0, p0, q0, hargs, rfl, rfl, h0, r0⟩ := trodAll_cons hA
  obtain ⟨v1, vs1, d1, ds1, p1, q1, rfl, rfl, rfl, h1, r1⟩ := trodAll_cons r0
  obtain ⟨v2, vs2, d2, ds2, p2, q2, rfl, rfl, rfl, h2, r2⟩ := trodAll_cons r1
  obtain ⟨v3, vs3, d3, ds3, p3, q3, rfl, rfl, rfl, h3, r3⟩ := trodAll_cons r2
  obtain ⟨v4, vs4, d4, ds4, p4, q4, rfl, rfl, rfl, h4, r4⟩ := trodAll_cons r3
  obtain ⟨rfl, rfl, rfl⟩ := trodAll_nil r4
  obtain rfl : args = #[v0, v1, v2, v3, v4] := by cases args; simp_all
  obtain ⟨rfl, rfl⟩ := trodVars_none hV
  have k0 := h0
  have k1 := h1
  have k2 := h2
  have k3 := h3
  have k4 := h4
  have lt0 : ∀ x ∈ p0, x.block < W.heap.size := by obtain ⟨m, hm⟩ := k0; exact DataW.trod_lt m _ _ _ hm
  have lt1 : ∀ x ∈ p1, x.block < W.heap.size := by obtain ⟨m, hm⟩ := k1; exact DataW.trod_lt m _ _ _ hm
  have lt2 : ∀ x ∈ p2, x.block < W.heap.size := by obtain ⟨m, hm⟩ := k2; exact DataW.trod_lt m _ _ _ hm
  have lt3 : ∀ x ∈ p3, x.block < W.heap.size := by obtain ⟨m, hm⟩ := k3; exact DataW.trod_lt m _ _ _ hm
  have lt4 : ∀ x ∈ p4, x.block < W.heap.size := by obtain ⟨m, hm⟩ := k4; exact DataW.trod_lt m _ _ _ hm
  have g0 := Hx.arg_screw (hval 0 25 v0 rfl rfl) h0
  have g1 := Hx.arg_ints (hval 1 26 v1 rfl rfl) h1
  have g2 := Hx.arg_ints (hval 2 26 v2 rfl rfl) h2
  have g3 : ∃ n : Int, v3 = .int .u8 n ∧ 0 ≤ n ∧ n ≤ 255 := by
    obtain ⟨n, rfl, _, _, hw⟩ := open_int Try.underlying5 (hval 3 5 v3 rfl rfl) h3
    exact ⟨n, rfl, Hx.wfk hw⟩
  have g4 : ∃ n : Int, v4 = .int .u16 n ∧ 0 ≤ n ∧ n ≤ 65535 := by
    obtain ⟨n, rfl, _, _, hw⟩ := open_int Try.underlying90 (hval 4 90 v4 rfl rfl) h4
    exact ⟨n, rfl, Hx.wfk hw⟩
  clear hA0 hval0
  refine (walk g0 g1 g2 g3 g4).mono fun e W' ⟨he, bel⟩ => ?_
  subst he
  exact ⟨_, rfl, _, _, _, [], _, [], hW', trodAll_mk1 (shut_bool Try.underlying4 _), (trodAll_cons_mk (Below.trod laidOut (by kernel_rfl) (of_decide_eq_true (by kernel_rfl)) k0 bel lt0) (trodAll_cons_mk (Below.trod laidOut (by kernel_rfl) (of_decide_eq_true (by kernel_rfl)) k1 bel lt1) (trodAll_cons_mk (Below.trod laidOut (by kernel_rfl) (of_decide_eq_true (by kernel_rfl)) k2 bel lt2) (trodAll_cons_mk (Below.trod laidOut (by kernel_rfl) (of_decide_eq_true (by kernel_rfl)) k3 bel lt3) (trodAll_cons_mk (Below.trod laidOut (by kernel_rfl) (of_decide_eq_true (by kernel_rfl)) k4 bel lt4) trodAll_mk0))))), rfl, bel.frame _, fun h => by cases h⟩

theorem over : Rows.screwLessRow.holds Try.pinned (OpenSpec.ofChange Rows.screwLessSpec) :=
  OpenClaim.holds_of_wide 14 Try.f14 rfl rfl rfl rfl rfl rfl rfl ⟨rfl, rfl, rfl, rfl, rfl⟩ rfl rfl rfl rfl rfl (by kernel_rfl) Try.func14 (by kernel_rfl)
    (of_decide_eq_true (by kernel_rfl)) (by unfold Func.isWrapper; first | (rw [if_pos (by decide +kernel)]; kernel_rfl) | (rw [if_neg (by decide +kernel)]; exact ⟨rfl, rfl⟩))
    (fun os started H enc _ => lifted os started H enc)

/-- ████ THE STATEMENT ████ -/
theorem proved : Rows.ScrewLessSaid := over
#print axioms proved
end Go.Proofs.Ytamfcjekhiapdaa.screwLess

