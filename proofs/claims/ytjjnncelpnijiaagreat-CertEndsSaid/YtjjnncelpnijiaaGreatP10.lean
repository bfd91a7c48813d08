/-
  CertEnds: for all instruments, words and days the law of P7.7 is true. Conditions: none.
  Each function that the law calls was turned, by a program of ours, into a function on lists and numbers with a proof that the plain machine's run comes to it (Sf, C1 and on); of those functions the law is shown; the closed examples that it asks for at its end are reckoned once.
-/
import Derived.Test.YtjjnncelpnijiaaGreatH08
import Derived.Test.YtjjnncelpnijiaaGreatH09
import Derived.Test.YtjjnncelpnijiaaGreatRows
import Derived.WalkKit
import Derived.ProofKit
import Derived.OpenShut
import Derived.ShutString
import Derived.ChangeOld
import Derived.ChangeSlices
import Derived.Below
set_option linter.all false
/-
  CertEnds: for all instruments, words and days the law of P7.7 is true. Conditions: none.
  Each function that the law calls was turned, by a program of ours, into a function on lists and numbers with a proof that the plain machine's run comes to it (Sf, C1 and on); of those functions the law is shown; the closed examples that it asks for at its end are reckoned once.
-/
namespace Go.Proofs.YtjjnncelpnijiaaGreat.certEnds
open Go.ChangeShapes Go.WideShapes Go.ChangeAt Go.RowKit
open Go.ChangeMaps (open_string shut_string)
set_option linter.unusedVariables false

theorem own : ownKnob Tryz.prog.godebug = none := by kernel_rfl
theorem laidOut : laidOutB Tryz.prog = true := by kernel_rfl
open Go.Hx in
set_option maxRecDepth 100000 in
theorem walk {W : World} {v0 v1 v2 v3 : Value} (h0 : InstA W v0) (h1 : AL (eK .u16) 1 W v1 (fun x => IntKind.u16.min ≤ x ∧ x ≤ IntKind.u16.max)) (h2 : AL (eK .u16) 1 W v2 (fun x => IntKind.u16.min ≤ x ∧ x ≤ IntKind.u16.max)) (h3 : ∃ n : Int, v3 = .int .u16 n ∧ 0 ≤ n ∧ n ≤ 65535) :
    Calls Tryz.prog 10 #[v0, v1, v2, v3] W fun e w' => e = .returned (.bool true) ∧ Below W.heap.size W w' := by
  obtain ⟨xa0, xb0, xc0, xd0, xp0, xq0, xe0, xf0, vl0, vt0, rfl, ⟨ol0, mkl0, ll0, al0, cl0, _⟩, ⟨ot0, mkt0, lt0, at0, ct0, _⟩⟩ := h0
  obtain ⟨pl0, kl0, el0, wl0⟩ := al0.row 0
  obtain ⟨pt0, kt0, et0, wt0⟩ := at0.row 1
  obtain ⟨ow1, mkw1, lw1, aw1, cw1, zw1⟩ := h1
  obtain ⟨pw1, kw1, ew1, ww1⟩ := aw1.row 2
  obtain ⟨ow2, mkw2, lw2, aw2, cw2, zw2⟩ := h2
  obtain ⟨pw2, kw2, ew2, ww2⟩ := aw2.row 3
  obtain ⟨n3, rfl, b3⟩ := h3
  have hd := lay_d ([ol0, ot0, ow1, ow2] : List (Option Slot))
  refine calls_args (ss := ([ol0, ot0, ow1, ow2] : List (Option Slot))) (args := [.agg [i64 xa0, i64 xb0, i64 xc0, i64 xd0, mkl0 0, mkt0 1, i64 xp0, i64 xq0, i64 xe0, i64 xf0], mkw1 2, mkw2 3, .int .u16 n3]) mixed lw_ok (fun s hs => ?_) ?_ ?_
  · rcases List.mem_cons.1 hs with e | hs
    · exact al0.ok s e.symm
    · rcases List.mem_cons.1 hs with e | hs
      · exact at0.ok s e.symm
      · rcases List.mem_cons.1 hs with e | hs
        · exact aw1.ok s e.symm
        · rcases List.mem_cons.1 hs with e | hs
          · exact aw2.ok s e.symm
          · cases hs
  · rw [el0, et0, ew1, ew2]; exact V.ct10 1000 (V.law10 (w16 zw1) (w16 zw2) ⟨b3.1, Int.lt_of_le_of_lt b3.2 (by decide)⟩ (by decide)) hd (V.all_sub _) (row_of rel4 (of_decide_eq_true rfl) rfl (cl0 _ _ _ _ el0) wl0) (row_of rel2 (of_decide_eq_true rfl) rfl (ct0 _ _ _ _ et0) wt0) (row_of (relK .u16) (of_decide_eq_true rfl) rfl (cw1 _ _ _ _ ew1) ww1) (row_of (relK .u16) (of_decide_eq_true rfl) rfl (cw2 _ _ _ _ ew2) ww2)
  · exact LR.cons (VR.aggL (LR.cons (.int _ _) (LR.cons (.int _ _) (LR.cons (.int _ _) (LR.cons (.int _ _) (LR.cons (al0.vr 0 _ rfl) (LR.cons (at0.vr 1 _ rfl) (LR.cons (.int _ _) (LR.cons (.int _ _) (LR.cons (.int _ _) (LR.cons (.int _ _) (LR.nil _)))))))))))) (LR.cons (aw1.vr 2 _ rfl) (LR.cons (aw2.vr 3 _ rfl) (LR.cons (.int _ _) (LR.nil _))))

set_option maxRecDepth 100000 in
theorem lifted (os : Os) (started : os.Started) (H : Type) (enc : TypeId × Value → H) :
    ReturnsInHanded {} Tryz.checked os 10 .any (Rows.certEndsSpec.pre6 enc Tryz.prog Tryz.f10 Rows.certEndsRow.domain false) (Rows.certEndsSpec.post enc Tryz.prog Tryz.f10 false true false false) := by
  refine returnsInHanded_of_change (C := Tryz.checked) own started (by kernel_rfl) Tryz.func10
    (ChangeSpec.witness6 (enc := enc) (C := Tryz.checked) false ⟨#[], #[.agg #[.int .i64 0, .int .i64 0, .int .i64 0, .int .i64 0, .slice none 0 0, .slice none 0 0, .int .i64 0, .int .i64 0, .int .i64 0, .int .i64 0], .slice none 0 0, .slice none 0 0, .int .u16 0], []⟩ 8 (by kernel_rfl) (by kernel_rfl) (by kernel_rfl) (by kernel_rfl)) ?_
  intro W base args ds gs before hval0 hW hcnd _
  have hval : ∀ (j : Nat) t v, Tryz.f10.params[j]? = some t → args[j]? = some v → Value.okWide Tryz.prog W .any base t v := hval0
  have hW' := hW
  obtain ⟨p, q, hA0, hV, rfl, hfz, hnd⟩ := hW
  have hA : DataW.TrodAll enc Tryz.prog W 0 (fun _ => true) true Tryz.f10.params.toList args.toList ds p := hA0
  rw [Tryz.params10] at hA hval
  obtain ⟨v0, vs0, d0, ds0, p0, q0, hargs, rfl, rfl, h0, r0⟩ := trodAll_cons hA
  obtain ⟨v1, vs1, d1, ds1, p1, q1, rfl, rfl, rfl, h1, r1⟩ := trodAll_cons r0
  obtain ⟨v2, vs2, d2, ds2, p2, q2, rfl, rfl, rfl, h2, r2⟩ := trodAll_cons r1
  obtain ⟨v3, vs3, d3, ds3, p3, q3, rfl, rfl, rfl, h3, r3⟩ := trodAll_cons r2
  obtain ⟨rfl, rfl, rfl⟩ := trodAll_nil r3
  obtain rfl : args = #[v0, v1, v2, v3] := by cases args; simp_all
  obtain ⟨rfl, rfl⟩ := trodVars_none hV
  have k0 := h0
  have k1 := h1
  have k2 := h2
  have k3 := h3
  have lt0 : ∀ x ∈ p0, x.block < W.heap.size := by obtain ⟨m, hm⟩ := k0; exact DataW.trod_lt m _ _ _ hm
  have lt1 : ∀ x ∈ p1, x.block < W.heap.size := by obtain ⟨m, hm⟩ := k1; exact DataW.trod_lt m _ _ _ hm
  have lt2 : ∀ x ∈ p2, x.block < W.heap.size := by obtain ⟨m, hm⟩ := k2; exact DataW.trod_lt m _ _ _ hm
  have lt3 : ∀ x ∈ p3, x.block < W.heap.size := by obtain ⟨m, hm⟩ := k3; exact DataW.trod_lt m _ _ _ hm
  have g0 := Hx.arg_inst (hval 0 31 v0 rfl rfl) h0
  have g1 := Hx.arg_words (hval 1 99 v1 rfl rfl) h1
  have g2 := Hx.arg_words (hval 2 99 v2 rfl rfl) h2
  have g3 : ∃ n : Int, v3 = .int .u16 n ∧ 0 ≤ n ∧ n ≤ 65535 := by
    obtain ⟨n, rfl, _, _, hw⟩ := open_int Tryz.underlying100 (hval 3 100 v3 rfl rfl) h3
    exact ⟨n, rfl, Hx.wfk hw⟩
  clear hA0 hval0
  refine (walk g0 g1 g2 g3).mono fun e W' ⟨he, bel⟩ => ?_
  subst he
  exact ⟨_, rfl, _, _, _, [], _, [], hW', trodAll_mk1 (shut_bool Tryz.underlying4 _), (trodAll_cons_mk (Below.trod laidOut (by kernel_rfl) (of_decide_eq_true (by kernel_rfl)) k0 bel lt0) (trodAll_cons_mk (Below.trod laidOut (by kernel_rfl) (of_decide_eq_true (by kernel_rfl)) k1 bel lt1) (trodAll_cons_mk (Below.trod laidOut (by kernel_rfl) (of_decide_eq_true (by kernel_rfl)) k2 bel lt2) (trodAll_cons_mk (Below.trod laidOut (by kernel_rfl) (of_decide_eq_true (by kernel_rfl)) k3 bel lt3) trodAll_mk0)))), rfl, bel.frame _, fun h => by cases h⟩

theorem over : Rows.certEndsRow.holds Tryz.pinned (OpenSpec.ofChange Rows.certEndsSpec) :=
  OpenClaim.holds_of_wide 10 Tryz.f10 rfl rfl rfl rfl rfl rfl rfl ⟨rfl, rfl, rfl, rfl, rfl⟩ rfl rfl rfl rfl rfl (by kernel_rfl) Tryz.func10 (by kernel_rfl)
    (of_decide_eq_true (by kernel_rfl)) (by unfold Func.isWrapper; first | (rw [if_pos (by decide +kernel)]; kernel_rfl) | (rw [if_neg (by decide +kernel)]; exact ⟨rfl, rfl⟩))
    (fun os started H enc _ => lifted os started H enc)

/-- ████ THE STATEMENT ████ -/
theorem proved : Rows.CertEndsSaid := over
#print axioms proved
end Go.Proofs.YtjjnncelpnijiaaGreat.certEnds

