/-
  PointDiaries: where what it reads is of bulk at most 1048576, for all scales, diaries, entries and numbers, the law of P3.14 is true.
  Each function that the law calls was turned, by a program of ours, into a function on lists and numbers with a proof that the plain machine's run comes to it (Sf, C1 and on); of those functions the law is shown (K1 to K3); the closed examples that it asks for at its end are reckoned once. The law copies the diary and appends one entry before it counts them: hence the bound.
-/
import Derived.Test.YtncdppdghlkloaaH06
import Derived.Test.YtncdppdghlkloaaH07
import Derived.Test.YtncdppdghlkloaaH03
import Derived.Test.YtncdppdghlkloaaRows
import Derived.WalkKit
import Derived.ProofKit
import Derived.OpenShut
import Derived.ShutString
import Derived.ChangeOld
import Derived.ChangeSlices
import Derived.Below
import Derived.JoinedCond
set_option linter.all false
/-
  PointDiaries: where what it reads is of bulk at most 1048576, for all scales, diaries, entries and numbers, the law of P3.14 is true.
  Each function that the law calls was turned, by a program of ours, into a function on lists and numbers with a proof that the plain machine's run comes to it (Sf, C1 and on); of those functions the law is shown (K1 to K3); the closed examples that it asks for at its end are reckoned once. The law copies the diary and appends one entry before it counts them: hence the bound.
-/
namespace Go.Proofs.Ytncdppdghlkloaa.pointDiaries
open Go.ChangeShapes Go.WideShapes Go.ChangeAt Go.RowKit
open Go.ChangeMaps (open_string shut_string)
set_option linter.unusedVariables false

theorem own : ownKnob Try.prog.godebug = none := by kernel_rfl
theorem laidOut : laidOutB Try.prog = true := by kernel_rfl
/-- An entry as an argument. -/
theorem entry_arg {C : List Value} (h : Hx.F2 [Hx.Leaf.i .i64, .i .i64, .i .i64] C) : ∃ a b c : Int, ∀ ρ, Hx.VR ρ (.agg [Hx.i64 a, Hx.i64 b, Hx.i64 c]) (.agg C.toArray) := by
  obtain ⟨_, _, rfl, h0, h⟩ := Hx.f2_cons h
  obtain ⟨_, _, rfl, h1, h⟩ := Hx.f2_cons h
  obtain ⟨_, _, rfl, h2, h⟩ := Hx.f2_cons h
  have := Hx.f2_nil h; subst this
  obtain ⟨a, rfl⟩ := Hx.leaf_int h0
  obtain ⟨b, rfl⟩ := Hx.leaf_int h1
  obtain ⟨c, rfl⟩ := Hx.leaf_int h2
  exact ⟨a, b, c, fun ρ => Hx.VR.aggL (Hx.LR.cons (.int _ _) (Hx.LR.cons (.int _ _) (Hx.LR.cons (.int _ _) (Hx.LR.nil _))))⟩
theorem bulk_pos {H : Type} (d : DataW H) : 1 ≤ Rows.uptoBulk d := by
  cases d with
  | lit l => cases l <;> simp [Rows.uptoBulk]
  | _ => simp [Rows.uptoBulk]
theorem bulk_all {H : Type} : ∀ ds : List (DataW H), ds.length ≤ Rows.uptoBulkAll ds
  | [] => by simp [Rows.uptoBulkAll]
  | d :: ds => by
    have := bulk_pos d
    have := bulk_all ds
    simp only [Rows.uptoBulkAll, List.length_cons]
    omega
/-- A list's length is within its bulk. -/
theorem bulk_slice {H : Type} {enc : TypeId × Value → H} {P : Program} {w : World} {base : Nat} {held : Bool} {spare : Nat → Bool} {t e : TypeId} {v : Value} {d : DataW H} {p : List MemPlace} {b0 : Nat} (ht : P.underlying t = some (.slice e))
    (hv : Value.okWide P w .any b0 t v) (h : DataW.Trod enc P w base spare held t v d p) {ρ : Hx.Rho} {pp : Option (Nat × Nat)} {n c : Nat} (hr : Hx.VR ρ (.slice pp n c) v) : n ≤ Rows.uptoBulk d := by
  obtain ⟨fuel, hf⟩ := h
  rcases Hx.vr_slices hr with ⟨_, rfl, _, rfl⟩ | ⟨b, q, r, _, _, rfl⟩
  · exact Nat.zero_le _
  · rcases Deep.open_slice ht hf with ⟨hcs, _⟩ | ⟨a, len, cap, m, k, D, Pl, hcs, _, _, _, _, hx, _⟩
    · simp [Value.cells] at hcs
    · simp [Value.cells] at hcs
      obtain ⟨_, rfl, _⟩ := hcs
      simp only [Prod.mk.injEq] at hx
      obtain ⟨rfl, _⟩ := hx
      have := bulk_all ((List.range n).map D)
      rw [List.length_map, List.length_range] at this
      simp only [Rows.uptoBulk]
      omega
open Go.Hx in
/-- A list argument with a bound. -/
def ALb {α : Type} (enc : α → List HV) (sz : Nat) (W : World) (v : Value) : Prop :=
  ∃ (o : Option Slot) (mk : Nat → HV) (l : List α), ArgL enc sz W v o mk l ∧ (∀ k p n c, mk k = .slice p n c → n ≤ c) ∧ l.length < 1000000000
open Go.Hx in
set_option maxRecDepth 100000 in
theorem walk {W : World} {v0 v1 v2 v3 : Value} (h0 : AL e2 2 W v0 (fun _ => True)) (h1 : ALb e3 3 W v1) (h2 : ∃ a b c : Int, ∀ ρ, VR ρ (.agg [i64 a, i64 b, i64 c]) v2) (h3 : ∃ n : Int, v3 = .int .u8 n ∧ 0 ≤ n ∧ n ≤ 255) :
    Calls Try.prog 15 #[v0, v1, v2, v3] W fun e w' => e = .returned (.bool true) ∧ Below W.heap.size W w' := by
  obtain ⟨oi0, mki0, li0, ai0, ci0, _⟩ := h0
  obtain ⟨pi0, ki0, ei0, wi0⟩ := ai0.row 0
  obtain ⟨oi1, mki1, li1, ai1, ci1, hl1⟩ := h1
  obtain ⟨pi1, ki1, ei1, wi1⟩ := ai1.row 1
  obtain ⟨a, b, c, hr⟩ := h2
  obtain ⟨n3, rfl, b3⟩ := h3
  have hd := lay_d ([oi0, oi1] : List (Option Slot))
  refine calls_args (ss := ([oi0, oi1] : List (Option Slot))) (args := [mki0 0, mki1 1, .agg [i64 a, i64 b, i64 c], .int .u8 n3]) mixed lw_ok (fun s hs => ?_) ?_ ?_
  · rcases List.mem_cons.1 hs with e | hs
    · exact ai0.ok s e.symm
    · rcases List.mem_cons.1 hs with e | hs
      · exact ai1.ok s e.symm
      · cases hs
  · rw [ei0, ei1]; exact V.ct15 100 (V.law15 hl1 b3) hd (V.all_sub _) (row_of rel2 (of_decide_eq_true rfl) rfl (ci0 _ _ _ _ ei0) wi0) (row_of rel3 (of_decide_eq_true rfl) rfl (ci1 _ _ _ _ ei1) wi1)
  · exact LR.cons (ai0.vr 0 _ rfl) (LR.cons (ai1.vr 1 _ rfl) (LR.cons (hr _) (LR.cons (.int _ _) (LR.nil _))))

set_option maxRecDepth 100000 in
theorem lifted (os : Os) (started : os.Started) (H : Type) (enc : TypeId × Value → H) (F0 : Stop.Interp) :
    ReturnsInHanded {} Try.checked os 15 .any ((Rows.OpenSpec.upto Rows.pointDiariesSpec).pre6 enc Try.prog Try.f15 Rows.pointDiariesUptoRow.domain false) (((Rows.OpenSpec.upto Rows.pointDiariesSpec).at F0).post enc Try.prog Try.f15 false true false false) := by
  refine returnsInHanded_of_cond (C := Try.checked) (s := Rows.OpenSpec.upto Rows.pointDiariesSpec) (k := Rows.uptoSmall) rfl own started (by kernel_rfl) Try.func15
    (OpenSpec.witness (enc := enc) (C := Try.checked) (s := Rows.OpenSpec.upto Rows.pointDiariesSpec) (k := Rows.uptoSmall) rfl false ⟨#[], #[.slice none 0 0, .slice none 0 0, .agg #[.int .i64 0, .int .i64 0, .int .i64 0], .int .u8 0], []⟩ 8 (by kernel_rfl) (by kernel_rfl) (by kernel_rfl)
      (x := ([.nil, .nil, .agg [.lit (.int .i64 0), .agg [.lit (.int .i64 0), .lit (.int .i64 0)]], .lit (.int .u8 0)], [], [])) (by kernel_rfl) (by kernel_rfl) (by kernel_rfl)) ?_
  intro W base args ds gs before hval0 hW hcnd hk _
  have hval : ∀ (j : Nat) t v, Try.f15.params[j]? = some t → args[j]? = some v → Value.okWide Try.prog W .any base t v := hval0
  have hW' := hW
  obtain ⟨p, q, hA0, hV, rfl, hfz, hnd⟩ := hW
  have hA : DataW.TrodAll enc Try.prog W 0 (fun _ => true) true Try.f15.params.toList args.toList ds p := hA0
  rw [Try.params15] at hA hval
  obtain ⟨v0, vs0, d0, ds0, p0, q0, hargs, rfl, rfl, h0, r0⟩ := trodAll_cons hA
  obtain ⟨v1, vs1, d1, ds1, p1, q1, rfl, rfl, rfl, h1, r1⟩ := trodAll_cons r0
  obtain ⟨v2, vs2, d2, ds2, p2, q2, rfl, rfl, rfl, h2, r2⟩ := trodAll_cons r1
  obtain ⟨v3, vs3, d3, ds3, p3, q3, rfl, rfl, rfl, h3, r3⟩ := trodAll_cons r2
  obtain ⟨rfl, rfl, rfl⟩ := trodAll_nil r3
  obtain rfl : args = #[v0, v1, v2, v3] := by cases args; simp_all
  obtain ⟨rfl, rfl⟩ := trodVars_none hV
  have k0 := h0
  have k1 := h1
  have k2 := h2
  have k3 := h3
  have lt0 : ∀ x ∈ p0, x.block < W.heap.size := by obtain ⟨m, hm⟩ := k0; exact DataW.trod_lt m _ _ _ hm
  have lt1 : ∀ x ∈ p1, x.block < W.heap.size := by obtain ⟨m, hm⟩ := k1; exact DataW.trod_lt m _ _ _ hm
  have lt2 : ∀ x ∈ p2, x.block < W.heap.size := by obtain ⟨m, hm⟩ := k2; exact DataW.trod_lt m _ _ _ hm
  have lt3 : ∀ x ∈ p3, x.block < W.heap.size := by obtain ⟨m, hm⟩ := k3; exact DataW.trod_lt m _ _ _ hm
  have g0 := Hx.arg_scales (hval 0 36 v0 rfl rfl) h0
  have g1 : ALb Hx.e3 3 W v1 := by
    obtain ⟨o, mk, l, ha, hc, _⟩ := Hx.arg_diary (hval 1 61 v1 rfl rfl) h1
    refine ⟨o, mk, l, ha, hc, ?_⟩
    obtain ⟨pp, c, e, _⟩ := ha.row 0
    have hv := ha.vr 0 (fun _ => Hx.riOf o) rfl
    rw [e] at hv
    have hb := bulk_slice Try.underlying61 (hval 1 61 v1 rfl rfl) h1 hv
    have hs : Rows.uptoBulkAll ([d0, d1, d2, d3] ++ []) ≤ 1048576 := of_decide_eq_true hk
    simp only [List.append_nil, Rows.uptoBulkAll] at hs
    omega
  have g2 : ∃ a b c : Int, ∀ ρ, Hx.VR ρ (.agg [Hx.i64 a, Hx.i64 b, Hx.i64 c]) v2 := by
    obtain ⟨C, rfl, hC⟩ := Hx.arg_struct Try.underlying93 Hx.leaves93 Hx.cells93 (hval 2 93 v2 rfl rfl) h2
    exact entry_arg hC
  have g3 : ∃ n : Int, v3 = .int .u8 n ∧ 0 ≤ n ∧ n ≤ 255 := by
    obtain ⟨n, rfl, _, _, hw⟩ := open_int Try.underlying5 (hval 3 5 v3 rfl rfl) h3
    exact ⟨n, rfl, Hx.wfk hw⟩
  clear hA0 hval0
  refine (walk g0 g1 g2 g3).mono fun e W' ⟨he, bel⟩ => ?_
  subst he
  exact ⟨_, rfl, _, _, _, [], _, [], hW', trodAll_mk1 (shut_bool Try.underlying4 _), (trodAll_cons_mk (Below.trod laidOut (by kernel_rfl) (of_decide_eq_true (by kernel_rfl)) k0 bel lt0) (trodAll_cons_mk (Below.trod laidOut (by kernel_rfl) (of_decide_eq_true (by kernel_rfl)) k1 bel lt1) (trodAll_cons_mk (Below.trod laidOut (by kernel_rfl) (of_decide_eq_true (by kernel_rfl)) k2 bel lt2) (trodAll_cons_mk (Below.trod laidOut (by kernel_rfl) (of_decide_eq_true (by kernel_rfl)) k3 bel lt3) trodAll_mk0)))), rfl, bel.frame _, fun h => by cases h⟩

theorem over : Rows.pointDiariesUptoRow.holds Try.pinned (Rows.OpenSpec.upto Rows.pointDiariesSpec) :=
  OpenClaim.holds_of_cond 15 Try.f15 rfl rfl rfl rfl rfl rfl rfl ⟨rfl, rfl, rfl, rfl, rfl⟩ rfl rfl rfl rfl rfl (by kernel_rfl) Try.func15 (by kernel_rfl)
    (of_decide_eq_true (by kernel_rfl)) (by unfold Func.isWrapper; first | (rw [if_pos (by decide +kernel)]; kernel_rfl) | (rw [if_neg (by decide +kernel)]; exact ⟨rfl, rfl⟩))
    (fun os started H enc _ F0 => lifted os started H enc F0)

/-- ████ THE STATEMENT ████ -/
theorem proved : Rows.PointDiariesUptoSaid := over
#print axioms proved
end Go.Proofs.Ytncdppdghlkloaa.pointDiaries

