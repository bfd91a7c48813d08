/-
  BoreMore: where what it reads is of bulk at most 1048576 the law of P1.9 is true: with a reading more, or a narrower Volume, no bounds of the reference are wider, unless the readings contradict each other then.
  The run is walked on the plain machine (texts Hx, Hy), function by function (U1 to U8, R1 to R3, S1 to S3); 'wakes' is reckoned once (BW). The law copies the readings and appends one before it counts them: hence the bound.
-/
import Derived.Test.YtojkmobfhkjfnaaH08
import Derived.Test.YtojkmobfhkjfnaaH09
import Derived.Test.YtojkmobfhkjfnaaRows
import Derived.WalkKit
import Derived.ProofKit
import Derived.OpenShut
import Derived.ShutString
import Derived.ChangeOld
import Derived.Below
import Derived.JoinedCond
set_option linter.all false
/-
  BoreMore: where what it reads is of bulk at most 1048576 the law of P1.9 is true: with a reading more, or a narrower Volume, no bounds of the reference are wider, unless the readings contradict each other then.
  The run is walked on the plain machine (texts Hx, Hy), function by function (U1 to U8, R1 to R3, S1 to S3); 'wakes' is reckoned once (BW). The law copies the readings and appends one before it counts them: hence the bound.
-/
namespace Go.Proofs.Ytojkmobfhkjfnaa.boreMore
open Go.ChangeShapes Go.WideShapes Go.ChangeAt Go.RowKit
open Go.ChangeMaps (open_string shut_string)
set_option linter.unusedVariables false

theorem own : ownKnob Try.prog.godebug = none := by kernel_rfl
theorem laidOut : laidOutB Try.prog = true := by kernel_rfl
theorem leaves25 : Hx.leaves Try.prog 20 25 = some [.i .i64, .i .i64, .i .i64, .i .i64] := by kernel_rfl
theorem leaves82 : Hx.leaves Try.prog 20 82 = some [.i .i64, .i .i64, .i .i64, .i .i64] := by kernel_rfl
theorem cells25 : 4 = Try.prog.cellsOf 25 := by kernel_rfl
theorem cells82 : 4 = Try.prog.cellsOf 82 := by kernel_rfl

/-- A reading as an argument. -/
theorem rd_arg {C : List Value} (h : Hx.F2 [Hx.Leaf.i .i64, .i .i64, .i .i64, .i .i64] C) : ∃ r : Hx.Rd, ∀ ρ, Hx.VR ρ (.agg r.enc) (.agg C.toArray) := by
  obtain ⟨t, ht⟩ := Hx.tube_arg h
  exact ⟨⟨t.c, t.t, t.a, t.b⟩, ht⟩
theorem bulk_pos {H : Type} (d : DataW H) : 1 ≤ Rows.uptoBulk d := by
  cases d with
  | lit l => cases l <;> simp [Rows.uptoBulk]
  | _ => simp [Rows.uptoBulk]
theorem bulk_all {H : Type} : ∀ ds : List (DataW H), ds.length ≤ Rows.uptoBulkAll ds
  | [] => by simp [Rows.uptoBulkAll]
  | d :: ds => by
    have := bulk_pos d
    have := bulk_all ds
    simp only [Rows.uptoBulkAll, List.length_cons]
    omega
/-- A list's length is within its bulk. -/
theorem bulk_slice {H : Type} {enc : TypeId × Value → H} {P : Program} {w : World} {base : Nat} {held : Bool} {spare : Nat → Bool} {t e : TypeId} {v : Value} {d : DataW H} {p : List MemPlace} {b0 : Nat} (ht : P.underlying t = some (.slice e))
    (hv : Value.okWide P w .any b0 t v) (h : DataW.Trod enc P w base spare held t v d p) {ρ : Hx.Rho} {pp : Option (Nat × Nat)} {n c : Nat} (hr : Hx.VR ρ (.slice pp n c) v) : n ≤ Rows.uptoBulk d := by
  obtain ⟨fuel, hf⟩ := h
  rcases Hx.vr_slices hr with ⟨_, rfl, _, rfl⟩ | ⟨b, q, r, _, _, rfl⟩
  · exact Nat.zero_le _
  · rcases Deep.open_slice ht hf with ⟨hcs, _⟩ | ⟨a, len, cap, m, k, D, Pl, hcs, _, _, _, _, hx, _⟩
    · simp [Value.cells] at hcs
    · simp [Value.cells] at hcs
      obtain ⟨_, rfl, _⟩ := hcs
      simp only [Prod.mk.injEq] at hx
      obtain ⟨rfl, _⟩ := hx
      have := bulk_all ((List.range n).map D)
      rw [List.length_map, List.length_range] at this
      simp only [Rows.uptoBulk]
      omega

open Go.Hx in
set_option maxRecDepth 100000 in
theorem walk {W : World} {v0 v1 v2 v3 v4 : Value} (h0 : ∃ t : Tb, ∀ ρ, VR ρ (.agg t.cells) v0) (h1 : ∃ (o : Option Slot) (mk : Nat → HV) (l : List Rd), ArgL Rd.enc 4 W v1 o mk l ∧ l.length < 1000000000000) (h2 : ∃ r : Rd, ∀ ρ, VR ρ (.agg r.enc) v2)
    (h3 : ∃ n : Int, v3 = .int .u8 n ∧ 0 ≤ n ∧ n < 256) (h4 : ∃ n : Int, v4 = .int .u8 n ∧ 0 ≤ n ∧ n < 256) :
    Calls Try.prog 12 #[v0, v1, v2, v3, v4] W fun e w' => e = .returned (.bool true) ∧ Below W.heap.size W w' := by
  obtain ⟨t, ht⟩ := h0
  obtain ⟨o1, mk1, l, a1, hlen⟩ := h1
  obtain ⟨r, hr⟩ := h2
  obtain ⟨w1, rfl, b1⟩ := h3
  obtain ⟨w2, rfl, b2⟩ := h4
  obtain ⟨p1, c1, e1, r1⟩ := a1.row 0
  have hd := lay_d [o1]
  refine calls_args (ss := [o1]) (args := [.agg t.cells, mk1 0, .agg r.enc, .int .u8 w1, .int .u8 w2]) mixed lw_ok (fun s hs => ?_) ?_ ?_
  · rcases List.mem_cons.1 hs with e | hs
    · exact a1.ok s e.symm
    · cases hs
  · rw [e1]
    exact c_law12 hd rfl hlen (r1 _ _ (by show 0 < 1; omega) (lay_get _ 0)) b1 b2
  · exact LR.cons (ht _) (LR.cons (a1.vr 0 _ rfl) (LR.cons (hr _) (LR.cons (.int _ _) (LR.cons (.int _ _) (LR.nil _)))))

theorem wf8 {n : Int} (h : (Lit.int .u8 n).wf = true) : 0 ≤ n ∧ n < 256 := by
  simp only [Lit.wf, Bool.and_eq_true, decide_eq_true_eq] at h
  have h1 := h.1
  have h2 := h.2
  have e1 : IntKind.u8.min = 0 := rfl
  have e2 : IntKind.u8.max = 255 := rfl
  omega

set_option maxRecDepth 100000 in
theorem lifted (os : Os) (started : os.Started) (H : Type) (enc : TypeId × Value → H) (F0 : Stop.Interp) :
    ReturnsInHanded {} Try.checked os 12 .any ((Rows.OpenSpec.upto Rows.boreMoreSpec).pre6 enc Try.prog Try.f12 Rows.boreMoreUptoRow.domain false) (((Rows.OpenSpec.upto Rows.boreMoreSpec).at F0).post enc Try.prog Try.f12 false true false false) := by
  refine returnsInHanded_of_cond (C := Try.checked) (s := Rows.OpenSpec.upto Rows.boreMoreSpec) (k := Rows.uptoSmall) rfl own started (by kernel_rfl) Try.func12
    (OpenSpec.witness (enc := enc) (C := Try.checked) (s := Rows.OpenSpec.upto Rows.boreMoreSpec) (k := Rows.uptoSmall) rfl false ⟨#[], #[.agg #[.int .i64 0, .int .i64 0, .int .i64 0, .int .i64 0], .slice none 0 0, .agg #[.int .i64 0, .int .i64 0, .int .i64 0, .int .i64 0], .int .u8 0, .int .u8 0], []⟩ 8 (by kernel_rfl) (by kernel_rfl) (by kernel_rfl)
      (x := ([.agg [.lit (.int .i64 0), .lit (.int .i64 0), .agg [.lit (.int .i64 0), .lit (.int .i64 0)]], .nil, .agg [.lit (.int .i64 0), .lit (.int .i64 0), .agg [.lit (.int .i64 0), .lit (.int .i64 0)]], .lit (.int .u8 0), .lit (.int .u8 0)], [], [])) (by kernel_rfl) (by kernel_rfl) (by kernel_rfl)) ?_
  intro W base args ds gs before hval0 hW hcnd hk _
  have hval : ∀ (j : Nat) t v, Try.f12.params[j]? = some t → args[j]? = some v → Value.okWide Try.prog W .any base t v := hval0
  have hW' := hW
  obtain ⟨p, q, hA0, hV, rfl, hfz, hnd⟩ := hW
  have hA : DataW.TrodAll enc Try.prog W 0 (fun _ => true) true Try.f12.params.toList args.toList ds p := hA0
  rw [Try.params12] at hA hval
  obtain ⟨v0, vs0, d0, ds0, p0, q0, hargs, rfl, rfl, h0, r0⟩ := trodAll_cons hA
  obtain ⟨v1, vs1, d1, ds1, p1, q1, rfl, rfl, rfl, h1, r1⟩ := trodAll_cons r0
  obtain ⟨v2, vs2, d2, ds2, p2, q2, rfl, rfl, rfl, h2, r2⟩ := trodAll_cons r1
  obtain ⟨v3, vs3, d3, ds3, p3, q3, rfl, rfl, rfl, h3, r3⟩ := trodAll_cons r2
  obtain ⟨v4, vs4, d4, ds4, p4, q4, rfl, rfl, rfl, h4, r4⟩ := trodAll_cons r3
  obtain ⟨rfl, rfl, rfl⟩ := trodAll_nil r4
  obtain rfl : args = #[v0, v1, v2, v3, v4] := by cases args; simp_all
  obtain ⟨rfl, rfl⟩ := trodVars_none hV
  have k0 := h0
  have k1 := h1
  have k2 := h2
  have k3 := h3
  have k4 := h4
  have lt0 : ∀ x ∈ p0, x.block < W.heap.size := by obtain ⟨m, hm⟩ := k0; exact DataW.trod_lt m _ _ _ hm
  have lt1 : ∀ x ∈ p1, x.block < W.heap.size := by obtain ⟨m, hm⟩ := k1; exact DataW.trod_lt m _ _ _ hm
  have lt2 : ∀ x ∈ p2, x.block < W.heap.size := by obtain ⟨m, hm⟩ := k2; exact DataW.trod_lt m _ _ _ hm
  have lt3 : ∀ x ∈ p3, x.block < W.heap.size := by obtain ⟨m, hm⟩ := k3; exact DataW.trod_lt m _ _ _ hm
  have lt4 : ∀ x ∈ p4, x.block < W.heap.size := by obtain ⟨m, hm⟩ := k4; exact DataW.trod_lt m _ _ _ hm
  have g0 : ∃ t : Hx.Tb, ∀ ρ, Hx.VR ρ (.agg t.cells) v0 := by
    obtain ⟨C, rfl, hC⟩ := Hx.arg_struct Try.underlying25 leaves25 cells25 (hval 0 25 v0 rfl rfl) h0
    exact Hx.tube_arg hC
  have g2 : ∃ r : Hx.Rd, ∀ ρ, Hx.VR ρ (.agg r.enc) v2 := by
    obtain ⟨C, rfl, hC⟩ := Hx.arg_struct Try.underlying82 leaves82 cells82 (hval 2 82 v2 rfl rfl) h2
    exact rd_arg hC
  have g3 : ∃ n : Int, v3 = .int .u8 n ∧ 0 ≤ n ∧ n < 256 := by
    obtain ⟨n, rfl, _, _, hw⟩ := open_int Try.underlying5 (hval 3 5 v3 rfl rfl) h3
    exact ⟨n, rfl, wf8 hw⟩
  have g4 : ∃ n : Int, v4 = .int .u8 n ∧ 0 ≤ n ∧ n < 256 := by
    obtain ⟨n, rfl, _, _, hw⟩ := open_int Try.underlying5 (hval 4 5 v4 rfl rfl) h4
    exact ⟨n, rfl, wf8 hw⟩
  have g1 : ∃ (o : Option Hx.Slot) (mk : Nat → Hx.HV) (l : List Hx.Rd), Hx.ArgL Hx.Rd.enc 4 W v1 o mk l ∧ l.length < 1000000000000 := by
    obtain ⟨o, mk, l, ha⟩ := Hx.arg_rows (enc := Hx.Rd.enc) Try.underlying26 leaves82 cells82 (hval 1 26 v1 rfl rfl) h1 (fun _ => rfl) Hx.dec_rd
    refine ⟨o, mk, l, ha, ?_⟩
    obtain ⟨pp, c, e, _⟩ := ha.row 0
    have hv := ha.vr 0 (fun _ => Hx.riOf o) rfl
    rw [e] at hv
    have hb := bulk_slice Try.underlying26 (hval 1 26 v1 rfl rfl) h1 hv
    have hs : Rows.uptoBulkAll ([d0, d1, d2, d3, d4] ++ []) ≤ 1048576 := of_decide_eq_true hk
    simp only [List.append_nil, Rows.uptoBulkAll] at hs
    omega
  clear hA0 hval0
  refine (walk g0 g1 g2 g3 g4).mono fun e W' ⟨he, bel⟩ => ?_
  subst he
  exact ⟨_, rfl, _, _, _, [], _, [], hW', trodAll_mk1 (shut_bool Try.underlying4 _), (trodAll_cons_mk (Below.trod laidOut (by kernel_rfl) (of_decide_eq_true (by kernel_rfl)) k0 bel lt0) (trodAll_cons_mk (Below.trod laidOut (by kernel_rfl) (of_decide_eq_true (by kernel_rfl)) k1 bel lt1) (trodAll_cons_mk (Below.trod laidOut (by kernel_rfl) (of_decide_eq_true (by kernel_rfl)) k2 bel lt2) (trodAll_cons_mk (Below.trod laidOut (by kernel_rfl) (of_decide_eq_true (by kernel_rfl)) k3 bel lt3) (trodAll_cons_mk (Below.trod laidOut (by kernel_rfl) (of_decide_eq_true (by kernel_rfl)) k4 bel lt4) trodAll_mk0))))), rfl, bel.frame _, fun h => by cases h⟩

theorem over : Rows.boreMoreUptoRow.holds Try.pinned (Rows.OpenSpec.upto Rows.boreMoreSpec) :=
  OpenClaim.holds_of_cond 12 Try.f12 rfl rfl rfl rfl rfl rfl rfl ⟨rfl, rfl, rfl, rfl, rfl⟩ rfl rfl rfl rfl rfl (by kernel_rfl) Try.func12 (by kernel_rfl)
    (of_decide_eq_true (by kernel_rfl)) (by unfold Func.isWrapper; first | (rw [if_pos (by decide +kernel)]; kernel_rfl) | (rw [if_neg (by decide +kernel)]; exact ⟨rfl, rfl⟩))
    (fun os started H enc _ F0 => lifted os started H enc F0)

/-- ████ THE STATEMENT ████ -/
theorem proved : Rows.BoreMoreUptoSaid := over
#print axioms proved
end Go.Proofs.Ytojkmobfhkjfnaa.boreMore

