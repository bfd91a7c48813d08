/-
  BoreEnds: for every tube and all words the law of P1.8 is true: both ends of the bounds of each mark are reached by a truth, that Shows tells. Conditions: none.
  The run is walked on the plain machine (texts Hx, Hy), function by function (U1 to U8, R1, R2, S1, S4 to S6, P1 to P4); 'wakes' is reckoned once (BW).
-/
import Derived.Test.YtokaihlongbllaaH07
import Derived.Test.YtokaihlongbllaaH08
import Derived.Test.YtokaihlongbllaaRows
import Derived.WalkKit
import Derived.ProofKit
import Derived.OpenShut
import Derived.ShutString
import Derived.ChangeOld
import Derived.ChangeSlices
import Derived.Below
set_option linter.all false
/-
  BoreEnds: for every tube and all words the law of P1.8 is true: both ends of the bounds of each mark are reached by a truth, that Shows tells. Conditions: none.
  The run is walked on the plain machine (texts Hx, Hy), function by function (U1 to U8, R1, R2, S1, S4 to S6, P1 to P4); 'wakes' is reckoned once (BW).
-/
namespace Go.Proofs.Ytokaihlongbllaa.boreEnds
open Go.ChangeShapes Go.WideShapes Go.ChangeAt Go.RowKit
open Go.ChangeMaps (open_string shut_string)
set_option linter.unusedVariables false

theorem own : ownKnob Try.prog.godebug = none := by kernel_rfl
theorem laidOut : laidOutB Try.prog = true := by kernel_rfl
theorem leaves25 : Hx.leaves Try.prog 20 25 = some [.i .i64, .i .i64, .i .i64, .i .i64] := by kernel_rfl
theorem leaves87 : Hx.leaves Try.prog 20 87 = some [.i .u16] := by kernel_rfl
theorem cells25 : 4 = Try.prog.cellsOf 25 := by kernel_rfl
theorem cells87 : 1 = Try.prog.cellsOf 87 := by kernel_rfl

theorem wf16 {n : Int} (h : (Lit.int .u16 n).wf = true) : 0 ≤ n ∧ n < 65536 := by
  simp only [Lit.wf, Bool.and_eq_true, decide_eq_true_eq] at h
  have h1 := h.1
  have h2 := h.2
  have e1 : IntKind.u16.min = 0 := rfl
  have e2 : IntKind.u16.max = 65535 := rfl
  omega
open Go.Hx in
/-- Words as an argument: what they are on the plain machine, and that they are words. -/
theorem arg_words {H : Type} {enc0 : TypeId × Value → H} {P : Program} {w : World} {base : Nat} {held : Bool} {t e : TypeId} {d : Nat} {v : Value} {dd : DataW H} {p : List MemPlace} {b0 : Nat} (ht : P.underlying t = some (.slice e)) (he : P.underlying e = some (.int .u16)) (hk : leaves P d e = some [.i .u16]) (hl : 1 = P.cellsOf e)
    (hv : Value.okWide P w .any b0 t v) (h : DataW.Trod enc0 P w base (fun _ => true) held t v dd p) :
    ∃ (o : Option Slot) (mk : Nat → HV) (l : List Int), ArgL wenc 1 w v o mk l ∧ Words l := by
  rcases open_rows ht hk hl hv h with rfl | ⟨blk, off, len, cap, C, el, z, rfl, hw, hx⟩
  · exact ⟨none, fun _ => .slice none 0 0, [], ⟨fun s e => (by cases e), fun k ρ _ => .slice0, fun k => ⟨none, 0, rfl, fun h nx _ _ hne => absurd rfl hne⟩⟩, by show 0 < _; omega, fun x hx => by cases hx⟩
  · obtain ⟨fuel, hf⟩ := h
    rcases open_ints ht he hl.symm hf with ⟨hcs, _⟩ | ⟨a, len', cap', zs, hcs, _, hlc, hm, hzl, _, hcell, hwf⟩
    · simp [Value.cells] at hcs
    · simp [Value.cells] at hcs
      obtain ⟨rfl, rfl, rfl⟩ := hcs
      simp only [if_true] at hzl
      have hlen : (zs.take len).length = len := by rw [List.length_take]; omega
      have key : ∀ i, w.cell? (Addr.add ⟨blk, off, none⟩ i) = C[off + i]? := fun i => by
        unfold Addr.add World.cell?
        by_cases h0 : i = 0
        · rw [if_pos h0, h0]
          simp only [hw, Nat.add_zero]
          rfl
        · rw [if_neg h0]
          simp only [hw]
          rfl
      have at_ : ∀ (i : Nat) (x : Int), (zs.take len)[i]? = some x → C[off + i]? = some (.int .u16 x) := fun i x hi => by
        have hil : i < len := by
          rcases Nat.lt_or_ge i len with h | h
          · exact h
          · rw [List.getElem?_eq_none (by rw [hlen]; exact h)] at hi; cases hi
        rw [List.getElem?_take, if_pos hil] at hi
        have := hcell i (by omega)
        rw [key, List.getD_eq_getElem?_getD, hi] at this
        exact this
      refine ⟨some ⟨(zs.take len).flatMap wenc, ⟨blk, off, 0⟩⟩, fun k => .slice (some (k, 0)) len cap, zs.take len, ⟨fun s e => ?_, fun k ρ hr => ?_, fun k => ⟨some (k, 0), cap, by rw [hlen], fun h nx hk hg => ?_⟩⟩, ?_, fun x hx => wf16 (hwf x (List.mem_of_mem_take hx))⟩
      · cases e
        refine ⟨C, el, z, hw, fun i u hu => ?_⟩
        obtain ⟨i', j, x, rfl, h2, h3⟩ := flat_at (enc := wenc) (sz := 1) (fun _ => rfl) _ i u hu
        cases j with
        | zero =>
          cases h3
          refine ⟨.int .u16 x, ?_, fun ρ => .int _ _⟩
          rw [Nat.mul_one, Nat.add_zero]
          exact at_ i' x h2
        | succ j => simp [wenc] at h3
      · exact VR.slice (r := ⟨blk, off, 0⟩) (o := 0) hr
      · exact flat_row0 (c := cap) (fun _ => rfl) hk (by rw [hg]; rfl)
      · rw [hlen]
        have : maxLen = 9223372036854775807 := rfl
        omega

open Go.Hx in
set_option maxRecDepth 100000 in
theorem walk {W : World} {v0 v1 v2 : Value} (h0 : ∃ t : Tb, ∀ ρ, VR ρ (.agg t.cells) v0) (h1 : ∃ (o : Option Slot) (mk : Nat → HV) (l : List Int), ArgL wenc 1 W v1 o mk l ∧ Words l) (h2 : ∃ (o : Option Slot) (mk : Nat → HV) (l : List Int), ArgL wenc 1 W v2 o mk l ∧ Words l) :
    Calls Try.prog 11 #[v0, v1, v2] W fun e w' => e = .returned (.bool true) ∧ Below W.heap.size W w' := by
  obtain ⟨t, ht⟩ := h0
  obtain ⟨o1, mk1, l1, a1, wd1⟩ := h1
  obtain ⟨o2, mk2, l2, a2, wd2⟩ := h2
  obtain ⟨p1, c1, e1, r1⟩ := a1.row 0
  obtain ⟨p2, c2, e2, r2⟩ := a2.row 1
  have hd := lay_d [o1, o2]
  refine calls_args (ss := [o1, o2]) (args := [.agg t.cells, mk1 0, mk2 1]) mixed lw_ok (fun s hs => ?_) ?_ ?_
  · rcases List.mem_cons.1 hs with e | hs
    · exact a1.ok s e.symm
    · rcases List.mem_cons.1 hs with e | hs
      · exact a2.ok s e.symm
      · cases hs
  · rw [e1, e2]
    exact c_law11 hd rfl rfl wd1 wd2 (r1 _ _ (by show 0 < 2; omega) (lay_get _ 0)) (r2 _ _ (by show 1 < 2; omega) (lay_get _ 1))
  · exact LR.cons (ht _) (LR.cons (a1.vr 0 _ rfl) (LR.cons (a2.vr 1 _ rfl) (LR.nil _)))

set_option maxRecDepth 100000 in
theorem lifted (os : Os) (started : os.Started) (H : Type) (enc : TypeId × Value → H) :
    ReturnsInHanded {} Try.checked os 11 .any (Rows.boreEndsSpec.pre6 enc Try.prog Try.f11 Rows.boreEndsRow.domain false) (Rows.boreEndsSpec.post enc Try.prog Try.f11 false true false false) := by
  refine returnsInHanded_of_change (C := Try.checked) own started (by kernel_rfl) Try.func11
    (ChangeSpec.witness6 (enc := enc) (C := Try.checked) false ⟨#[], #[.agg #[.int .i64 0, .int .i64 0, .int .i64 0, .int .i64 0], .slice none 0 0, .slice none 0 0], []⟩ 8 (by kernel_rfl) (by kernel_rfl) (by kernel_rfl) (by kernel_rfl)) ?_
  intro W base args ds gs before hval0 hW hcnd _
  have hval : ∀ (j : Nat) t v, Try.f11.params[j]? = some t → args[j]? = some v → Value.okWide Try.prog W .any base t v := hval0
  have hW' := hW
  obtain ⟨p, q, hA0, hV, rfl, hfz, hnd⟩ := hW
  have hA : DataW.TrodAll enc Try.prog W 0 (fun _ => true) true Try.f11.params.toList args.toList ds p := hA0
  rw [Try.params11] at hA hval
  obtain ⟨v0, vs0, d0, ds0, p0, q0, hargs, rfl, rfl, h0, r0⟩ := trodAll_cons hA
  obtain ⟨v1, vs1, d1, ds1, p1, q1, rfl, rfl, rfl, h1, r1⟩ := trodAll_cons r0
  obtain ⟨v2, vs2, d2, ds2, p2, q2, rfl, rfl, rfl, h2, r2⟩ := trodAll_cons r1
  obtain ⟨rfl, rfl, rfl⟩ := trodAll_nil r2
  obtain rfl : args = #[v0, v1, v2] := by cases args; simp_all
  obtain ⟨rfl, rfl⟩ := trodVars_none hV
  have k0 := h0
  have k1 := h1
  have k2 := h2
  have lt0 : ∀ x ∈ p0, x.block < W.heap.size := by obtain ⟨m, hm⟩ := k0; exact DataW.trod_lt m _ _ _ hm
  have lt1 : ∀ x ∈ p1, x.block < W.heap.size := by obtain ⟨m, hm⟩ := k1; exact DataW.trod_lt m _ _ _ hm
  have lt2 : ∀ x ∈ p2, x.block < W.heap.size := by obtain ⟨m, hm⟩ := k2; exact DataW.trod_lt m _ _ _ hm
  have g0 : ∃ t : Hx.Tb, ∀ ρ, Hx.VR ρ (.agg t.cells) v0 := by
    obtain ⟨C, rfl, hC⟩ := Hx.arg_struct Try.underlying25 leaves25 cells25 (hval 0 25 v0 rfl rfl) h0
    exact Hx.tube_arg hC
  have g1 := arg_words Try.underlying76 Try.underlying87 leaves87 cells87 (hval 1 76 v1 rfl rfl) h1
  have g2 := arg_words Try.underlying76 Try.underlying87 leaves87 cells87 (hval 2 76 v2 rfl rfl) h2
  clear hA0 hval0
  refine (walk g0 g1 g2).mono fun e W' ⟨he, bel⟩ => ?_
  subst he
  exact ⟨_, rfl, _, _, _, [], _, [], hW', trodAll_mk1 (shut_bool Try.underlying4 _), (trodAll_cons_mk (Below.trod laidOut (by kernel_rfl) (of_decide_eq_true (by kernel_rfl)) k0 bel lt0) (trodAll_cons_mk (Below.trod laidOut (by kernel_rfl) (of_decide_eq_true (by kernel_rfl)) k1 bel lt1) (trodAll_cons_mk (Below.trod laidOut (by kernel_rfl) (of_decide_eq_true (by kernel_rfl)) k2 bel lt2) trodAll_mk0))), rfl, bel.frame _, fun h => by cases h⟩

theorem over : Rows.boreEndsRow.holds Try.pinned (OpenSpec.ofChange Rows.boreEndsSpec) :=
  OpenClaim.holds_of_wide 11 Try.f11 rfl rfl rfl rfl rfl rfl rfl ⟨rfl, rfl, rfl, rfl, rfl⟩ rfl rfl rfl rfl rfl (by kernel_rfl) Try.func11 (by kernel_rfl)
    (of_decide_eq_true (by kernel_rfl)) (by unfold Func.isWrapper; first | (rw [if_pos (by decide +kernel)]; kernel_rfl) | (rw [if_neg (by decide +kernel)]; exact ⟨rfl, rfl⟩))
    (fun os started H enc _ => lifted os started H enc)

/-- ████ THE STATEMENT ████ -/
theorem proved : Rows.BoreEndsSaid := over
#print axioms proved
end Go.Proofs.Ytokaihlongbllaa.boreEnds

