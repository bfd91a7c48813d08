/- The closed run of 'awake': the chapter's first examples, which each law of the layer asks for at its end. -/
import Derived.Test.YtcjidgfngjoclaaH04
import Derived.Test.YtcjidgfngjoclaaH02
import Derived.Test.YtcjidgfngjoclaaH07
import Derived.Test.YtcjidgfngjoclaaH03
import Derived.Test.YtcjidgfngjoclaaH05
import Derived.OpenShut
import Derived.ChangeSlices
import Derived.Test.YtcjidgfngjoclaaRows
set_option linter.all false
/- The closed run of 'awake': the chapter's first examples, which each law of the layer asks for at its end. -/
namespace Go.Hx
theorem mixed : (Go.Proofs.Try.prog).follows .mixedOrders = true := by kernel_rfl
noncomputable def endK0 : Kv := fun v _ _ => some (v, ⟨.e, 0⟩)
theorem closed_of {lp : Nat → Option LFunc} {n f : Nat} (hr : (fnK lp n f).run 0 [] .e 0 endK0 = some (.bool true, ⟨.e, 0⟩)) : C lp 0 f [] ⟨.e, 0⟩ (fun v _ => v = .bool true) :=
  c_of_k hr fun v h nx hk => by unfold endK0 at hk; cases hk; rfl
theorem closed19 : C LP 0 19 [] ⟨.e, 0⟩ (fun v _ => v = .bool true) := closed_of (n := 40) (by kernel_rfl)
end Go.Hx

/- A struct argument with lists in its fields: its cells, one by one, on the plain machine. -/
namespace Go.Hx
open Go.RowKit
variable {P : Program}
end Go.Hx

/- The frame of the laws: 'awake' is known; arguments that are structs with lists in their fields, as lists and numbers. -/
namespace Go.Hx
open Go.RowKit Go.ChangeShapes Go.WideShapes Go.ChangeAt
theorem spWakes_ok : ∀ args σ v σ', spWakes args σ = some (v, σ') → σ' = σ ∧ args.all flat = true ∧ flatV v = true ∧ C LP 0 19 args ⟨.e, 0⟩ (fun v' _ => v' = v) := by
  intro args σ v σ' h
  cases args with
  | nil => cases h; exact ⟨rfl, rfl, rfl, closed19⟩
  | cons a l => cases h
theorem lw_ok : LpOk Go.Proofs.Try.prog LW := withS_ok lowP_ok (spec_plain mixed lowP_ok spWakes_ok)
theorem wfk {k : IntKind} {n : Int} (h : (Lit.int k n).wf = true) : k.min ≤ n ∧ n ≤ k.max := by
  simp only [Lit.wf, Bool.and_eq_true, decide_eq_true_eq] at h
  exact h
def e2 (x : Int × Int) : List HV := [i64 x.1, i64 x.2]
def e3 (x : Int × Int × Int) : List HV := [i64 x.1, i64 x.2.1, i64 x.2.2]
def eK (k : IntKind) (x : Int) : List HV := [.int k x]
def e4 (x : Int × Int × Int × Int) : List HV := [i64 x.1, i64 x.2.1, i64 x.2.2.1, i64 x.2.2.2]
theorem relK (k : IntKind) (F : V.PH) (x : Int) : V.rK k F x (eK k x) := rfl
/-- A list argument, with room; 'Z' holds of each element. -/
def AL {α : Type} (enc : α → List HV) (sz : Nat) (W : World) (v : Value) (Z : α → Prop) : Prop :=
  ∃ (o : Option Slot) (mk : Nat → HV) (l : List α), ArgL enc sz W v o mk l ∧ (∀ k p n c, mk k = .slice p n c → n ≤ c) ∧ ∀ x ∈ l, Z x
theorem row_of {α : Type} {rel : V.Rel α} {enc : α → List HV} {sz : Nat} {ss : List (Option Slot)} {k : Nat} {o : Option Slot} {l : List α} {p : Option (Nat × Nat)} {c : Nat} (hrel : ∀ F x, rel F x (enc x)) (hk : k < ss.length) (ho : ss.getD k none = o) (hc : l.length ≤ c)
    (hr : ∀ (h : Tr HBlk) (nx : Nat), k < nx → h.get k = (o.map fun s => .cells s.cs .ro) → Row enc sz h nx p l) : V.RowF rel sz (V.all (lay ss)) p c l := by
  refine ⟨hc, fun hne => ?_⟩
  obtain ⟨b, off, cs, q, h1, h2, h3, h4⟩ := hr (lay ss) ss.length hk (by rw [lay_get, ho]) hne
  exact ⟨b, off, cs, q, h1, h3, fun i x hx => ⟨_, h4 i x hx, hrel _ x⟩⟩
theorem slice_cap {P : Program} {H : Type} {enc : TypeId × Value → H} {w : World} {base : Nat} {held : Bool} {t e : TypeId} {a : Option Addr} {len cap : Nat} {dd : DataW H} {p : List MemPlace} (ht : P.underlying t = some (.slice e)) (h : DataW.Trod enc P w base (fun _ => true) held t (.slice a len cap) dd p) : len ≤ cap := by
  obtain ⟨fuel, hf⟩ := h
  rcases Deep.open_slice ht hf with ⟨hcs, _⟩ | ⟨a, len', cap', m, n, D, Pl, hcs, _, hlc, hm, hmm, _, hx⟩
  · simp [Value.cells] at hcs
    omega
  · simp [Value.cells] at hcs
    obtain ⟨rfl, rfl, rfl⟩ := hcs
    exact hlc
/-- Numbers of a kind as an argument: what they are, and that they are of the kind. -/
theorem arg_alK {k : IntKind} {H : Type} {enc0 : TypeId × Value → H} {P : Program} {w : World} {base : Nat} {held : Bool} {t e : TypeId} {d : Nat} {v : Value} {dd : DataW H} {p : List MemPlace} {b0 : Nat} (ht : P.underlying t = some (.slice e)) (he : P.underlying e = some (.int k)) (hk : leaves P d e = some [.i k]) (hl : 1 = P.cellsOf e)
    (hv : Value.okWide P w .any b0 t v) (h : DataW.Trod enc0 P w base (fun _ => true) held t v dd p) : AL (eK k) 1 w v (fun x => k.min ≤ x ∧ x ≤ k.max) := by
  rcases open_rows ht hk hl hv h with rfl | ⟨blk, off, len, cap, C, el, z, rfl, hw, hx⟩
  · exact ⟨none, fun _ => .slice none 0 0, [], ⟨fun s e => (by cases e), fun k ρ _ => .slice0, fun k => ⟨none, 0, rfl, fun h nx _ _ hne => absurd rfl hne⟩⟩, fun k p n c e => by cases e; exact Nat.le_refl _, fun x hx => by cases hx⟩
  · have hcap := slice_cap ht h
    obtain ⟨fuel, hf⟩ := h
    rcases open_ints ht he hl.symm hf with ⟨hcs, _⟩ | ⟨a, len', cap', zs, hcs, _, hlc, hm, hzl, _, hcell, hwf⟩
    · simp [Value.cells] at hcs
    · simp [Value.cells] at hcs
      obtain ⟨rfl, rfl, rfl⟩ := hcs
      simp only [if_true] at hzl
      have hlen : (zs.take len).length = len := by rw [List.length_take]; omega
      have key : ∀ i, w.cell? (Addr.add ⟨blk, off, none⟩ i) = C[off + i]? := fun i => by
        unfold Addr.add World.cell?
        by_cases h0 : i = 0
        · rw [if_pos h0, h0]
          simp only [hw, Nat.add_zero]
          rfl
        · rw [if_neg h0]
          simp only [hw]
          rfl
      have at_ : ∀ (i : Nat) (x : Int), (zs.take len)[i]? = some x → C[off + i]? = some (.int k x) := fun i x hi => by
        have hil : i < len := by
          rcases Nat.lt_or_ge i len with h | h
          · exact h
          · rw [List.getElem?_eq_none (by rw [hlen]; exact h)] at hi; cases hi
        rw [List.getElem?_take, if_pos hil] at hi
        have := hcell i (by omega)
        rw [key, List.getD_eq_getElem?_getD, hi] at this
        exact this
      refine ⟨some ⟨(zs.take len).flatMap (eK k), ⟨blk, off, 0⟩⟩, fun k => .slice (some (k, 0)) len cap, zs.take len, ⟨fun s e => ?_, fun k ρ hr => ?_, fun q => ⟨some (q, 0), cap, by rw [hlen], fun h nx hq hg => ?_⟩⟩, fun k p n c e => by cases e; exact hcap, fun x hx => wfk (hwf x (List.mem_of_mem_take hx))⟩
      · cases e
        refine ⟨C, el, z, hw, fun i u hu => ?_⟩
        obtain ⟨i', j, x, rfl, h2, h3⟩ := flat_at (enc := eK k) (sz := 1) (fun _ => rfl) _ i u hu
        cases j with
        | zero =>
          cases h3
          refine ⟨.int k x, ?_, fun ρ => .int _ _⟩
          rw [Nat.mul_one, Nat.add_zero]
          exact at_ i' x h2
        | succ j => simp [eK] at h3
      · exact VR.slice (r := ⟨blk, off, 0⟩) (o := 0) hr
      · exact flat_row0 (c := cap) (fun _ => rfl) hq (by rw [hg]; rfl)
end Go.Hx

/- The arguments of the laws of layer 1: a tube, readings, numbers. -/
namespace Go.Hx
open Go.RowKit Go.ChangeShapes Go.WideShapes Go.ChangeAt
open Go.Proofs
set_option maxRecDepth 100000
theorem leaves25 : leaves Try.prog 20 25 = some [.i .i64, .i .i64, .i .i64, .i .i64] := by kernel_rfl
theorem leaves87 : leaves Try.prog 20 87 = some [.i .u16] := by kernel_rfl
theorem cells87 : 1 = Try.prog.cellsOf 87 := by kernel_rfl
theorem cells25 : 4 = Try.prog.cellsOf 25 := by kernel_rfl
/-- A struct of four numbers. -/
def Q4 (v : Value) : Prop := ∃ a b c d : Int, v = .agg [.int .i64 a, .int .i64 b, .int .i64 c, .int .i64 d].toArray
section
variable {H : Type} {enc : TypeId × Value → H} {w : World} {base : Nat} {held : Bool} {v : Value} {dd : DataW H} {p : List MemPlace} {b0 : Nat}
theorem arg_tube (hv : Value.okWide Try.prog w .any b0 25 v) (h : DataW.Trod enc Try.prog w base (fun _ => true) held 25 v dd p) : Q4 v := by
  obtain ⟨C, rfl, hC⟩ := arg_struct Try.underlying25 leaves25 cells25 hv h
  obtain ⟨u0, C, rfl, h0, hC⟩ := f2_cons hC
  obtain ⟨u1, C, rfl, h1, hC⟩ := f2_cons hC
  obtain ⟨u2, C, rfl, h2, hC⟩ := f2_cons hC
  obtain ⟨u3, C, rfl, h3, hC⟩ := f2_cons hC
  obtain rfl := f2_nil hC
  obtain ⟨a, rfl⟩ := leaf_int h0
  obtain ⟨b, rfl⟩ := leaf_int h1
  obtain ⟨c, rfl⟩ := leaf_int h2
  obtain ⟨d, rfl⟩ := leaf_int h3
  exact ⟨a, b, c, d, rfl⟩
theorem arg_words (hv : Value.okWide Try.prog w .any b0 76 v) (h : DataW.Trod enc Try.prog w base (fun _ => true) held 76 v dd p) : AL (eK .u16) 1 w v (fun x => IntKind.u16.min ≤ x ∧ x ≤ IntKind.u16.max) :=
  arg_alK Try.underlying76 Try.underlying87 leaves87 cells87 hv h
end
theorem w16 {l : List Int} (h : ∀ x ∈ l, IntKind.u16.min ≤ x ∧ x ≤ IntKind.u16.max) : ∀ x ∈ l, 0 ≤ x ∧ x < 65536 := fun x hx => by
  have := h x hx
  have e1 : IntKind.u16.min = 0 := rfl
  have e2 : IntKind.u16.max = 65535 := rfl
  omega
end Go.Hx

