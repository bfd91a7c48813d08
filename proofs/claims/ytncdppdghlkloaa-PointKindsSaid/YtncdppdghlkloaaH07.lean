/- The frame of the laws: 'awake' is known; arguments that are structs with lists in their fields, as lists and numbers. -/
import Derived.Test.YtncdppdghlkloaaH05
import Derived.Test.YtncdppdghlkloaaH06
import Derived.Test.YtncdppdghlkloaaH02
import Derived.OpenShut
import Derived.ChangeSlices
import Derived.Test.YtncdppdghlkloaaRows
set_option linter.all false
/- The frame of the laws: 'awake' is known; arguments that are structs with lists in their fields, as lists and numbers. -/
namespace Go.Hx
open Go.RowKit Go.ChangeShapes Go.WideShapes Go.ChangeAt
theorem spWakes_ok : ∀ args σ v σ', spWakes args σ = some (v, σ') → σ' = σ ∧ args.all flat = true ∧ flatV v = true ∧ C LP 0 22 args ⟨.e, 0⟩ (fun v' _ => v' = v) := by
  intro args σ v σ' h
  cases args with
  | nil => cases h; exact ⟨rfl, rfl, rfl, closed22⟩
  | cons a l => cases h
theorem lw_ok : LpOk Go.Proofs.Try.prog LW := withS_ok lowP_ok (spec_plain mixed lowP_ok spWakes_ok)
def e2 (x : Int × Int) : List HV := [i64 x.1, i64 x.2]
def e3 (x : Int × Int × Int) : List HV := [i64 x.1, i64 x.2.1, i64 x.2.2]
theorem dec2 : ∀ us : Nat → Value, (∀ j k, [Leaf.i .i64, .i .i64][j]? = some k → LeafV k (us j)) → ∃ x : Int × Int, ∀ j u, (e2 x)[j]? = some u → ∀ ρ, VR ρ u (us j) := by
  intro us h
  obtain ⟨a, e0⟩ := leaf_int (h 0 _ rfl)
  obtain ⟨b, e1⟩ := leaf_int (h 1 _ rfl)
  refine ⟨(a, b), fun j u hj ρ => ?_⟩
  match j, hj with
  | 0, hj => cases hj; rw [e0]; exact .int _ _
  | 1, hj => cases hj; rw [e1]; exact .int _ _
  | j + 2, hj => simp [e2] at hj
theorem dec3 : ∀ us : Nat → Value, (∀ j k, [Leaf.i .i64, .i .i64, .i .i64][j]? = some k → LeafV k (us j)) → ∃ x : Int × Int × Int, ∀ j u, (e3 x)[j]? = some u → ∀ ρ, VR ρ u (us j) := by
  intro us h
  obtain ⟨a, e0⟩ := leaf_int (h 0 _ rfl)
  obtain ⟨b, e1⟩ := leaf_int (h 1 _ rfl)
  obtain ⟨c, e2⟩ := leaf_int (h 2 _ rfl)
  refine ⟨(a, b, c), fun j u hj ρ => ?_⟩
  match j, hj with
  | 0, hj => cases hj; rw [e0]; exact .int _ _
  | 1, hj => cases hj; rw [e1]; exact .int _ _
  | 2, hj => cases hj; rw [e2]; exact .int _ _
  | j + 3, hj => simp [e3] at hj
theorem rel2 (F : V.PH) (x : Int × Int) : V.rP V.rI V.rI F x (e2 x) := ⟨[_], [_], rfl, rfl, rfl⟩
theorem rel3 (F : V.PH) (x : Int × Int × Int) : V.rP V.rI (V.rP V.rI V.rI) F x (e3 x) := ⟨[_], [_, _], rfl, rfl, ⟨[_], [_], rfl, rfl, rfl⟩⟩
/-- A list argument, with room; 'Z' holds of each element. -/
def AL {α : Type} (enc : α → List HV) (sz : Nat) (W : World) (v : Value) (Z : α → Prop) : Prop :=
  ∃ (o : Option Slot) (mk : Nat → HV) (l : List α), ArgL enc sz W v o mk l ∧ (∀ k p n c, mk k = .slice p n c → n ≤ c) ∧ ∀ x ∈ l, Z x
theorem row_of {α : Type} {rel : V.Rel α} {enc : α → List HV} {sz : Nat} {ss : List (Option Slot)} {k : Nat} {o : Option Slot} {l : List α} {p : Option (Nat × Nat)} {c : Nat} (hrel : ∀ F x, rel F x (enc x)) (hk : k < ss.length) (ho : ss.getD k none = o) (hc : l.length ≤ c)
    (hr : ∀ (h : Tr HBlk) (nx : Nat), k < nx → h.get k = (o.map fun s => .cells s.cs .ro) → Row enc sz h nx p l) : V.RowF rel sz (V.all (lay ss)) p c l := by
  refine ⟨hc, fun hne => ?_⟩
  obtain ⟨b, off, cs, q, h1, h2, h3, h4⟩ := hr (lay ss) ss.length hk (by rw [lay_get, ho]) hne
  exact ⟨b, off, cs, q, h1, h3, fun i x hx => ⟨_, h4 i x hx, hrel _ x⟩⟩
theorem slice_cap {P : Program} {H : Type} {enc : TypeId × Value → H} {w : World} {base : Nat} {held : Bool} {t e : TypeId} {a : Option Addr} {len cap : Nat} {dd : DataW H} {p : List MemPlace} (ht : P.underlying t = some (.slice e)) (h : DataW.Trod enc P w base (fun _ => true) held t (.slice a len cap) dd p) : len ≤ cap := by
  obtain ⟨fuel, hf⟩ := h
  rcases Deep.open_slice ht hf with ⟨hcs, _⟩ | ⟨a, len', cap', m, n, D, Pl, hcs, _, hlc, hm, hmm, _, hx⟩
  · simp [Value.cells] at hcs
    omega
  · simp [Value.cells] at hcs
    obtain ⟨rfl, rfl, rfl⟩ := hcs
    exact hlc
theorem arg_al {P : Program} {H : Type} {enc0 : TypeId × Value → H} {w : World} {base : Nat} {held : Bool} {α : Type} [Inhabited α] {enc : α → List HV} {t e : TypeId} {d : Nat} {ks : List Leaf} {v : Value} {dd : DataW H} {p : List MemPlace} {b0 : Nat} (ht : P.underlying t = some (.slice e)) (hk : leaves P d e = some ks) (hl : ks.length = P.cellsOf e)
    (hv : Value.okWide P w .any b0 t v) (h : DataW.Trod enc0 P w base (fun _ => true) held t v dd p) (he : ∀ x, (enc x).length = ks.length)
    (hdec : ∀ us : Nat → Value, (∀ j k, ks[j]? = some k → LeafV k (us j)) → ∃ x : α, ∀ j u, (enc x)[j]? = some u → ∀ ρ, VR ρ u (us j)) : AL enc ks.length w v (fun _ => True) := by
  rcases open_rows ht hk hl hv h with rfl | ⟨blk, off, len, cap, C, el, z, rfl, hw, hx⟩
  · exact ⟨none, fun _ => .slice none 0 0, [], ⟨fun s e => (by cases e), fun k ρ _ => .slice0, fun k => ⟨none, 0, rfl, fun h nx _ _ hne => absurd rfl hne⟩⟩, fun k p n c e => by cases e; exact Nat.le_refl _, fun _ _ => trivial⟩
  · have each : ∀ i, i < len → ∃ x : α, ∀ j u, (enc x)[j]? = some u → ∃ c, C[off + (i * ks.length + j)]? = some c ∧ ∀ ρ, VR ρ u c := by
      intro i hi
      obtain ⟨x, hx1⟩ := hdec (fun j => (C[off + (i * ks.length + j)]?).getD .nilFunc) (fun j k hj => by
        obtain ⟨u, h1, h2⟩ := hx i hi j k hj
        rw [h1]; exact h2)
      refine ⟨x, fun j u hj => ?_⟩
      have hjl : j < ks.length := by
        rw [← he x]
        rcases Nat.lt_or_ge j (enc x).length with h | h
        · exact h
        · rw [List.getElem?_eq_none h] at hj; cases hj
      obtain ⟨c, h1, _⟩ := hx i hi j _ (List.getElem?_eq_getElem hjl)
      refine ⟨c, h1, fun ρ => ?_⟩
      have := hx1 j u hj ρ
      rwa [h1] at this
    obtain ⟨f, hf⟩ := Deep.choose_lt each
    refine ⟨some ⟨((List.range len).map f).flatMap enc, ⟨blk, off, 0⟩⟩, fun k => .slice (some (k, 0)) len cap, (List.range len).map f, ⟨fun s e => ?_, fun k ρ hr => ?_, fun k => ⟨some (k, 0), cap, by simp, fun h nx hk hg => ?_⟩⟩, fun k p n c e => by cases e; exact slice_cap ht h, fun _ _ => trivial⟩
    · cases e
      refine ⟨C, el, z, hw, fun i u hu => ?_⟩
      obtain ⟨i', j, x, rfl, h2, h3⟩ := flat_at he _ i u hu
      have hi' : i' < len := by
        rcases Nat.lt_or_ge i' len with h | h
        · exact h
        · rw [List.getElem?_eq_none (by simp; omega)] at h2; cases h2
      rw [List.getElem?_map, List.getElem?_range hi'] at h2
      cases h2
      exact hf i' hi' j u h3
    · exact VR.slice (r := ⟨blk, off, 0⟩) (o := 0) hr
    · exact flat_row0 (c := cap) he hk (by rw [hg]; rfl)
end Go.Hx

/- The arguments of the laws of layer 3: lists of scales, diaries. -/
namespace Go.Hx
open Go.RowKit Go.ChangeShapes Go.WideShapes Go.ChangeAt
open Go.Proofs
set_option maxRecDepth 100000
theorem leaves23 : leaves Try.prog 20 23 = some [.i .i64, .i .i64] := by kernel_rfl
theorem leaves93 : leaves Try.prog 20 93 = some [.i .i64, .i .i64, .i .i64] := by kernel_rfl
theorem cells23 : 2 = Try.prog.cellsOf 23 := by kernel_rfl
theorem cells93 : 3 = Try.prog.cellsOf 93 := by kernel_rfl
section
variable {H : Type} {enc : TypeId × Value → H} {w : World} {base : Nat} {held : Bool} {v : Value} {dd : DataW H} {p : List MemPlace} {b0 : Nat}
theorem arg_scales (hv : Value.okWide Try.prog w .any b0 36 v) (h : DataW.Trod enc Try.prog w base (fun _ => true) held 36 v dd p) : AL e2 2 w v (fun _ => True) :=
  arg_al (enc := e2) Try.underlying36 leaves23 cells23 hv h (fun _ => rfl) dec2
theorem arg_diary (hv : Value.okWide Try.prog w .any b0 61 v) (h : DataW.Trod enc Try.prog w base (fun _ => true) held 61 v dd p) : AL e3 3 w v (fun _ => True) :=
  arg_al (enc := e3) Try.underlying61 leaves93 cells93 hv h (fun _ => rfl) dec3
end
end Go.Hx

