/- 'wakes' is known; the functions of the program with it. -/
import Derived.Test.YtpilnebbghiemaaH04
import Derived.Test.YtpilnebbghiemaaH08
import Derived.Test.YtpilnebbghiemaaH02
import Derived.Test.YtpilnebbghiemaaH05
set_option linter.all false
/- 'wakes' is known; the functions of the program with it. -/
namespace Go.Hx
theorem spWakes_ok : ∀ args σ v σ', spWakes args σ = some (v, σ') → σ' = σ ∧ args.all flat = true ∧ flatV v = true ∧ C LP 0 22 args ⟨.e, 0⟩ (fun v' _ => v' = v) := by
  intro args σ v σ' h
  cases args with
  | nil => cases h; exact ⟨rfl, rfl, rfl, closed22⟩
  | cons a l => cases h
theorem lw_ok : LpOk Go.Proofs.Try.prog LW := withS_ok lowP_ok (spec_plain mixed lowP_ok spWakes_ok)
end Go.Hx

/- Arguments of the laws of layer 3: pairs of numbers, lists of them. -/
namespace Go.Hx
/-- A pair as an argument. -/
theorem pair_arg {C : List Value} (h : F2 [Leaf.i .i64, .i .i64] C) : ∃ r : Int × Int, ∀ ρ, VR ρ (.agg (renc r)) (.agg C.toArray) := by
  obtain ⟨_, _, rfl, h0, h⟩ := f2_cons h
  obtain ⟨_, _, rfl, h1, h⟩ := f2_cons h
  have := f2_nil h; subst this
  obtain ⟨a, rfl⟩ := leaf_int h0
  obtain ⟨b, rfl⟩ := leaf_int h1
  exact ⟨(a, b), fun ρ => VR.aggL (LR.cons (.int _ _) (LR.cons (.int _ _) (LR.nil _)))⟩
theorem dec_pair : ∀ us : Nat → Value, (∀ j k, [Leaf.i .i64, .i .i64][j]? = some k → LeafV k (us j)) → ∃ x : Int × Int, ∀ j u, (renc x)[j]? = some u → ∀ ρ, VR ρ u (us j) := by
  intro us h
  obtain ⟨a, e0⟩ := leaf_int (h 0 _ rfl)
  obtain ⟨b, e1⟩ := leaf_int (h 1 _ rfl)
  refine ⟨(a, b), fun j u hj ρ => ?_⟩
  match j, hj with
  | 0, hj => cases hj; rw [e0]; exact .int _ _
  | 1, hj => cases hj; rw [e1]; exact .int _ _
  | j + 2, hj => simp [renc] at hj
end Go.Hx

/- A slice's length is within its room. -/
namespace Go.Hx
open Go.RowKit
variable {P : Program}
variable {H : Type} {enc : TypeId × Value → H} {w : World} {base : Nat} {spare : Nat → Bool} {held : Bool}
theorem slice_cap {H : Type} {enc : TypeId × Value → H} {w : World} {base : Nat} {held : Bool} {t e : TypeId} {a : Option Addr} {len cap : Nat} {dd : DataW H} {p : List MemPlace} (ht : P.underlying t = some (.slice e)) (h : DataW.Trod enc P w base (fun _ => true) held t (.slice a len cap) dd p) : len ≤ cap := by
  obtain ⟨fuel, hf⟩ := h
  rcases Deep.open_slice ht hf with ⟨hcs, _⟩ | ⟨a, len', cap', m, n, D, Pl, hcs, _, hlc, hm, hmm, _, hx⟩
  · simp [Value.cells] at hcs
    omega
  · simp [Value.cells] at hcs
    obtain ⟨rfl, rfl, rfl⟩ := hcs
    exact hlc
theorem arg_rowsC {H : Type} {enc0 : TypeId × Value → H} {w : World} {base : Nat} {held : Bool} {α : Type} [Inhabited α] {enc : α → List HV} {t e : TypeId} {d : Nat} {ks : List Leaf} {v : Value} {dd : DataW H} {p : List MemPlace} {b0 : Nat} (ht : P.underlying t = some (.slice e)) (hk : leaves P d e = some ks) (hl : ks.length = P.cellsOf e)
    (hv : Value.okWide P w .any b0 t v) (h : DataW.Trod enc0 P w base (fun _ => true) held t v dd p) (he : ∀ x, (enc x).length = ks.length)
    (hdec : ∀ us : Nat → Value, (∀ j k, ks[j]? = some k → LeafV k (us j)) → ∃ x : α, ∀ j u, (enc x)[j]? = some u → ∀ ρ, VR ρ u (us j)) :
    ∃ (o : Option Slot) (mk : Nat → HV) (l : List α), ArgL enc ks.length w v o mk l ∧ ∀ k p n c, mk k = .slice p n c → n ≤ c := by
  rcases open_rows ht hk hl hv h with rfl | ⟨blk, off, len, cap, C, el, z, rfl, hw, hx⟩
  · exact ⟨none, fun _ => .slice none 0 0, [], ⟨fun s e => (by cases e), fun k ρ _ => .slice0, fun k => ⟨none, 0, rfl, fun h nx _ _ hne => absurd rfl hne⟩⟩, fun k p n c e => by cases e; exact Nat.le_refl _⟩
  · have each : ∀ i, i < len → ∃ x : α, ∀ j u, (enc x)[j]? = some u → ∃ c, C[off + (i * ks.length + j)]? = some c ∧ ∀ ρ, VR ρ u c := by
      intro i hi
      obtain ⟨x, hx1⟩ := hdec (fun j => (C[off + (i * ks.length + j)]?).getD .nilFunc) (fun j k hj => by
        obtain ⟨u, h1, h2⟩ := hx i hi j k hj
        rw [h1]; exact h2)
      refine ⟨x, fun j u hj => ?_⟩
      have hjl : j < ks.length := by
        rw [← he x]
        rcases Nat.lt_or_ge j (enc x).length with h | h
        · exact h
        · rw [List.getElem?_eq_none h] at hj; cases hj
      obtain ⟨c, h1, _⟩ := hx i hi j _ (List.getElem?_eq_getElem hjl)
      refine ⟨c, h1, fun ρ => ?_⟩
      have := hx1 j u hj ρ
      rwa [h1] at this
    obtain ⟨f, hf⟩ := Deep.choose_lt each
    refine ⟨some ⟨((List.range len).map f).flatMap enc, ⟨blk, off, 0⟩⟩, fun k => .slice (some (k, 0)) len cap, (List.range len).map f, ⟨fun s e => ?_, fun k ρ hr => ?_, fun k => ⟨some (k, 0), cap, by simp, fun h nx hk hg => ?_⟩⟩, fun k p n c e => by cases e; exact slice_cap ht h⟩
    · cases e
      refine ⟨C, el, z, hw, fun i u hu => ?_⟩
      obtain ⟨i', j, x, rfl, h2, h3⟩ := flat_at he _ i u hu
      have hi' : i' < len := by
        rcases Nat.lt_or_ge i' len with h | h
        · exact h
        · rw [List.getElem?_eq_none (by simp; omega)] at h2; cases h2
      rw [List.getElem?_map, List.getElem?_range hi'] at h2
      cases h2
      exact hf i' hi' j u h3
    · exact VR.slice (r := ⟨blk, off, 0⟩) (o := 0) hr
    · exact flat_row0 (c := cap) he hk (by rw [hg]; rfl)
end Go.Hx

