/- From a statement's arguments, plain structs and lists of them, to the plain machine's store. -/
import Derived.Test.YtojkmobfhkjfnaaH04
import Derived.Below
import Derived.Deep.Slices
import Derived.WideShapes
import Derived.Test.YtojkmobfhkjfnaaH05
import Derived.Test.YtojkmobfhkjfnaaH07
import Derived.Test.YtojkmobfhkjfnaaH06
set_option linter.all false
/- From a statement's arguments, plain structs and lists of them, to the plain machine's store. -/
namespace Go.Hx
open Go.RowKit
variable {P : Program}

inductive LeafV : Leaf → Value → Prop
  | b (b : Bool) : LeafV .b (.bool b)
  | i (k : IntKind) (n : Int) : LeafV (.i k) (.int k n)
  | s (s : ByteArray) : LeafV .s (.string s)
def F2 (ks : List Leaf) (cs : List Value) : Prop := ks.length = cs.length ∧ ∀ (i : Nat) (k : Leaf) (u : Value), ks[i]? = some k → cs[i]? = some u → LeafV k u
theorem f2_one {k : Leaf} {u : Value} (h : LeafV k u) : F2 [k] [u] := ⟨rfl, fun i k' u' h1 h2 => by
  cases i with
  | zero => cases h1; cases h2; exact h
  | succ i => simp at h1⟩
section
variable {H : Type} {enc : TypeId × Value → H} {w : World} {base : Nat} {spare : Nat → Bool} {held : Bool}
theorem size_cells {t : TypeId} {n : Nat} (h : szOf P t = some n) : P.cellsOf t = n := by
  unfold szOf at h
  unfold Program.cellsOf
  rw [h]; rfl
theorem fields_leaves {lv : TypeId → Option (List Leaf)} {cs : List Value} : ∀ (fs : List Field) (off : Nat) (ks : List Leaf), leavesF P lv fs off = some ks →
    (∀ f ∈ fs, ∀ kf, lv f.type = some kf → kf.length = P.cellsOf f.type → F2 kf ((cs.drop f.offset).take (P.cellsOf f.type))) →
    ∀ (i : Nat) (k : Leaf) (u : Value), ks[i]? = some k → cs[off + i]? = some u → LeafV k u
  | [], off, ks, h, _, i, k, u, h1, _ => by cases h; simp at h1
  | f :: fs, off, ks, h, hf, i, k, u, h1, h2 => by
    unfold leavesF at h
    split at h
    · rename_i kf n e1 e2
      cases hc : (f.name != "_" && Nat.beq f.offset off && Nat.beq n kf.length) with
      | false => rw [hc] at h; cases h
      | true =>
        rw [hc] at h
        simp only [cond_true, Option.map_eq_some_iff] at h
        obtain ⟨kr, h3, rfl⟩ := h
        simp only [Bool.and_eq_true] at hc
        have ho : f.offset = off := Nat.eq_of_beq_eq_true hc.1.2
        have hn : n = kf.length := Nat.eq_of_beq_eq_true hc.2
        have hs := size_cells e2
        by_cases hi : i < kf.length
        · have := (hf f (List.mem_cons_self ..) kf e1 (by omega)).2 i k u (by rwa [List.getElem?_append_left hi] at h1)
          exact this (by rw [List.getElem?_take, if_pos (by omega), List.getElem?_drop, ho]; exact h2)
        · refine fields_leaves fs (off + n) kr h3 (fun g hg => hf g (List.mem_cons_of_mem _ hg)) (i - kf.length) k u ?_ ?_
          · rwa [List.getElem?_append_right (by omega)] at h1
          · rw [show off + n + (i - kf.length) = off + i by omega]; exact h2
    · cases h
theorem trod_leaves : ∀ (d : Nat) (t : TypeId) (ks : List Leaf) (fuel : Nat) (cs : List Value) (x : DataW H × List MemPlace), leaves P d t = some ks → ks.length = P.cellsOf t → DataW.trod enc P w base spare held fuel t cs = some x → F2 ks cs
  | 0, t, ks, fuel, cs, x, h, _, _ => by cases h
  | d + 1, t, ks, fuel, cs, x, h, hl, ht => by
    unfold leaves at h
    split at h
    · rename_i e; cases h
      obtain ⟨b, rfl, _⟩ := DataW.trod_bool e ht
      exact f2_one (.b b)
    · rename_i k e; cases h
      obtain ⟨n, rfl, _⟩ := DataW.trod_int e ht
      exact f2_one (.i k n)
    · rename_i e; cases h
      obtain ⟨s, rfl, _⟩ := DataW.trod_string e ht
      exact f2_one (.s s)
    · rename_i fs e
      cases hst : P.stoodInHeld t with
      | true => rw [hst] at h; cases h
      | false =>
        rw [hst] at h
        simp only [cond_false] at h
        obtain ⟨xs, n, _, _, hlen, hxl, hx⟩ := DataW.trod_struct e ht
        refine ⟨by omega, fun i k u h1 h2 => ?_⟩
        refine fields_leaves fs.toList 0 ks h (fun f hf kf hk hkl => ?_) i k u h1 (by rwa [Nat.zero_add])
        obtain ⟨j, hj, rfl⟩ := List.getElem_of_mem hf
        have hj' : j < fs.size := by simpa using hj
        have hfj : fs[j]? = some fs.toList[j] := by rw [← Array.getElem?_toList]; exact List.getElem?_eq_getElem hj
        have h3 := hx j _ hfj
        have h4 : xs[j]? = some xs[j] := List.getElem?_eq_getElem (by omega)
        rw [h4] at h3
        exact trod_leaves d _ kf n _ _ hk hkl h3
    · cases h
/-- A list of plain rows, opened. -/
theorem open_rows {t e : TypeId} {d : Nat} {ks : List Leaf} {v : Value} {dd : DataW H} {p : List MemPlace} {b0 : Nat} (ht : P.underlying t = some (.slice e)) (hk : leaves P d e = some ks) (hl : ks.length = P.cellsOf e)
    (hv : Value.okWide P w .any b0 t v) (h : DataW.Trod enc P w base (fun _ => true) held t v dd p) :
    v = .slice none 0 0 ∨ ∃ (blk off len cap : Nat) (C : Array Value) (el : TypeId) (z : Nat × Nat), v = .slice (some ⟨blk, off, none⟩) len cap ∧ w.heap[blk]? = some (.cells C el z) ∧
      ∀ i, i < len → ∀ (j : Nat) (k : Leaf), ks[j]? = some k → ∃ u, C[off + (i * ks.length + j)]? = some u ∧ LeafV k u := by
  obtain ⟨fuel, hf⟩ := h
  obtain ⟨a0, len, cap, rfl⟩ := WideShapes.okWide_slice ht hv
  rcases Deep.open_slice ht hf with ⟨hcs, _⟩ | ⟨a, len', cap', m, n, D, Pl, hcs, _, hlc, hm, hmm, _, hx⟩
  · simp [Value.cells] at hcs
    obtain ⟨rfl, rfl, rfl⟩ := hcs
    exact .inl rfl
  · simp [Value.cells] at hcs
    obtain ⟨rfl, rfl, rfl⟩ := hcs
    simp only [if_true] at hmm
    subst hmm
    have hok : Cell.ok P w .any b0 t (.slice (some a) len m) := by
      simp only [Value.okWide, ht, Cell.okWide] at hv
      exact hv
    simp only [Cell.ok, ht] at hok
    obtain ⟨_, _, _, hspot, row, cells, hsh, _⟩ := hok
    obtain ⟨blk, off, spot⟩ := a
    dsimp only at hspot hsh
    subst hspot
    unfold World.shape? at hsh
    split at hsh
    · rename_i C el z hw
      refine .inr ⟨blk, off, len, m, C, el, z, rfl, hw, fun i hi j k hj => ?_⟩
      obtain ⟨cs', h1, h2⟩ := hx i (by omega)
      obtain ⟨_, hlen, hcell⟩ := World.cells?_some h1
      have hjl : j < ks.length := by
        rcases Nat.lt_or_ge j ks.length with h | h
        · exact h
        · rw [List.getElem?_eq_none h] at hj; cases hj
      have hf2 := trod_leaves d e ks n cs' _ hk hl h2
      have hu : cs'[j]? = some cs'[j] := List.getElem?_eq_getElem (by rw [← hf2.1]; exact hjl)
      refine ⟨cs'[j], ?_, hf2.2 j k _ hj hu⟩
      have hc := hcell j (by omega)
      rw [hu, Deep.add_add] at hc
      have key : w.cell? (Addr.add ⟨blk, off, none⟩ (i * P.cellsOf e + j)) = C[off + (i * P.cellsOf e + j)]? := by
        unfold Addr.add World.cell?
        by_cases h0 : i * P.cellsOf e + j = 0
        · rw [if_pos h0, h0]
          simp only [hw, Nat.add_zero]
          rfl
        · rw [if_neg h0]
          simp only [hw]
          rfl
      rw [key] at hc
      rw [hl]; exact hc
    · simp at hsh
end
/-! the store that the arguments make -/
structure Slot where
  cs : List HV
  ri : RI
noncomputable def laid : Nat → List (Option Slot) → Tr HBlk → Tr HBlk
  | _, [], h => h
  | k, none :: ss, h => laid (k + 1) ss h
  | k, some s :: ss, h => laid (k + 1) ss (h.set k (some (.cells s.cs .ro)))
def riOf (o : Option Slot) : Option RI := o.map (·.ri)
def rhoOf (ss : List (Option Slot)) : Rho := fun b => riOf (ss.getD b none)
theorem laid_get : ∀ (ss : List (Option Slot)) (k : Nat) (h : Tr HBlk) (b : Nat), (laid k ss h).get b = if k ≤ b ∧ b < k + ss.length then (match ss.getD (b - k) none with | some s => some (.cells s.cs .ro) | none => h.get b) else h.get b
  | [], k, h, b => by rw [if_neg (by simp only [List.length_nil]; omega)]; rfl
  | none :: ss, k, h, b => by
    show (laid (k + 1) ss h).get b = _
    rw [laid_get ss (k + 1) h b]
    by_cases e : b = k
    · subst e; rw [if_neg (by omega), if_pos (by simp)]; simp
    · by_cases h1 : k + 1 ≤ b ∧ b < k + 1 + ss.length
      · rw [if_pos h1, if_pos (by simp; omega), show b - k = (b - (k + 1)) + 1 by omega]; rfl
      · rw [if_neg h1, if_neg (by simp; omega)]
  | some s :: ss, k, h, b => by
    show (laid (k + 1) ss (h.set k _)).get b = _
    rw [laid_get ss (k + 1) _ b, Tr.get_set]
    by_cases e : b = k
    · subst e; rw [if_neg (by omega), if_pos rfl, if_pos (by simp)]; simp
    · rw [if_neg e]
      by_cases h1 : k + 1 ≤ b ∧ b < k + 1 + ss.length
      · rw [if_pos h1, if_pos (by simp; omega), show b - k = (b - (k + 1)) + 1 by omega]; rfl
      · rw [if_neg h1, if_neg (by simp; omega)]
noncomputable def lay (ss : List (Option Slot)) : Tr HBlk := laid 0 ss .e
theorem lay_get (ss : List (Option Slot)) (b : Nat) : (lay ss).get b = (ss.getD b none).map fun s => .cells s.cs .ro := by
  unfold lay
  rw [laid_get, Tr.get_e]
  by_cases h : b < ss.length
  · rw [if_pos ⟨Nat.zero_le _, by omega⟩, Nat.sub_zero]
    cases ss.getD b none <;> rfl
  · rw [if_neg (by omega), List.getD_eq_getElem?_getD, List.getElem?_eq_none (by omega)]; rfl
theorem lay_d (ss : List (Option Slot)) : D (lay ss) ss.length := by
  unfold D
  intro b hb
  rw [lay_get, List.getD_eq_getElem?_getD, List.getElem?_eq_none (by omega)]; rfl
/-- A slot is in the world. -/
def SlotOk (w : World) (s : Slot) : Prop := ∃ (C : Array Value) (e : TypeId) (z : Nat × Nat), w.heap[s.ri.blk]? = some (.cells C e z) ∧ ∀ (i : Nat) (v : HV), s.cs[i]? = some v → ∃ u, C[s.ri.off + i]? = some u ∧ ∀ ρ, VR ρ v u
theorem below_of_post {base nx nx' : Nat} {g g' : Hp} {ρ ρ' : Rho} {W W' : World} (h : Post P base 0 nx nx' g g' ρ ρ' W W') (hro : ∀ b x, g b = some x → x.own = false) : Below W.heap.size W W' :=
  ⟨h.os, h.tape, h.output, h.size, fun k hk => h.same k hk fun ⟨b, x, r, h1, h2, _⟩ => by rw [hro b x h1] at h2; cases h2⟩
/-- **A law over such arguments, walked on the plain machine, in any world.** -/
theorem calls_args {lp : Nat → Option LFunc} (hm : P.follows .mixedOrders = true) (hlp : LpOk P lp) {f : Nat} {args : List HV} {ss : List (Option Slot)} {W : World} (hs : ∀ s, some s ∈ ss → SlotOk W s)
    (h : C lp 0 f args ⟨lay ss, ss.length⟩ (Sc (· = .bool true) ⟨lay ss, ss.length⟩)) {Args : Array Value} (ha : LR (rhoOf ss) args Args.toList) :
    Calls P f Args W fun e W' => e = .returned (.bool true) ∧ Below W.heap.size W W' := by
  have hro : ∀ b x, (lay ss).get b = some x → x.own = false := fun b x hx => by
    rw [lay_get] at hx
    cases e : ss.getD b none with
    | none => rw [e] at hx; cases hx
    | some s => rw [e] at hx; cases hx; rfl
  have mem : ∀ b s, ss.getD b none = some s → some s ∈ ss ∧ b < ss.length := fun b s e => by
    rw [List.getD_eq_getElem?_getD] at e
    cases e2 : ss[b]? with
    | none => rw [e2] at e; cases e
    | some o =>
      rw [e2] at e
      have : o = some s := e
      subst this
      refine ⟨List.mem_of_getElem? e2, ?_⟩
      rcases Nat.lt_or_ge b ss.length with h | h
      · exact h
      · rw [List.getElem?_eq_none h] at e2; cases e2
  have hdom : Dom ⟨lay ss, ss.length⟩ := fun b x hx => by
    have hx' : (lay ss).get b = some x := hx
    rw [lay_get] at hx'
    cases e : ss.getD b none with
    | none => rw [e] at hx'; cases hx'
    | some s => exact (mem b s e).2
  have hsim : Sim P W.heap.size (lay ss).get (rhoOf ss) W := by
    refine ⟨fun b x hx => ?_, fun b b' x x' r r' hx _ ho => by rw [hro b x hx] at ho; cases ho⟩
    rw [lay_get] at hx
    cases e : ss.getD b none with
    | none => rw [e] at hx; cases hx
    | some s =>
      rw [e] at hx
      cases hx
      obtain ⟨C, el, z, hw, hc⟩ := hs s (mem b s e).1
      refine ⟨s.ri, C, el, z, by unfold rhoOf riOf; rw [e]; rfl, hw, fun i v hv => ?_, (Array.getElem?_eq_some_iff.1 hw).1⟩
      obtain ⟨u, h1, h2⟩ := hc i v hv
      exact ⟨u, h1, h2 _⟩
  obtain ⟨n, v, σ', h1, h2⟩ := h
  have hin : In P W.heap.size ⟨lay ss, ss.length⟩ σ' (rhoOf ss) W := ⟨Nat.le_refl _, hsim, fun b hb _ => by
    show riOf (ss.getD b none) = none
    rw [List.getD_eq_getElem?_getD, List.getElem?_eq_none hb]; rfl⟩
  have := run_sound hm hlp h1 hdom W.heap.size (rhoOf ss) Args W hin ha
  rw [fr_none] at this
  refine (callsIn_wide.1 this).mono ?_
  rintro e W' ⟨V, ρ', rfl, hv, hp⟩
  obtain ⟨rfl, _⟩ := h2
  cases hv
  exact ⟨rfl, below_of_post hp hro⟩
/-- Which element and which cell of it a cell of a list is. -/
theorem flat_at {α : Type} {enc : α → List HV} {sz : Nat} (he : ∀ x, (enc x).length = sz) : ∀ (l : List α) (p : Nat) (v : HV), (l.flatMap enc)[p]? = some v → ∃ i j x, p = i * sz + j ∧ l[i]? = some x ∧ (enc x)[j]? = some v
  | [], p, v, h => by simp at h
  | x :: l, p, v, h => by
    rw [List.flatMap_cons] at h
    by_cases hp : p < sz
    · rw [List.getElem?_append_left (by rw [he]; exact hp)] at h
      exact ⟨0, p, x, by omega, rfl, h⟩
    · rw [List.getElem?_append_right (by rw [he]; omega), he] at h
      obtain ⟨i, j, y, h1, h2, h3⟩ := flat_at he l _ v h
      exact ⟨i + 1, j, y, by rw [Nat.add_mul]; omega, by simpa using h2, h3⟩
theorem flat_row0 {α : Type} {enc : α → List HV} {sz b c : Nat} {h : Tr HBlk} {nx : Nat} {l : List α} {k : BK} (he : ∀ x, (enc x).length = sz) (hb : b < nx) (hg : h.get b = some (.cells (l.flatMap enc) k)) : Row enc sz h nx (some (b, 0)) l :=
  fun _ => ⟨b, 0, _, k, rfl, hb, hg, fun i x hx => flat_row he l i x hx⟩
/-- A list argument: what it is on the plain machine. -/
structure ArgL {α : Type} (enc : α → List HV) (sz : Nat) (w : World) (v : Value) (o : Option Slot) (mk : Nat → HV) (l : List α) : Prop where
  ok : ∀ s, o = some s → SlotOk w s
  vr : ∀ (k : Nat) (ρ : Rho), ρ k = riOf o → VR ρ (mk k) v
  row : ∀ k, ∃ p c, mk k = .slice p l.length c ∧ ∀ (h : Tr HBlk) (nx : Nat), k < nx → h.get k = (o.map fun s => .cells s.cs .ro) → Row enc sz h nx p l
theorem arg_rows {H : Type} {enc0 : TypeId × Value → H} {w : World} {base : Nat} {held : Bool} {α : Type} [Inhabited α] {enc : α → List HV} {t e : TypeId} {d : Nat} {ks : List Leaf} {v : Value} {dd : DataW H} {p : List MemPlace} {b0 : Nat} (ht : P.underlying t = some (.slice e)) (hk : leaves P d e = some ks) (hl : ks.length = P.cellsOf e)
    (hv : Value.okWide P w .any b0 t v) (h : DataW.Trod enc0 P w base (fun _ => true) held t v dd p) (he : ∀ x, (enc x).length = ks.length)
    (hdec : ∀ us : Nat → Value, (∀ j k, ks[j]? = some k → LeafV k (us j)) → ∃ x : α, ∀ j u, (enc x)[j]? = some u → ∀ ρ, VR ρ u (us j)) :
    ∃ (o : Option Slot) (mk : Nat → HV) (l : List α), ArgL enc ks.length w v o mk l := by
  rcases open_rows ht hk hl hv h with rfl | ⟨blk, off, len, cap, C, el, z, rfl, hw, hx⟩
  · exact ⟨none, fun _ => .slice none 0 0, [], fun s e => (by cases e), fun k ρ _ => .slice0, fun k => ⟨none, 0, rfl, fun h nx _ _ hne => absurd rfl hne⟩⟩
  · have each : ∀ i, i < len → ∃ x : α, ∀ j u, (enc x)[j]? = some u → ∃ c, C[off + (i * ks.length + j)]? = some c ∧ ∀ ρ, VR ρ u c := by
      intro i hi
      obtain ⟨x, hx1⟩ := hdec (fun j => (C[off + (i * ks.length + j)]?).getD .nilFunc) (fun j k hj => by
        obtain ⟨u, h1, h2⟩ := hx i hi j k hj
        rw [h1]; exact h2)
      refine ⟨x, fun j u hj => ?_⟩
      have hjl : j < ks.length := by
        rw [← he x]
        rcases Nat.lt_or_ge j (enc x).length with h | h
        · exact h
        · rw [List.getElem?_eq_none h] at hj; cases hj
      obtain ⟨c, h1, _⟩ := hx i hi j _ (List.getElem?_eq_getElem hjl)
      refine ⟨c, h1, fun ρ => ?_⟩
      have := hx1 j u hj ρ
      rwa [h1] at this
    obtain ⟨f, hf⟩ := Deep.choose_lt each
    refine ⟨some ⟨((List.range len).map f).flatMap enc, ⟨blk, off, 0⟩⟩, fun k => .slice (some (k, 0)) len cap, (List.range len).map f, fun s e => ?_, fun k ρ hr => ?_, fun k => ⟨some (k, 0), cap, by simp, fun h nx hk hg => ?_⟩⟩
    · cases e
      refine ⟨C, el, z, hw, fun i u hu => ?_⟩
      obtain ⟨i', j, x, rfl, h2, h3⟩ := flat_at he _ i u hu
      have hi' : i' < len := by
        rcases Nat.lt_or_ge i' len with h | h
        · exact h
        · rw [List.getElem?_eq_none (by simp; omega)] at h2; cases h2
      rw [List.getElem?_map, List.getElem?_range hi'] at h2
      cases h2
      exact hf i' hi' j u h3
    · exact VR.slice (r := ⟨blk, off, 0⟩) (o := 0) hr
    · exact flat_row0 (c := cap) he hk (by rw [hg]; rfl)
theorem leaf_int {k : IntKind} {u : Value} (h : LeafV (.i k) u) : ∃ n, u = .int k n := by cases h; exact ⟨_, rfl⟩
/-- A struct argument of plain cells. -/
theorem arg_struct {H : Type} {enc : TypeId × Value → H} {w : World} {base : Nat} {spare : Nat → Bool} {held : Bool} {t : TypeId} {d : Nat} {ks : List Leaf} {fs : Array Field} {v : Value} {dd : DataW H} {p : List MemPlace} {b0 : Nat} (ht : P.underlying t = some (.struct fs)) (hk : leaves P d t = some ks) (hl : ks.length = P.cellsOf t)
    (hv : Value.okWide P w .any b0 t v) (h : DataW.Trod enc P w base spare held t v dd p) : ∃ C : List Value, v = .agg C.toArray ∧ F2 ks C := by
  obtain ⟨fuel, hf⟩ := h
  obtain ⟨C, rfl, _⟩ := WideShapes.okWide_struct ht hv
  exact ⟨C.toList, rfl, trod_leaves d t ks fuel _ _ hk hl hf⟩
theorem f2_cons {k : Leaf} {ks : List Leaf} {C : List Value} (h : F2 (k :: ks) C) : ∃ u C', C = u :: C' ∧ LeafV k u ∧ F2 ks C' := by
  cases C with
  | nil => exact absurd h.1 (by simp)
  | cons u C => exact ⟨u, C, rfl, h.2 0 k u rfl rfl, by simpa using h.1, fun i k' u' h1 h2 => h.2 (i + 1) k' u' (by simpa using h1) (by simpa using h2)⟩
theorem f2_nil {C : List Value} (h : F2 [] C) : C = [] := by
  cases C with
  | nil => rfl
  | cons u C => exact absurd h.1 (by simp)
end Go.Hx

/- 'wakes' is known; the functions of the program with it; readings as arguments. -/
namespace Go.Hx
theorem spWakes_ok : ∀ args σ v σ', spWakes args σ = some (v, σ') → σ' = σ ∧ args.all flat = true ∧ flatV v = true ∧ C LQ 0 19 args ⟨.e, 0⟩ (fun v' _ => v' = v) := by
  intro args σ v σ' h
  cases args with
  | nil => cases h; exact ⟨rfl, rfl, rfl, closed19⟩
  | cons a l => cases h
theorem lw_ok : LpOk Go.Proofs.Try.prog LW := withS_ok lowP_ok (spec_plain mixed lq_ok spWakes_ok)
instance : Inhabited Rd := ⟨⟨0, 0, 0, 0⟩⟩
theorem dec_rd : ∀ us : Nat → Value, (∀ j k, [Leaf.i .i64, .i .i64, .i .i64, .i .i64][j]? = some k → LeafV k (us j)) → ∃ x : Rd, ∀ j u, x.enc[j]? = some u → ∀ ρ, VR ρ u (us j) := by
  intro us h
  obtain ⟨f, e0⟩ := leaf_int (h 0 _ rfl)
  obtain ⟨g, e1⟩ := leaf_int (h 1 _ rfl)
  obtain ⟨lo, e2⟩ := leaf_int (h 2 _ rfl)
  obtain ⟨hi, e3⟩ := leaf_int (h 3 _ rfl)
  refine ⟨⟨f, g, lo, hi⟩, fun j u hj ρ => ?_⟩
  match j, hj with
  | 0, hj => cases hj; rw [e0]; exact .int _ _
  | 1, hj => cases hj; rw [e1]; exact .int _ _
  | 2, hj => cases hj; rw [e2]; exact .int _ _
  | 3, hj => cases hj; rw [e3]; exact .int _ _
  | j + 4, hj => simp [Rd.enc] at hj
/-- A tube as an argument. -/
theorem tube_arg {C : List Value} (h : F2 [Leaf.i .i64, .i .i64, .i .i64, .i .i64] C) : ∃ t : Tb, ∀ ρ, VR ρ (.agg t.cells) (.agg C.toArray) := by
  obtain ⟨_, _, rfl, h0, h⟩ := f2_cons h
  obtain ⟨_, _, rfl, h1, h⟩ := f2_cons h
  obtain ⟨_, _, rfl, h2, h⟩ := f2_cons h
  obtain ⟨_, _, rfl, h3, h⟩ := f2_cons h
  have := f2_nil h; subst this
  obtain ⟨c, rfl⟩ := leaf_int h0
  obtain ⟨t, rfl⟩ := leaf_int h1
  obtain ⟨a, rfl⟩ := leaf_int h2
  obtain ⟨b, rfl⟩ := leaf_int h3
  exact ⟨⟨c, t, a, b⟩, fun ρ => VR.aggL (LR.cons (.int _ _) (LR.cons (.int _ _) (LR.cons (.int _ _) (LR.cons (.int _ _) (LR.nil _)))))⟩
end Go.Hx

/- Layer 1: what may be said of how much higher one mark is than another: matrices that are closed. -/
namespace Go.Hx
/-- No way over another mark says more. -/
structure Good (n : Nat) (M : Mx) : Prop where
  tri : ∀ i j k, i ≤ n → j ≤ n → k ≤ n → M i k ≤ M i j + M j k
  dg : ∀ i, i ≤ n → M i i = 0
  ub : ∀ i j, i ≤ n → j ≤ n → M i j ≤ 2000
  out : ∀ i j, ¬ (i ≤ n ∧ j ≤ n) → M i j = 0
theorem Good.cyc {n : Nat} {M : Mx} (h : Good n M) {i j : Nat} (hi : i ≤ n) (hj : j ≤ n) : 0 ≤ M i j + M j i := by
  have := h.tri i j i hi hj hi
  have := h.dg i hi
  omega
theorem Good.bds {n : Nat} {M : Mx} (h : Good n M) : BdS M := fun i j => by
  by_cases hij : i ≤ n ∧ j ≤ n
  · have := h.ub i j hij.1 hij.2
    have := h.ub j i hij.2 hij.1
    have := h.cyc hij.1 hij.2
    omega
  · rw [h.out i j hij]; omega
theorem Good.lb {n : Nat} {M : Mx} (h : Good n M) {i j : Nat} (hi : i ≤ n) (hj : j ≤ n) : -2000 ≤ M i j := by
  have := h.ub j i hj hi
  have := h.cyc hi hj
  omega
theorem good_lim {n f g : Nat} {m : Int} {M : Mx} (h : Good n M) (hf : f ≤ n) (hg : g ≤ n) (hm : 0 ≤ m + M g f) : Good n (limM n f g m M) := by
  have e : ∀ i j, i ≤ n → j ≤ n → limM n f g m M i j = min (M i j) (M i f + m + M g j) := fun i j hi hj => by
    unfold limM; rw [if_pos ⟨hi, hj⟩]
  refine ⟨fun i j k hi hj hk => ?_, fun i hi => ?_, fun i j hi hj => ?_, fun i j hij => ?_⟩
  · rw [e i k hi hk, e i j hi hj, e j k hj hk]
    have := h.tri i j k hi hj hk
    have := h.tri i j f hi hj hf
    have := h.tri g j k hg hj hk
    have := h.tri g j f hg hj hf
    omega
  · rw [e i i hi hi, h.dg i hi]
    have := h.tri g i f hg hi hf
    omega
  · rw [e i j hi hj]
    have := h.ub i j hi hj
    omega
  · unfold limM
    rw [if_neg hij]
    exact h.out i j hij
theorem F_max {a b d : Int} (h : a ≤ b) : d * (if 0 ≤ d then b else a) = max (d * a) (d * b) := by
  by_cases hd : 0 ≤ d
  · rw [if_pos hd]
    have := Int.mul_le_mul_of_nonneg_left h hd
    omega
  · rw [if_neg hd]
    have := Int.mul_le_mul_of_nonneg_left h (show 0 ≤ -d by omega)
    rw [Int.neg_mul, Int.neg_mul] at this
    omega
theorem u0_at {n i j : Nat} {a b : Int} (h : a ≤ b) (hi : i ≤ n) (hj : j ≤ n) : u0 n a b i j = max (((j : Int) - i) * a) (((j : Int) - i) * b) := by
  unfold u0
  rw [if_pos ⟨hi, hj⟩, ← F_max h]
  congr 1
  by_cases e : i ≤ j
  · rw [if_pos e, if_pos (by omega)]
  · rw [if_neg e, if_neg (by omega)]
theorem mulb' {i j n : Nat} {a : Int} (hi : i ≤ n) (hj : j ≤ n) (hn : n ≤ 10) (ha : 0 ≤ a ∧ a ≤ 200) : ((j : Int) - i) * a ≤ 2000 := by
  by_cases h : (j : Int) - i ≤ 0
  · have := Int.mul_le_mul_of_nonneg_right h ha.1
    rw [Int.zero_mul] at this
    omega
  · have h1 : ((j : Int) - i) * a ≤ 10 * a := Int.mul_le_mul_of_nonneg_right (by omega) ha.1
    omega
theorem good_u0 {n : Nat} {a b : Int} (hn : n ≤ 10) (h1 : 1 ≤ a) (h2 : a ≤ b) (h3 : b ≤ 200) : Good n (u0 n a b) := by
  refine ⟨fun i j k hi hj hk => ?_, fun i hi => ?_, fun i j hi hj => ?_, fun i j hij => ?_⟩
  · rw [u0_at h2 hi hk, u0_at h2 hi hj, u0_at h2 hj hk]
    rw [show (k : Int) - i = ((j : Int) - i) + ((k : Int) - j) by omega, Int.add_mul, Int.add_mul]
    omega
  · rw [u0_at h2 hi hi, show (i : Int) - i = 0 by omega, Int.zero_mul, Int.zero_mul]; rfl
  · have e1 := mulb' (a := a) hi hj hn ⟨by omega, by omega⟩
    have e2 := mulb' (a := b) hi hj hn ⟨by omega, by omega⟩
    rw [u0_at h2 hi hj]; omega
  · unfold u0; rw [if_neg hij]
theorem unr_eq {n : Nat} {t : Tb} (hn1 : 1 ≤ n) (hn : n ≤ 10) (h1 : 1 ≤ t.a) (h2 : t.a ≤ t.b) (h3 : t.b ≤ 200) (h4 : n * t.a ≤ t.t) (h5 : t.t ≤ n * t.b) : unrM n t = limM n n 0 (-t.t) (limM n 0 n t.t (u0 n t.a t.b)) ∧ Good n (limM n 0 n t.t (u0 n t.a t.b)) ∧ Good n (unrM n t) := by
  have g0 := good_u0 hn h1 h2 h3
  have c1 : 0 ≤ t.t + u0 n t.a t.b n 0 := by
    rw [u0_at h2 (Nat.le_refl _) (Nat.zero_le _), show ((0 : Nat) : Int) - n = -n by omega, Int.neg_mul, Int.neg_mul]; omega
  have g1 := good_lim g0 (Nat.zero_le _) (Nat.le_refl _) c1
  have c2 : 0 ≤ -t.t + limM n 0 n t.t (u0 n t.a t.b) 0 n := by
    unfold limM
    rw [if_pos ⟨Nat.zero_le _, Nat.le_refl _⟩, g0.dg 0 (Nat.zero_le _), g0.dg n (Nat.le_refl _), u0_at h2 (Nat.zero_le _) (Nat.le_refl _), show (n : Int) - ((0 : Nat) : Int) = n by omega]; omega
  have e : unrM n t = limM n n 0 (-t.t) (limM n 0 n t.t (u0 n t.a t.b)) := by
    unfold unrM
    rw [if_pos c1]
    dsimp only
    rw [if_pos c2]
  exact ⟨e, g1, by rw [e]; exact good_lim g1 (Nat.le_refl _) (Nat.zero_le _) c2⟩
end Go.Hx

/- Walks of the plain machine: maps. -/
namespace Go.Hx
variable {lp : Nat → Option LFunc} {fl : Nat} {N : HAct → HS → Prop} {a : HAct} {h : Tr HBlk} {nx : Nat} {os : List LOper} {dst : Option Nat} {anc : List Nat}
theorem r_mm (hn : R lp fl os N (a.put dst (.map (some nx))) ⟨h.set nx (some (.map [])), nx + 1⟩) : R lp fl (⟨dst, .makeMap, none, anc⟩ :: os) N a ⟨h, nx⟩ := r_go rfl hn
theorem r_lku {d : ED} {zero kv : HV} {m k : Lo} {r : Nat} {es : List (HV × HV)} {o : Option HV} (hm : a.ev m = .map (some r)) (hk : a.ev k = kv) (hok : keyOk d kv = true) (hg : h.get r = some (.map es)) (hf : findH d kv es = some o) (hn : R lp fl os N (a.put dst (o.getD zero)) ⟨h, nx⟩) : R lp fl (⟨dst, .lookup d zero false m k, none, anc⟩ :: os) N a ⟨h, nx⟩ :=
  r_go (by
    show oLookup d zero false m k a _ = _
    unfold oLookup
    rw [hk, hm]
    simp only [hok, cond_true, hg, hf]
    cases o <;> rfl) hn
theorem r_mup {d : ED} {kv : HV} {m k v : Lo} {vv : HV} {r : Nat} {es es' : List (HV × HV)} (hm : a.ev m = .map (some r)) (hk : a.ev k = kv) (hv : a.ev v = vv) (hok : keyOk d kv = true) (hg : h.get r = some (.map es)) (hfl : fl ≤ r) (hu : updH d kv vv es = some es') (hn : R lp fl os N (a.put dst .undef) ⟨h.set r (some (.map es')), nx⟩) : R lp fl (⟨dst, .mapUpdate d m k v, none, anc⟩ :: os) N a ⟨h, nx⟩ :=
  r_go (by
    show oMapUpdate fl d m k v a _ = _
    unfold oMapUpdate
    rw [hk, hm, hv]
    simp only [hok, cond_true, hg, ble_t' hfl, hu]
    rfl) hn
theorem r_rem {x y : Lo} {m n : Int} {σ : HS} (hx : a.ev x = i64 m) (hy : a.ev y = i64 n) (h0 : 0 ≤ m) (h1 : 0 < n) (hn : R lp fl os N (a.put dst (i64 (m % n))) σ) : R lp fl (⟨dst, .bin .rem x y, none, anc⟩ :: os) N a σ :=
  r_go (by
    show keep σ (binH .rem _ _) = _
    rw [hx, hy]
    simp only [binH, i64, isShift, cond_false, sameK, cond_true, intFast, intArith, if_neg (show n ≠ 0 by omega)]
    rw [Int.tmod_eq_emod_of_nonneg h0]; rfl) hn
theorem r_quop {x y : Lo} {m n : Int} {σ : HS} (hx : a.ev x = i64 m) (hy : a.ev y = i64 n) (h0 : 0 ≤ m) (hb : m < 9223372036854775808) (h1 : 0 < n) (hn : R lp fl os N (a.put dst (i64 (m / n))) σ) : R lp fl (⟨dst, .bin .quo x y, none, anc⟩ :: os) N a σ :=
  r_go (by
    show keep σ (binH .quo _ _) = _
    rw [hx, hy]
    simp only [binH, i64, isShift, cond_false, sameK, cond_true, intFast, intArith, if_neg (show n ≠ 0 by omega)]
    have e := Int.tdiv_eq_ediv_of_nonneg (b := n) h0
    have d1 : 0 ≤ m / n := Int.ediv_nonneg h0 (by omega)
    have d2 : m / n ≤ m := Int.ediv_le_self n h0
    rw [e, wrap_small _ (by omega) (by omega)]; rfl) hn
theorem r_conv {x : Lo} {k : IntKind} {m : Int} {σ : HS} (hx : a.ev x = .int k m) (h1 : -9223372036854775808 ≤ m) (h2 : m < 9223372036854775808) (hn : R lp fl os N (a.put dst (i64 m)) σ) : R lp fl (⟨dst, .convInt .i64 x, none, anc⟩ :: os) N a σ :=
  r_go (by show oConvInt .i64 x a σ = _; unfold oConvInt; rw [hx]; simp only [wrap_small _ h1 h2]) hn
end Go.Hx

namespace Go.Hx
set_option linter.unusedSimpArgs false
set_option linter.unusedVariables false
set_option maxRecDepth 20000
set_option maxHeartbeats 4000000
attribute [local irreducible] W R C thenH inBlockH
/-- One reading more. -/
def withM (n : Nat) (r : Rd) (M : Mx) : Option Mx :=
  if 0 ≤ r.hi + M r.g.toNat r.f.toNat then
    if r.g.toNat < n then
      if 0 ≤ -r.lo - 1 + limM n r.f.toNat r.g.toNat r.hi M r.f.toNat (r.g.toNat + 1) then some (limM n (r.g.toNat + 1) r.f.toNat (-r.lo - 1) (limM n r.f.toNat r.g.toNat r.hi M)) else none
    else some (limM n r.f.toNat r.g.toNat r.hi M)
  else none
theorem withM_good {n : Nat} {r : Rd} {M M' : Mx} (h : Good n M) (hr : RdOk2 n r) (hw : withM n r M = some M') : Good n M' := by
  unfold RdOk2 at hr
  unfold withM at hw
  split at hw
  · rename_i h1
    have g1 := good_lim h (f := r.f.toNat) (g := r.g.toNat) (by omega) (by omega) h1
    split at hw
    · split at hw
      · rename_i h3
        cases hw
        exact good_lim g1 (by omega) (by omega) h3
      · cases hw
    · cases hw; exact g1
  · cases hw
noncomputable def withO (t : Tb) : Option Mx → HV
  | some M => .tuple [.agg (bcells t M), .bool true]
  | none => .tuple [.agg (Zr 125), .bool false]
theorem withV_eq {t : Tb} {n : Nat} {r : Rd} {M : Mx} : withV t n r.f.toNat r.g.toNat r.lo r.hi M = withO t (withM n r M) := by
  unfold withV withM
  split
  · split
    · split <;> rfl
    · rfl
  · rfl
theorem flat_withO (t : Tb) : ∀ o : Option Mx, flatV (withO t o) = true
  | some M => by show ((bcells t M).all flat1 && (true && true)) = true; rw [bc_flat]; rfl
  | none => by show ((Zr 125).all flat1 && (true && true)) = true; rw [zr_flat]; rfl
theorem c_withM {fl : Nat} {t : Tb} {n : Nat} {r : Rd} {M : Mx} (hn : n ≤ 10) (htc : t.c = n) (hB : Good n M) (hr : RdOk2 t.c r) {h : Tr HBlk} {nx : Nat} (hd : D h nx) :
    C LW fl 96 [.agg (bcells t M), .agg r.enc] ⟨h, nx⟩ (Sc (· = withO t (withM n r M)) ⟨h, nx⟩) := by
  unfold RdOk2 at hr
  have := c_with lw96 lw100 lw88 (fl := fl) (f := r.f.toNat) (g := r.g.toNat) (lo := r.lo) (hi := r.hi) hn (by omega) (by omega) htc hB.bds (by omega) (by omega) hd
  rw [withV_eq] at this
  have e : r.enc = [i64 (r.f.toNat : Int), i64 (r.g.toNat : Int), i64 r.lo, i64 r.hi] := by
    unfold Rd.enc; rw [show (r.f.toNat : Int) = r.f by omega, show (r.g.toNat : Int) = r.g by omega]
  rw [e]; exact this
/-- The readings, one by one; those that come twice say nothing more. -/
def readGo (n : Nat) : List Rd → List Rd → Mx → Option Mx
  | _, [], M => some M
  | seen, r :: rs, M => if r ∈ seen then readGo n seen rs M else match withM n r M with
    | some M' => readGo n (seen ++ [r]) rs M'
    | none => none
/-- Which readings have come, as a map. -/
def seenL (seen : List Rd) : List (HV × HV) := seen.map fun r => (.agg r.enc, .bool true)
abbrev rdEd : ED := .row [.i .i64, .i .i64, .i .i64, .i .i64]
theorem eq_rd (r s : Rd) : eqH rdEd (.agg r.enc) (.agg s.enc) = some (decide (r = s)) := by
  obtain ⟨a, b, c, d⟩ := r
  obtain ⟨a', b', c', d'⟩ := s
  show some (a == a' && (b == b' && (c == c' && (d == d' && true)))) = _
  congr 1
  rw [Bool.eq_iff_iff]
  simp
theorem key_rd (r : Rd) : keyOk rdEd (.agg r.enc) = true := by unfold keyOk; rw [eq_rd]; rfl
theorem find_seen (r : Rd) : ∀ seen : List Rd, findH rdEd (.agg r.enc) (seenL seen) = some (if r ∈ seen then some (.bool true) else none)
  | [] => rfl
  | s :: seen => by
    show (match eqH rdEd (.agg r.enc) (.agg s.enc) with | some true => _ | some false => _ | none => _) = _
    rw [eq_rd]
    by_cases e : r = s
    · rw [decide_eq_true e, if_pos (by rw [e]; exact List.mem_cons_self ..)]
    · rw [decide_eq_false e]
      show findH rdEd (.agg r.enc) (seenL seen) = _
      rw [find_seen r seen]
      by_cases h : r ∈ seen
      · rw [if_pos h, if_pos (List.mem_cons_of_mem _ h)]
      · rw [if_neg h, if_neg (by simp [e, h])]
theorem upd_seen (r : Rd) : ∀ seen : List Rd, r ∉ seen → updH rdEd (.agg r.enc) (.bool true) (seenL seen) = some (seenL (seen ++ [r]))
  | [], _ => rfl
  | s :: seen, hn => by
    show (match eqH rdEd (.agg r.enc) (.agg s.enc) with | some true => _ | some false => _ | none => _) = _
    rw [eq_rd, decide_eq_false (fun e => hn (by rw [e]; exact List.mem_cons_self ..))]
    show (updH rdEd (.agg r.enc) (.bool true) (seenL seen)).map _ = _
    rw [upd_seen r seen (fun e => hn (List.mem_cons_of_mem _ e))]
    rfl
/-- What 'read' hands back. -/
noncomputable def readO (t : Tb) (n : Nat) (l : List Rd) : Option Mx := readGo n [] l (unrM n t)
/- 89 -/
theorem loop89 {fl : Nat} {h0 : Tr HBlk} {n0 : Nat} {Q : HExit → HAct → HS → Prop} {p : Option (Nat × Nat)} {l : List Rd} {cp bk mp rb : Nat} {t : Tb} {n : Nat} (hn : n ≤ 10) (htc : t.c = n) (hlen : l.length < 1000000) (hl : ∀ r ∈ l, RdOk2 t.c r) (hflr : fl ≤ rb) (hbn : bk < n0) (hmn : mp < n0) (hrn : rb < n0) (h1 : rb < bk) (h2 : bk < mp) (hfb : n0 ≤ n0) (hrow : Row Rd.enc 4 h0 rb p l) :
    ∀ (m i : Nat) (a : HAct) (h : Tr HBlk) (nx : Nat) (M : Mx) (seen : List Rd), m + i = l.length → n0 ≤ nx → D h nx → (∀ b, b < n0 → b ≠ bk → b ≠ mp → h.get b = h0.get b) → h.get rb = some (.cells (Zr 125) .exact) → h.get bk = some (.cells (bcells t M) .exact) → h.get mp = some (.map (seenL seen)) → Good n M →
      a.nt = 36 → a.defers = [] → a.tmp 4 = .ptr (some (rb, 0)) → a.tmp 6 = .ptr (some (bk, 0)) → a.tmp 8 = .map (some mp) → a.tmp 14 = .slice p l.length cp → a.tmp 15 = i64 l.length → a.tmp 16 = i64 i →
      (∀ a' h' n' M', n0 ≤ n' → readGo n seen (l.drop i) M = some M' → h'.get rb = some (.cells (Zr 125) .exact) → h'.get bk = some (.cells (bcells t M') .exact) → a'.nt = 36 → a'.defers = [] → a'.tmp 4 = .ptr (some (rb, 0)) → a'.tmp 6 = .ptr (some (bk, 0)) → Q .normal a' ⟨h', n'⟩) →
      (∀ a' h' n', n0 ≤ n' → readGo n seen (l.drop i) M = none → h'.get rb = some (.cells (Zr 125) .exact) → a'.nt = 36 → a'.defers = [] → a'.tmp 4 = .ptr (some (rb, 0)) → a'.tmp 5 = .bool false → Q .ret a' ⟨h', n'⟩) →
      W LW fl none (.loop L89w0) (inBlockH 0 Q) a ⟨h, nx⟩
  | 0, i, a, h, nx, M, seen, hm, hnx, hd, hs, hgr, hgb, hgm, hG, hnt, hds, h4, h6, h8, h14, h15, h16, hq, hr => by
    have hi : i = l.length := by omega
    subst hi
    refine w_it (show L89w0 = _ by unfold L89w0; exact rfl) ?_
    repeat' first
     | refine r_nil ?_
     | refine th_n ?_
     | refine th_r ?_
     | refine th_e ?_
     | refine ib_n ?_
     | refine ib_r ?_
     | refine ib_e ?_
     | refine ib_x (by decide) ?_
     | refine w_exit ?_
     | refine w_seq ?_
     | refine w_reg ?_
     | refine w_ret ?_
     | refine w_skip ?_
     | refine w_block ?_
     | refine w_t (by simp (disch:=first|decide|(simp only[zF,zG,hnt, h4, h6, h8, h14, h15, h16];decide)) only [zA,zB,zC,zD,zE,zF,zG,zH,zI,zJ,zK,HV.cells,hnt, h4, h6, h8, h14, h15, h16]; first|done|exact rfl) ?_
     | refine w_f (by simp (disch:=first|decide|(simp only[zF,zG,hnt, h4, h6, h8, h14, h15, h16];decide)) only [zA,zB,zC,zD,zE,zF,zG,zH,zI,zJ,zK,HV.cells,hnt, h4, h6, h8, h14, h15, h16]; first|done|exact rfl) ?_
     | refine r_take (by simp (disch:=first|decide|(simp only[zF,zG,hnt, h4, h6, h8, h14, h15, h16];decide)) only [zA,zB,zC,zD,zE,zF,zG,zH,zI,zJ,zK,HV.cells,hnt, h4, h6, h8, h14, h15, h16]; first|done|exact rfl) ?_
     | refine r_drop (by simp (disch:=first|decide|(simp only[zF,zG,Bool.not_true,Bool.not_false,hnt, h4, h6, h8, h14, h15, h16];decide)) only [zA,zB,zC,zD,zE,zF,zG,zH,zI,zJ,zK,HV.cells,Bool.not_true,Bool.not_false,hnt, h4, h6, h8, h14, h15, h16]; first|done|exact rfl) ?_
     | refine r_move (by simp (disch:=first|decide|(simp only[zF,zG,hnt, h4, h6, h8, h14, h15, h16];decide)) only [zA,zB,zC,zD,zE,zF,zG,zH,zI,zJ,zK,HV.cells,hnt, h4, h6, h8, h14, h15, h16]; try exact rfl) ?_
     | refine r_ldn (by simp (disch:=first|decide|(simp only[zF,zG,hnt, h4, h6, h8, h14, h15, h16];decide)) only [zA,zB,zC,zD,zE,zF,zG,zH,zI,zJ,zK,HV.cells,hnt, h4, h6, h8, h14, h15, h16]; try exact rfl) (by first|assumption|(simp (disch:=omega) only [get_same,get_other,hnt, h4, h6, h8, h14, h15, h16]; first|done|exact rfl)) (by first|assumption|rfl|(simp only [zI,zJ,HV.cells,hnt, h4, h6, h8, h14, h15, h16]; exact rfl)) ?_
     | refine r_box (by simp (disch:=first|decide|(simp only[zF,zG,hnt, h4, h6, h8, h14, h15, h16];decide)) only [zA,zB,zC,zD,zE,zF,zG,zH,zI,zJ,zK,HV.cells,hnt, h4, h6, h8, h14, h15, h16]; try exact rfl) ?_
     | refine r_alloc ?_
     | refine r_st (cs' := _) (by simp (disch:=first|decide|(simp only[zF,zG,hnt, h4, h6, h8, h14, h15, h16];decide)) only [zA,zB,zC,zD,zE,zF,zG,zH,zI,zJ,zK,HV.cells,hnt, h4, h6, h8, h14, h15, h16]; try exact rfl) (by simp (disch:=first|decide|(simp only[zF,zG,hnt, h4, h6, h8, h14, h15, h16];decide)) only [zA,zB,zC,zD,zE,zF,zG,zH,zI,zJ,zK,HV.cells,hnt, h4, h6, h8, h14, h15, h16]; try exact rfl) (by first|assumption|(simp (disch:=omega) only [get_same,get_other,hnt, h4, h6, h8, h14, h15, h16]; first|done|exact rfl)) (by exact True.intro) (by rfl) (by rfl) (by first|assumption|rfl|(simp only [zI,zJ,HV.cells,hnt, h4, h6, h8, h14, h15, h16]; exact rfl)) (by omega) ?_
     | refine r_add (by simp (disch:=first|decide|(simp only[zF,zG,hnt, h4, h6, h8, h14, h15, h16];decide)) only [zA,zB,zC,zD,zE,zF,zG,zH,zI,zJ,zK,HV.cells,hnt, h4, h6, h8, h14, h15, h16]; try exact rfl) (by simp (disch:=first|decide|(simp only[zF,zG,hnt, h4, h6, h8, h14, h15, h16];decide)) only [zA,zB,zC,zD,zE,zF,zG,zH,zI,zJ,zK,HV.cells,hnt, h4, h6, h8, h14, h15, h16]; try exact rfl) (by omega) (by omega) ?_
     | refine r_lss (by simp (disch:=first|decide|(simp only[zF,zG,hnt, h4, h6, h8, h14, h15, h16];decide)) only [zA,zB,zC,zD,zE,zF,zG,zH,zI,zJ,zK,HV.cells,hnt, h4, h6, h8, h14, h15, h16]; try exact rfl) (by simp (disch:=first|decide|(simp only[zF,zG,hnt, h4, h6, h8, h14, h15, h16];decide)) only [zA,zB,zC,zD,zE,zF,zG,zH,zI,zJ,zK,HV.cells,hnt, h4, h6, h8, h14, h15, h16]; try exact rfl) (fun hc => ?_) (fun hc => ?_) <;> (try (exfalso; omega))
     | refine r_not1 (by simp (disch:=first|decide|(simp only[zF,zG,hnt, h4, h6, h8, h14, h15, h16];decide)) only [zA,zB,zC,zD,zE,zF,zG,zH,zI,zJ,zK,HV.cells,hnt, h4, h6, h8, h14, h15, h16]; try exact rfl) ?_
     | refine r_len (by simp (disch:=first|decide|(simp only[zF,zG,hnt, h4, h6, h8, h14, h15, h16];decide)) only [zA,zB,zC,zD,zE,zF,zG,zH,zI,zJ,zK,HV.cells,hnt, h4, h6, h8, h14, h15, h16]; try exact rfl) ?_
     | refine r_ixs (by simp (disch:=first|decide|(simp only[zF,zG,hnt, h4, h6, h8, h14, h15, h16];decide)) only [zA,zB,zC,zD,zE,zF,zG,zH,zI,zJ,zK,HV.cells,hnt, h4, h6, h8, h14, h15, h16]; try exact rfl) (by simp (disch:=first|decide|(simp only[zF,zG,hnt, h4, h6, h8, h14, h15, h16];decide)) only [zA,zB,zC,zD,zE,zF,zG,zH,zI,zJ,zK,HV.cells,hnt, h4, h6, h8, h14, h15, h16]; try exact rfl) (by omega) ?_
     | refine r_ext (by simp (disch:=first|decide|(simp only[zF,zG,hnt, h4, h6, h8, h14, h15, h16];decide)) only [zA,zB,zC,zD,zE,zF,zG,zH,zI,zJ,zK,HV.cells,hnt, h4, h6, h8, h14, h15, h16]; try exact rfl) (by first|assumption|rfl|(simp only [zI,zJ,HV.cells,hnt, h4, h6, h8, h14, h15, h16]; exact rfl)) ?_
     | refine r_build (by simp (disch:=first|decide|(simp only[zF,zG,hnt, h4, h6, h8, h14, h15, h16];decide)) only [evParts,List.map_cons,List.map_nil,List.nil_append,List.cons_append,List.append_nil,zA,zB,zC,zD,zE,zF,zG,zH,zI,zJ,zK,HV.cells,hnt, h4, h6, h8, h14, h15, h16]; try exact rfl) ?_
     | refine r_mm ?_
     | fail
    refine hq _ _ _ M hnx (by rw [List.drop_of_length_le (Nat.le_refl _)]; rfl) hgr hgb ?_ ?_ ?_ ?_
    all_goals first|(simp only [zL,zM,zF,zG,hnt, hds, h4, h6];done)|(simp (disch:=first|decide|(simp only[zF,zG,hnt, hds, h4, h6];decide)) only [zA,zB,zC,zD,zE,zF,zG,zH,zI,zJ,zK,HV.cells,hnt, hds, h4, h6];first|done|exact rfl)|assumption
  | m + 1, i, a, h, nx, M, seen, hm, hnx, hd, hs, hgr, hgb, hgm, hG, hnt, hds, h4, h6, h8, h14, h15, h16, hq, hr => by
    have hi : i < l.length := by omega
    have hrow0 := hrow
    obtain ⟨b, o, cs, kk, rfl, hb, hg0, hcs⟩ := hrow (by intro e; rw [e] at hi; simp at hi)
    have hg : h.get b = some (.cells cs kk) := by rw [hs b (by omega) (by omega) (by omega)]; exact hg0
    have hy : l[i]? = some l[i] := by simp [hi]
    have e0 := hcs i _ hy
    have hdrop := List.drop_eq_getElem_cons hi
    have ow : overwrite [i64 0, i64 0, i64 0, i64 0] 0 (HV.agg l[i].enc).cells = some l[i].enc := rfl
    have tk : takeN 4 (l[i].enc.drop 0) = some l[i].enc := rfl
    have hfs := find_seen l[i] seen
    have hkey := key_rd l[i]
    refine w_it (show L89w0 = _ by unfold L89w0; exact rfl) ?_
    by_cases hin : l[i] ∈ seen
    · rw [if_pos hin] at hfs
      repeat' first
       | refine r_nil ?_
       | refine th_n ?_
       | refine th_r ?_
       | refine th_e ?_
       | refine ib_n ?_
       | refine ib_r ?_
       | refine ib_e ?_
       | refine ib_x (by decide) ?_
       | refine w_exit ?_
       | refine w_seq ?_
       | refine w_reg ?_
       | refine w_ret ?_
       | refine w_skip ?_
       | refine w_block ?_
       | refine w_t (by simp (disch:=first|decide|(simp only[zF,zG,hnt, h4, h6, h8, h14, h15, h16, hgm];decide)) only [zA,zB,zC,zD,zE,zF,zG,zH,zI,zJ,zK,HV.cells,hnt, h4, h6, h8, h14, h15, h16, hgm]; first|done|exact rfl) ?_
       | refine w_f (by simp (disch:=first|decide|(simp only[zF,zG,hnt, h4, h6, h8, h14, h15, h16, hgm];decide)) only [zA,zB,zC,zD,zE,zF,zG,zH,zI,zJ,zK,HV.cells,hnt, h4, h6, h8, h14, h15, h16, hgm]; first|done|exact rfl) ?_
       | refine r_take (by simp (disch:=first|decide|(simp only[zF,zG,hnt, h4, h6, h8, h14, h15, h16, hgm];decide)) only [zA,zB,zC,zD,zE,zF,zG,zH,zI,zJ,zK,HV.cells,hnt, h4, h6, h8, h14, h15, h16, hgm]; first|done|exact rfl) ?_
       | refine r_drop (by simp (disch:=first|decide|(simp only[zF,zG,Bool.not_true,Bool.not_false,hnt, h4, h6, h8, h14, h15, h16, hgm];decide)) only [zA,zB,zC,zD,zE,zF,zG,zH,zI,zJ,zK,HV.cells,Bool.not_true,Bool.not_false,hnt, h4, h6, h8, h14, h15, h16, hgm]; first|done|exact rfl) ?_
       | refine r_move (by simp (disch:=first|decide|(simp only[zF,zG,hnt, h4, h6, h8, h14, h15, h16, hgm];decide)) only [zA,zB,zC,zD,zE,zF,zG,zH,zI,zJ,zK,HV.cells,hnt, h4, h6, h8, h14, h15, h16, hgm]; try exact rfl) ?_
       | refine r_ldn (by simp (disch:=first|decide|(simp only[zF,zG,hnt, h4, h6, h8, h14, h15, h16, hgm];decide)) only [zA,zB,zC,zD,zE,zF,zG,zH,zI,zJ,zK,HV.cells,hnt, h4, h6, h8, h14, h15, h16, hgm]; try exact rfl) (by first|assumption|(simp (disch:=omega) only [get_same,get_other,hnt, h4, h6, h8, h14, h15, h16, hgm]; first|done|exact rfl)) (by first|assumption|rfl|(simp only [zI,zJ,HV.cells,hnt, h4, h6, h8, h14, h15, h16, hgm]; exact rfl)) ?_
       | refine r_box (by simp (disch:=first|decide|(simp only[zF,zG,hnt, h4, h6, h8, h14, h15, h16, hgm];decide)) only [zA,zB,zC,zD,zE,zF,zG,zH,zI,zJ,zK,HV.cells,hnt, h4, h6, h8, h14, h15, h16, hgm]; try exact rfl) ?_
       | refine r_alloc ?_
       | refine r_st (cs' := _) (by simp (disch:=first|decide|(simp only[zF,zG,hnt, h4, h6, h8, h14, h15, h16, hgm];decide)) only [zA,zB,zC,zD,zE,zF,zG,zH,zI,zJ,zK,HV.cells,hnt, h4, h6, h8, h14, h15, h16, hgm]; try exact rfl) (by simp (disch:=first|decide|(simp only[zF,zG,hnt, h4, h6, h8, h14, h15, h16, hgm];decide)) only [zA,zB,zC,zD,zE,zF,zG,zH,zI,zJ,zK,HV.cells,hnt, h4, h6, h8, h14, h15, h16, hgm]; try exact rfl) (by first|assumption|(simp (disch:=omega) only [get_same,get_other,hnt, h4, h6, h8, h14, h15, h16, hgm]; first|done|exact rfl)) (by exact True.intro) (by rfl) (by rfl) (by first|assumption|rfl|(simp only [zI,zJ,HV.cells,hnt, h4, h6, h8, h14, h15, h16, hgm]; exact rfl)) (by omega) ?_
       | refine r_add (by simp (disch:=first|decide|(simp only[zF,zG,hnt, h4, h6, h8, h14, h15, h16, hgm];decide)) only [zA,zB,zC,zD,zE,zF,zG,zH,zI,zJ,zK,HV.cells,hnt, h4, h6, h8, h14, h15, h16, hgm]; try exact rfl) (by simp (disch:=first|decide|(simp only[zF,zG,hnt, h4, h6, h8, h14, h15, h16, hgm];decide)) only [zA,zB,zC,zD,zE,zF,zG,zH,zI,zJ,zK,HV.cells,hnt, h4, h6, h8, h14, h15, h16, hgm]; try exact rfl) (by omega) (by omega) ?_
       | refine r_lss (by simp (disch:=first|decide|(simp only[zF,zG,hnt, h4, h6, h8, h14, h15, h16, hgm];decide)) only [zA,zB,zC,zD,zE,zF,zG,zH,zI,zJ,zK,HV.cells,hnt, h4, h6, h8, h14, h15, h16, hgm]; try exact rfl) (by simp (disch:=first|decide|(simp only[zF,zG,hnt, h4, h6, h8, h14, h15, h16, hgm];decide)) only [zA,zB,zC,zD,zE,zF,zG,zH,zI,zJ,zK,HV.cells,hnt, h4, h6, h8, h14, h15, h16, hgm]; try exact rfl) (fun hc => ?_) (fun hc => ?_) <;> (try (exfalso; omega))
       | refine r_not1 (by simp (disch:=first|decide|(simp only[zF,zG,hnt, h4, h6, h8, h14, h15, h16, hgm];decide)) only [zA,zB,zC,zD,zE,zF,zG,zH,zI,zJ,zK,HV.cells,hnt, h4, h6, h8, h14, h15, h16, hgm]; try exact rfl) ?_
       | refine r_len (by simp (disch:=first|decide|(simp only[zF,zG,hnt, h4, h6, h8, h14, h15, h16, hgm];decide)) only [zA,zB,zC,zD,zE,zF,zG,zH,zI,zJ,zK,HV.cells,hnt, h4, h6, h8, h14, h15, h16, hgm]; try exact rfl) ?_
       | refine r_ixs (by simp (disch:=first|decide|(simp only[zF,zG,hnt, h4, h6, h8, h14, h15, h16, hgm];decide)) only [zA,zB,zC,zD,zE,zF,zG,zH,zI,zJ,zK,HV.cells,hnt, h4, h6, h8, h14, h15, h16, hgm]; try exact rfl) (by simp (disch:=first|decide|(simp only[zF,zG,hnt, h4, h6, h8, h14, h15, h16, hgm];decide)) only [zA,zB,zC,zD,zE,zF,zG,zH,zI,zJ,zK,HV.cells,hnt, h4, h6, h8, h14, h15, h16, hgm]; try exact rfl) (by omega) ?_
       | refine r_ext (by simp (disch:=first|decide|(simp only[zF,zG,hnt, h4, h6, h8, h14, h15, h16, hgm];decide)) only [zA,zB,zC,zD,zE,zF,zG,zH,zI,zJ,zK,HV.cells,hnt, h4, h6, h8, h14, h15, h16, hgm]; try exact rfl) (by first|assumption|rfl|(simp only [zI,zJ,HV.cells,hnt, h4, h6, h8, h14, h15, h16, hgm]; exact rfl)) ?_
       | refine r_build (by simp (disch:=first|decide|(simp only[zF,zG,hnt, h4, h6, h8, h14, h15, h16, hgm];decide)) only [evParts,List.map_cons,List.map_nil,List.nil_append,List.cons_append,List.append_nil,zA,zB,zC,zD,zE,zF,zG,zH,zI,zJ,zK,HV.cells,hnt, h4, h6, h8, h14, h15, h16, hgm]; try exact rfl) ?_
       | refine r_mm ?_
       | refine r_lku (o := some (.bool true)) (kv := .agg l[i].enc) (r := mp) (es := seenL seen) (by simp (disch:=first|decide|(simp only[zF,zG,hnt, h4, h6, h8, h14, h15, h16, hgm];decide)) only [zA,zB,zC,zD,zE,zF,zG,zH,zI,zJ,zK,HV.cells,hnt, h4, h6, h8, h14, h15, h16, hgm]; try exact rfl) (by simp (disch:=first|decide|(simp only[zF,zG,hnt, h4, h6, h8, h14, h15, h16, hgm];decide)) only [zA,zB,zC,zD,zE,zF,zG,zH,zI,zJ,zK,HV.cells,hnt, h4, h6, h8, h14, h15, h16, hgm]; try exact rfl) hkey (by first|assumption|(simp (disch:=omega) only [get_same,get_other,hnt, h4, h6, h8, h14, h15, h16, hgm]; first|done|exact rfl)) hfs ?_
       | fail
      have e5 : readGo n seen (l.drop i) M = readGo n seen (l.drop (i + 1)) M := by rw [hdrop]; show (if _ then _ else _) = _; rw [if_pos hin]
      refine loop89 (cp := cp) (bk := bk) (mp := mp) (rb := rb) (t := t) hn htc hlen hl hflr hbn hmn hrn h1 h2 hfb hrow0 m (i + 1) _ _ (nx + 1) M seen (by omega) (by omega) (by repeat' first|assumption|refine D.upd ?_ (by omega)|exact D.mono (by assumption) (by omega)) (fun b hb hb1 hb2 => ?_) (by first|assumption|(simp (disch:=omega) only [get_same,get_other,hgr]; first|done|exact rfl)) (by first|assumption|(simp (disch:=omega) only [get_same,get_other,hgb]; first|done|exact rfl)) (by first|assumption|(simp (disch:=omega) only [get_same,get_other,hgm]; first|done|exact rfl)) hG ?_ ?_ ?_ ?_ ?_ ?_ ?_ ?_ (fun a' h' n' M' g0 g1 => hq a' h' n' M' g0 (by rw [e5]; exact g1)) (fun a' h' n' g0 g1 => hr a' h' n' g0 (by rw [e5]; exact g1))
      all_goals try first|(simp only [zL,zM,zF,zG,hnt, hds, h4, h6, h8, h14, h15, h16];done)|(simp (disch:=first|decide|(simp only[zF,zG,hnt, hds, h4, h6, h8, h14, h15, h16];decide)) only [zA,zB,zC,zD,zE,zF,zG,zH,zI,zJ,zK,HV.cells,hnt, hds, h4, h6, h8, h14, h15, h16];first|done|exact rfl)|assumption
      rw [get_other _ _ (by omega), get_other _ _ (by omega)]; exact hs b hb hb1 hb2
    · rw [if_neg hin] at hfs
      have hus := upd_seen l[i] seen hin
      have hmo : mp ≠ nx := by omega
      have e5 : readGo n seen (l.drop i) M = (match withM n l[i] M with | some M' => readGo n (seen ++ [l[i]]) (l.drop (i + 1)) M' | none => none) := by rw [hdrop]; show (if _ then _ else _) = _; rw [if_neg hin]
      have tkb := take_bc t M
      have ow2 : overwrite (Zr 125) 0 (HV.agg (Zr 125)).cells = some (Zr 125) := ow_all _ _ rfl
      cases hW : withM n l[i] M with
      | none =>
        rw [hW] at e5
        have cW : ∀ fl h' n', D h' n' → C LW fl 96 [.agg (bcells t M), .agg l[i].enc] ⟨h', n'⟩ (Sc (· = .tuple [.agg (Zr 125), .bool false]) ⟨h', n'⟩) := fun fl h' n' hd' => by
          have := c_withM (fl := fl) (M := M) hn htc hG (hl _ (List.getElem_mem hi)) hd'
          rw [hW] at this; exact this
        have ow1 : overwrite (bcells t M) 0 (HV.agg (Zr 125)).cells = some (Zr 125) := ow_all _ _ (by show (bcells t M).length = (Zr 125).length; rw [bc_len, zr_len])
        repeat' first
         | refine r_nil ?_
         | refine th_n ?_
         | refine th_r ?_
         | refine th_e ?_
         | refine ib_n ?_
         | refine ib_r ?_
         | refine ib_e ?_
         | refine ib_x (by decide) ?_
         | refine w_exit ?_
         | refine w_seq ?_
         | refine w_reg ?_
         | refine w_ret ?_
         | refine w_skip ?_
         | refine w_block ?_
         | refine w_t (by simp (disch:=first|decide|(simp only[zF,zG,hnt, h4, h6, h8, h14, h15, h16, hgm, hgb, hgr];decide)) only [zA,zB,zC,zD,zE,zF,zG,zH,zI,zJ,zK,HV.cells,hnt, h4, h6, h8, h14, h15, h16, hgm, hgb, hgr]; first|done|exact rfl) ?_
         | refine w_f (by simp (disch:=first|decide|(simp only[zF,zG,hnt, h4, h6, h8, h14, h15, h16, hgm, hgb, hgr];decide)) only [zA,zB,zC,zD,zE,zF,zG,zH,zI,zJ,zK,HV.cells,hnt, h4, h6, h8, h14, h15, h16, hgm, hgb, hgr]; first|done|exact rfl) ?_
         | refine r_take (by simp (disch:=first|decide|(simp only[zF,zG,hnt, h4, h6, h8, h14, h15, h16, hgm, hgb, hgr];decide)) only [zA,zB,zC,zD,zE,zF,zG,zH,zI,zJ,zK,HV.cells,hnt, h4, h6, h8, h14, h15, h16, hgm, hgb, hgr]; first|done|exact rfl) ?_
         | refine r_drop (by simp (disch:=first|decide|(simp only[zF,zG,Bool.not_true,Bool.not_false,hnt, h4, h6, h8, h14, h15, h16, hgm, hgb, hgr];decide)) only [zA,zB,zC,zD,zE,zF,zG,zH,zI,zJ,zK,HV.cells,Bool.not_true,Bool.not_false,hnt, h4, h6, h8, h14, h15, h16, hgm, hgb, hgr]; first|done|exact rfl) ?_
         | refine r_move (by simp (disch:=first|decide|(simp only[zF,zG,hnt, h4, h6, h8, h14, h15, h16, hgm, hgb, hgr];decide)) only [zA,zB,zC,zD,zE,zF,zG,zH,zI,zJ,zK,HV.cells,hnt, h4, h6, h8, h14, h15, h16, hgm, hgb, hgr]; try exact rfl) ?_
         | refine r_ldn (by simp (disch:=first|decide|(simp only[zF,zG,hnt, h4, h6, h8, h14, h15, h16, hgm, hgb, hgr];decide)) only [zA,zB,zC,zD,zE,zF,zG,zH,zI,zJ,zK,HV.cells,hnt, h4, h6, h8, h14, h15, h16, hgm, hgb, hgr]; try exact rfl) (by first|assumption|(simp (disch:=omega) only [get_same,get_other,hnt, h4, h6, h8, h14, h15, h16, hgm, hgb, hgr]; first|done|exact rfl)) (by first|assumption|rfl|(simp only [zI,zJ,HV.cells,hnt, h4, h6, h8, h14, h15, h16, hgm, hgb, hgr]; exact rfl)) ?_
         | refine r_box (by simp (disch:=first|decide|(simp only[zF,zG,hnt, h4, h6, h8, h14, h15, h16, hgm, hgb, hgr];decide)) only [zA,zB,zC,zD,zE,zF,zG,zH,zI,zJ,zK,HV.cells,hnt, h4, h6, h8, h14, h15, h16, hgm, hgb, hgr]; try exact rfl) ?_
         | refine r_alloc ?_
         | refine r_st (cs' := _) (by simp (disch:=first|decide|(simp only[zF,zG,hnt, h4, h6, h8, h14, h15, h16, hgm, hgb, hgr];decide)) only [zA,zB,zC,zD,zE,zF,zG,zH,zI,zJ,zK,HV.cells,hnt, h4, h6, h8, h14, h15, h16, hgm, hgb, hgr]; try exact rfl) (by simp (disch:=first|decide|(simp only[zF,zG,hnt, h4, h6, h8, h14, h15, h16, hgm, hgb, hgr];decide)) only [zA,zB,zC,zD,zE,zF,zG,zH,zI,zJ,zK,HV.cells,hnt, h4, h6, h8, h14, h15, h16, hgm, hgb, hgr]; try exact rfl) (by first|assumption|(simp (disch:=omega) only [get_same,get_other,hnt, h4, h6, h8, h14, h15, h16, hgm, hgb, hgr]; first|done|exact rfl)) (by exact True.intro) (by rfl) (by rfl) (by first|assumption|rfl|(simp only [zI,zJ,HV.cells,hnt, h4, h6, h8, h14, h15, h16, hgm, hgb, hgr]; exact rfl)) (by omega) ?_
         | refine r_add (by simp (disch:=first|decide|(simp only[zF,zG,hnt, h4, h6, h8, h14, h15, h16, hgm, hgb, hgr];decide)) only [zA,zB,zC,zD,zE,zF,zG,zH,zI,zJ,zK,HV.cells,hnt, h4, h6, h8, h14, h15, h16, hgm, hgb, hgr]; try exact rfl) (by simp (disch:=first|decide|(simp only[zF,zG,hnt, h4, h6, h8, h14, h15, h16, hgm, hgb, hgr];decide)) only [zA,zB,zC,zD,zE,zF,zG,zH,zI,zJ,zK,HV.cells,hnt, h4, h6, h8, h14, h15, h16, hgm, hgb, hgr]; try exact rfl) (by omega) (by omega) ?_
         | refine r_lss (by simp (disch:=first|decide|(simp only[zF,zG,hnt, h4, h6, h8, h14, h15, h16, hgm, hgb, hgr];decide)) only [zA,zB,zC,zD,zE,zF,zG,zH,zI,zJ,zK,HV.cells,hnt, h4, h6, h8, h14, h15, h16, hgm, hgb, hgr]; try exact rfl) (by simp (disch:=first|decide|(simp only[zF,zG,hnt, h4, h6, h8, h14, h15, h16, hgm, hgb, hgr];decide)) only [zA,zB,zC,zD,zE,zF,zG,zH,zI,zJ,zK,HV.cells,hnt, h4, h6, h8, h14, h15, h16, hgm, hgb, hgr]; try exact rfl) (fun hc => ?_) (fun hc => ?_) <;> (try (exfalso; omega))
         | refine r_not1 (by simp (disch:=first|decide|(simp only[zF,zG,hnt, h4, h6, h8, h14, h15, h16, hgm, hgb, hgr];decide)) only [zA,zB,zC,zD,zE,zF,zG,zH,zI,zJ,zK,HV.cells,hnt, h4, h6, h8, h14, h15, h16, hgm, hgb, hgr]; try exact rfl) ?_
         | refine r_len (by simp (disch:=first|decide|(simp only[zF,zG,hnt, h4, h6, h8, h14, h15, h16, hgm, hgb, hgr];decide)) only [zA,zB,zC,zD,zE,zF,zG,zH,zI,zJ,zK,HV.cells,hnt, h4, h6, h8, h14, h15, h16, hgm, hgb, hgr]; try exact rfl) ?_
         | refine r_ixs (by simp (disch:=first|decide|(simp only[zF,zG,hnt, h4, h6, h8, h14, h15, h16, hgm, hgb, hgr];decide)) only [zA,zB,zC,zD,zE,zF,zG,zH,zI,zJ,zK,HV.cells,hnt, h4, h6, h8, h14, h15, h16, hgm, hgb, hgr]; try exact rfl) (by simp (disch:=first|decide|(simp only[zF,zG,hnt, h4, h6, h8, h14, h15, h16, hgm, hgb, hgr];decide)) only [zA,zB,zC,zD,zE,zF,zG,zH,zI,zJ,zK,HV.cells,hnt, h4, h6, h8, h14, h15, h16, hgm, hgb, hgr]; try exact rfl) (by omega) ?_
         | refine r_ext (by simp (disch:=first|decide|(simp only[zF,zG,hnt, h4, h6, h8, h14, h15, h16, hgm, hgb, hgr];decide)) only [zA,zB,zC,zD,zE,zF,zG,zH,zI,zJ,zK,HV.cells,hnt, h4, h6, h8, h14, h15, h16, hgm, hgb, hgr]; try exact rfl) (by first|assumption|rfl|(simp only [zI,zJ,HV.cells,hnt, h4, h6, h8, h14, h15, h16, hgm, hgb, hgr]; exact rfl)) ?_
         | refine r_build (by simp (disch:=first|decide|(simp only[zF,zG,hnt, h4, h6, h8, h14, h15, h16, hgm, hgb, hgr];decide)) only [evParts,List.map_cons,List.map_nil,List.nil_append,List.cons_append,List.append_nil,zA,zB,zC,zD,zE,zF,zG,zH,zI,zJ,zK,HV.cells,hnt, h4, h6, h8, h14, h15, h16, hgm, hgb, hgr]; try exact rfl) ?_
         | refine r_mm ?_
         | refine r_lku (o := none) (kv := .agg l[i].enc) (r := mp) (es := seenL seen) (by simp (disch:=first|decide|(simp only[zF,zG,hnt, h4, h6, h8, h14, h15, h16, hgm, hgb, hgr];decide)) only [zA,zB,zC,zD,zE,zF,zG,zH,zI,zJ,zK,HV.cells,hnt, h4, h6, h8, h14, h15, h16, hgm, hgb, hgr]; try exact rfl) (by simp (disch:=first|decide|(simp only[zF,zG,hnt, h4, h6, h8, h14, h15, h16, hgm, hgb, hgr];decide)) only [zA,zB,zC,zD,zE,zF,zG,zH,zI,zJ,zK,HV.cells,hnt, h4, h6, h8, h14, h15, h16, hgm, hgb, hgr]; try exact rfl) hkey (by first|assumption|(simp (disch:=omega) only [get_same,get_other,hnt, h4, h6, h8, h14, h15, h16, hgm, hgb, hgr]; first|done|exact rfl)) hfs ?_
         | refine r_mup (kv := .agg l[i].enc) (vv := .bool true) (r := mp) (es := seenL seen) (by simp (disch:=first|decide|(simp only[zF,zG,hnt, h4, h6, h8, h14, h15, h16, hgm, hgb, hgr];decide)) only [zA,zB,zC,zD,zE,zF,zG,zH,zI,zJ,zK,HV.cells,hnt, h4, h6, h8, h14, h15, h16, hgm, hgb, hgr]; try exact rfl) (by simp (disch:=first|decide|(simp only[zF,zG,hnt, h4, h6, h8, h14, h15, h16, hgm, hgb, hgr];decide)) only [zA,zB,zC,zD,zE,zF,zG,zH,zI,zJ,zK,HV.cells,hnt, h4, h6, h8, h14, h15, h16, hgm, hgb, hgr]; try exact rfl) (by simp (disch:=first|decide|(simp only[zF,zG,hnt, h4, h6, h8, h14, h15, h16, hgm, hgb, hgr];decide)) only [zA,zB,zC,zD,zE,zF,zG,zH,zI,zJ,zK,HV.cells,hnt, h4, h6, h8, h14, h15, h16, hgm, hgb, hgr]; try exact rfl) hkey (by first|assumption|(simp (disch:=omega) only [get_same,get_other,hnt, h4, h6, h8, h14, h15, h16, hgm, hgb, hgr]; first|done|exact rfl)) (by omega) hus ?_
         | refine r_calls (by simp (disch:=first|decide|(simp only[zF,zG,hnt, h4, h6, h8, h14, h15, h16, hgm, hgb, hgr];decide)) only [zA,zB,zC,zD,zE,zF,zG,zH,zI,zJ,zK,HV.cells,hnt, h4, h6, h8, h14, h15, h16, hgm, hgb, hgr]; try exact rfl) (by simp (disch:=first|decide|(simp only[zF,zG,hnt, h4, h6, h8, h14, h15, h16, hgm, hgb, hgr];decide)) only [List.map_cons,List.map_nil,List.nil_append,List.cons_append,List.append_nil,zA,zB,zC,zD,zE,zF,zG,zH,zI,zJ,zK,HV.cells,hnt, h4, h6, h8, h14, h15, h16, hgm, hgb, hgr]; try exact rfl) (cW _ _ _ (by repeat' first|assumption|refine D.upd ?_ (by omega)|exact D.mono (by assumption) (by omega))) (fun n' hn' => ?_)
         | fail
        refine hr _ _ n' (by omega) e5 (get_same _ _ _) ?_ ?_ ?_ ?_
        all_goals first|(simp only [zL,zM,zF,zG,hnt, hds, h4];done)|(simp (disch:=first|decide|(simp only[zF,zG,hnt, hds, h4];decide)) only [zA,zB,zC,zD,zE,zF,zG,zH,zI,zJ,zK,HV.cells,hnt, hds, h4];first|done|exact rfl)|assumption
      | some M1 =>
        rw [hW] at e5
        have cW : ∀ fl h' n', D h' n' → C LW fl 96 [.agg (bcells t M), .agg l[i].enc] ⟨h', n'⟩ (Sc (· = .tuple [.agg (bcells t M1), .bool true]) ⟨h', n'⟩) := fun fl h' n' hd' => by
          have := c_withM (fl := fl) (M := M) hn htc hG (hl _ (List.getElem_mem hi)) hd'
          rw [hW] at this; exact this
        have ow1 : overwrite (bcells t M) 0 (HV.agg (bcells t M1)).cells = some (bcells t M1) := ow_all _ _ (by show (bcells t M).length = (bcells t M1).length; rw [bc_len, bc_len])
        have hr1 := hl _ (List.getElem_mem hi)
        rw [htc] at hr1
        have hG1 := withM_good hG hr1 hW
        repeat' first
         | refine r_nil ?_
         | refine th_n ?_
         | refine th_r ?_
         | refine th_e ?_
         | refine ib_n ?_
         | refine ib_r ?_
         | refine ib_e ?_
         | refine ib_x (by decide) ?_
         | refine w_exit ?_
         | refine w_seq ?_
         | refine w_reg ?_
         | refine w_ret ?_
         | refine w_skip ?_
         | refine w_block ?_
         | refine w_t (by simp (disch:=first|decide|(simp only[zF,zG,hnt, h4, h6, h8, h14, h15, h16, hgm, hgb, hgr];decide)) only [zA,zB,zC,zD,zE,zF,zG,zH,zI,zJ,zK,HV.cells,hnt, h4, h6, h8, h14, h15, h16, hgm, hgb, hgr]; first|done|exact rfl) ?_
         | refine w_f (by simp (disch:=first|decide|(simp only[zF,zG,hnt, h4, h6, h8, h14, h15, h16, hgm, hgb, hgr];decide)) only [zA,zB,zC,zD,zE,zF,zG,zH,zI,zJ,zK,HV.cells,hnt, h4, h6, h8, h14, h15, h16, hgm, hgb, hgr]; first|done|exact rfl) ?_
         | refine r_take (by simp (disch:=first|decide|(simp only[zF,zG,hnt, h4, h6, h8, h14, h15, h16, hgm, hgb, hgr];decide)) only [zA,zB,zC,zD,zE,zF,zG,zH,zI,zJ,zK,HV.cells,hnt, h4, h6, h8, h14, h15, h16, hgm, hgb, hgr]; first|done|exact rfl) ?_
         | refine r_drop (by simp (disch:=first|decide|(simp only[zF,zG,Bool.not_true,Bool.not_false,hnt, h4, h6, h8, h14, h15, h16, hgm, hgb, hgr];decide)) only [zA,zB,zC,zD,zE,zF,zG,zH,zI,zJ,zK,HV.cells,Bool.not_true,Bool.not_false,hnt, h4, h6, h8, h14, h15, h16, hgm, hgb, hgr]; first|done|exact rfl) ?_
         | refine r_move (by simp (disch:=first|decide|(simp only[zF,zG,hnt, h4, h6, h8, h14, h15, h16, hgm, hgb, hgr];decide)) only [zA,zB,zC,zD,zE,zF,zG,zH,zI,zJ,zK,HV.cells,hnt, h4, h6, h8, h14, h15, h16, hgm, hgb, hgr]; try exact rfl) ?_
         | refine r_ldn (by simp (disch:=first|decide|(simp only[zF,zG,hnt, h4, h6, h8, h14, h15, h16, hgm, hgb, hgr];decide)) only [zA,zB,zC,zD,zE,zF,zG,zH,zI,zJ,zK,HV.cells,hnt, h4, h6, h8, h14, h15, h16, hgm, hgb, hgr]; try exact rfl) (by first|assumption|(simp (disch:=omega) only [get_same,get_other,hnt, h4, h6, h8, h14, h15, h16, hgm, hgb, hgr]; first|done|exact rfl)) (by first|assumption|rfl|(simp only [zI,zJ,HV.cells,hnt, h4, h6, h8, h14, h15, h16, hgm, hgb, hgr]; exact rfl)) ?_
         | refine r_box (by simp (disch:=first|decide|(simp only[zF,zG,hnt, h4, h6, h8, h14, h15, h16, hgm, hgb, hgr];decide)) only [zA,zB,zC,zD,zE,zF,zG,zH,zI,zJ,zK,HV.cells,hnt, h4, h6, h8, h14, h15, h16, hgm, hgb, hgr]; try exact rfl) ?_
         | refine r_alloc ?_
         | refine r_st (cs' := _) (by simp (disch:=first|decide|(simp only[zF,zG,hnt, h4, h6, h8, h14, h15, h16, hgm, hgb, hgr];decide)) only [zA,zB,zC,zD,zE,zF,zG,zH,zI,zJ,zK,HV.cells,hnt, h4, h6, h8, h14, h15, h16, hgm, hgb, hgr]; try exact rfl) (by simp (disch:=first|decide|(simp only[zF,zG,hnt, h4, h6, h8, h14, h15, h16, hgm, hgb, hgr];decide)) only [zA,zB,zC,zD,zE,zF,zG,zH,zI,zJ,zK,HV.cells,hnt, h4, h6, h8, h14, h15, h16, hgm, hgb, hgr]; try exact rfl) (by first|assumption|(simp (disch:=omega) only [get_same,get_other,hnt, h4, h6, h8, h14, h15, h16, hgm, hgb, hgr]; first|done|exact rfl)) (by exact True.intro) (by rfl) (by rfl) (by first|assumption|rfl|(simp only [zI,zJ,HV.cells,hnt, h4, h6, h8, h14, h15, h16, hgm, hgb, hgr]; exact rfl)) (by omega) ?_
         | refine r_add (by simp (disch:=first|decide|(simp only[zF,zG,hnt, h4, h6, h8, h14, h15, h16, hgm, hgb, hgr];decide)) only [zA,zB,zC,zD,zE,zF,zG,zH,zI,zJ,zK,HV.cells,hnt, h4, h6, h8, h14, h15, h16, hgm, hgb, hgr]; try exact rfl) (by simp (disch:=first|decide|(simp only[zF,zG,hnt, h4, h6, h8, h14, h15, h16, hgm, hgb, hgr];decide)) only [zA,zB,zC,zD,zE,zF,zG,zH,zI,zJ,zK,HV.cells,hnt, h4, h6, h8, h14, h15, h16, hgm, hgb, hgr]; try exact rfl) (by omega) (by omega) ?_
         | refine r_lss (by simp (disch:=first|decide|(simp only[zF,zG,hnt, h4, h6, h8, h14, h15, h16, hgm, hgb, hgr];decide)) only [zA,zB,zC,zD,zE,zF,zG,zH,zI,zJ,zK,HV.cells,hnt, h4, h6, h8, h14, h15, h16, hgm, hgb, hgr]; try exact rfl) (by simp (disch:=first|decide|(simp only[zF,zG,hnt, h4, h6, h8, h14, h15, h16, hgm, hgb, hgr];decide)) only [zA,zB,zC,zD,zE,zF,zG,zH,zI,zJ,zK,HV.cells,hnt, h4, h6, h8, h14, h15, h16, hgm, hgb, hgr]; try exact rfl) (fun hc => ?_) (fun hc => ?_) <;> (try (exfalso; omega))
         | refine r_not1 (by simp (disch:=first|decide|(simp only[zF,zG,hnt, h4, h6, h8, h14, h15, h16, hgm, hgb, hgr];decide)) only [zA,zB,zC,zD,zE,zF,zG,zH,zI,zJ,zK,HV.cells,hnt, h4, h6, h8, h14, h15, h16, hgm, hgb, hgr]; try exact rfl) ?_
         | refine r_len (by simp (disch:=first|decide|(simp only[zF,zG,hnt, h4, h6, h8, h14, h15, h16, hgm, hgb, hgr];decide)) only [zA,zB,zC,zD,zE,zF,zG,zH,zI,zJ,zK,HV.cells,hnt, h4, h6, h8, h14, h15, h16, hgm, hgb, hgr]; try exact rfl) ?_
         | refine r_ixs (by simp (disch:=first|decide|(simp only[zF,zG,hnt, h4, h6, h8, h14, h15, h16, hgm, hgb, hgr];decide)) only [zA,zB,zC,zD,zE,zF,zG,zH,zI,zJ,zK,HV.cells,hnt, h4, h6, h8, h14, h15, h16, hgm, hgb, hgr]; try exact rfl) (by simp (disch:=first|decide|(simp only[zF,zG,hnt, h4, h6, h8, h14, h15, h16, hgm, hgb, hgr];decide)) only [zA,zB,zC,zD,zE,zF,zG,zH,zI,zJ,zK,HV.cells,hnt, h4, h6, h8, h14, h15, h16, hgm, hgb, hgr]; try exact rfl) (by omega) ?_
         | refine r_ext (by simp (disch:=first|decide|(simp only[zF,zG,hnt, h4, h6, h8, h14, h15, h16, hgm, hgb, hgr];decide)) only [zA,zB,zC,zD,zE,zF,zG,zH,zI,zJ,zK,HV.cells,hnt, h4, h6, h8, h14, h15, h16, hgm, hgb, hgr]; try exact rfl) (by first|assumption|rfl|(simp only [zI,zJ,HV.cells,hnt, h4, h6, h8, h14, h15, h16, hgm, hgb, hgr]; exact rfl)) ?_
         | refine r_build (by simp (disch:=first|decide|(simp only[zF,zG,hnt, h4, h6, h8, h14, h15, h16, hgm, hgb, hgr];decide)) only [evParts,List.map_cons,List.map_nil,List.nil_append,List.cons_append,List.append_nil,zA,zB,zC,zD,zE,zF,zG,zH,zI,zJ,zK,HV.cells,hnt, h4, h6, h8, h14, h15, h16, hgm, hgb, hgr]; try exact rfl) ?_
         | refine r_mm ?_
         | refine r_lku (o := none) (kv := .agg l[i].enc) (r := mp) (es := seenL seen) (by simp (disch:=first|decide|(simp only[zF,zG,hnt, h4, h6, h8, h14, h15, h16, hgm, hgb, hgr];decide)) only [zA,zB,zC,zD,zE,zF,zG,zH,zI,zJ,zK,HV.cells,hnt, h4, h6, h8, h14, h15, h16, hgm, hgb, hgr]; try exact rfl) (by simp (disch:=first|decide|(simp only[zF,zG,hnt, h4, h6, h8, h14, h15, h16, hgm, hgb, hgr];decide)) only [zA,zB,zC,zD,zE,zF,zG,zH,zI,zJ,zK,HV.cells,hnt, h4, h6, h8, h14, h15, h16, hgm, hgb, hgr]; try exact rfl) hkey (by first|assumption|(simp (disch:=omega) only [get_same,get_other,hnt, h4, h6, h8, h14, h15, h16, hgm, hgb, hgr]; first|done|exact rfl)) hfs ?_
         | refine r_mup (kv := .agg l[i].enc) (vv := .bool true) (r := mp) (es := seenL seen) (by simp (disch:=first|decide|(simp only[zF,zG,hnt, h4, h6, h8, h14, h15, h16, hgm, hgb, hgr];decide)) only [zA,zB,zC,zD,zE,zF,zG,zH,zI,zJ,zK,HV.cells,hnt, h4, h6, h8, h14, h15, h16, hgm, hgb, hgr]; try exact rfl) (by simp (disch:=first|decide|(simp only[zF,zG,hnt, h4, h6, h8, h14, h15, h16, hgm, hgb, hgr];decide)) only [zA,zB,zC,zD,zE,zF,zG,zH,zI,zJ,zK,HV.cells,hnt, h4, h6, h8, h14, h15, h16, hgm, hgb, hgr]; try exact rfl) (by simp (disch:=first|decide|(simp only[zF,zG,hnt, h4, h6, h8, h14, h15, h16, hgm, hgb, hgr];decide)) only [zA,zB,zC,zD,zE,zF,zG,zH,zI,zJ,zK,HV.cells,hnt, h4, h6, h8, h14, h15, h16, hgm, hgb, hgr]; try exact rfl) hkey (by first|assumption|(simp (disch:=omega) only [get_same,get_other,hnt, h4, h6, h8, h14, h15, h16, hgm, hgb, hgr]; first|done|exact rfl)) (by omega) hus ?_
         | refine r_calls (by simp (disch:=first|decide|(simp only[zF,zG,hnt, h4, h6, h8, h14, h15, h16, hgm, hgb, hgr];decide)) only [zA,zB,zC,zD,zE,zF,zG,zH,zI,zJ,zK,HV.cells,hnt, h4, h6, h8, h14, h15, h16, hgm, hgb, hgr]; try exact rfl) (by simp (disch:=first|decide|(simp only[zF,zG,hnt, h4, h6, h8, h14, h15, h16, hgm, hgb, hgr];decide)) only [List.map_cons,List.map_nil,List.nil_append,List.cons_append,List.append_nil,zA,zB,zC,zD,zE,zF,zG,zH,zI,zJ,zK,HV.cells,hnt, h4, h6, h8, h14, h15, h16, hgm, hgb, hgr]; try exact rfl) (cW _ _ _ (by repeat' first|assumption|refine D.upd ?_ (by omega)|exact D.mono (by assumption) (by omega))) (fun n' hn' => ?_)
         | fail
        refine loop89 (cp := cp) (bk := bk) (mp := mp) (rb := rb) (t := t) hn htc hlen hl hflr hbn hmn hrn h1 h2 hfb hrow0 m (i + 1) _ _ n' M1 (seen ++ [l[i]]) (by omega) (by omega) (by repeat' first|assumption|refine D.upd ?_ (by omega)|exact D.mono (by assumption) (by omega)) (fun b hb hb1 hb2 => ?_) (by first|assumption|(simp (disch:=omega) only [get_same,get_other,hgr]; first|done|exact rfl)) (by first|assumption|(simp (disch:=omega) only [get_same,get_other]; first|done|exact rfl)) (by first|assumption|(simp (disch:=omega) only [get_same,get_other]; first|done|exact rfl)) hG1 ?_ ?_ ?_ ?_ ?_ ?_ ?_ ?_ (fun a' h' n' M' g0 g1 => hq a' h' n' M' g0 (by rw [e5]; exact g1)) (fun a' h' n' g0 g1 => hr a' h' n' g0 (by rw [e5]; exact g1))
        all_goals try first|(simp only [zL,zM,zF,zG,hnt, hds, h4, h6, h8, h14, h15, h16];done)|(simp (disch:=first|decide|(simp only[zF,zG,hnt, hds, h4, h6, h8, h14, h15, h16];decide)) only [zA,zB,zC,zD,zE,zF,zG,zH,zI,zJ,zK,HV.cells,hnt, hds, h4, h6, h8, h14, h15, h16];first|done|exact rfl)|assumption
        rw [get_other _ _ (by omega), get_other _ _ (by omega), get_other _ _ (by omega), get_other _ _ (by omega)]; exact hs b hb hb1 hb2
theorem unr_ok {n : Nat} {t : Tb} (htc : t.c = n) (ht : TubeOk t.c t.t t.a t.b) : 1 ≤ n ∧ n ≤ 10 ∧ Good n (unrM n t) := by
  unfold TubeOk at ht
  rw [htc] at ht
  exact ⟨by omega, by omega, (unr_eq (by omega) (by omega) (by omega) (by omega) (by omega) (by omega) (by omega)).2.2⟩
theorem c_read {fl : Nat} {h : Tr HBlk} {nx : Nat} (hd : D h nx) {t : Tb} {n : Nat} {p : Option (Nat × Nat)} {l : List Rd} {m cp : Nat} (htc : t.c = n) (ht : TubeOk t.c t.t t.a t.b) (hm : m = l.length) (hlen : l.length < 1000000) (hl : ∀ r ∈ l, RdOk2 t.c r) (hrow : Row Rd.enc 4 h nx p l) :
    C LW fl 89 [.agg t.cells, .slice p m cp] ⟨h, nx⟩ (Sc (· = withO t (readO t n l)) ⟨h, nx⟩) := by
  subst hm
  obtain ⟨hn1, hn, hG⟩ := unr_ok htc ht
  have hT := ht
  unfold TubeOk at hT
  have m1 := mulr (c := t.c) (b := t.a) (by omega) (by omega)
  have tk : takeN 4 (t.cells.drop 0) = some t.cells := rfl
  have ow0 : overwrite (Zr 125) 0 (HV.agg (bcells t (unrM n t))).cells = some (bcells t (unrM n t)) := ow_bc t (unrM n t)
  have cU : ∀ fl h' n', D h' n' → C LW fl 97 [.agg t.cells] ⟨h', n'⟩ (Sc (· = .agg (bcells t (unrM n t))) ⟨h', n'⟩) := fun fl h' n' hd' => c_unread lw97 lw100 lw88 hn htc (by omega) (by omega) (by omega) hd'
  refine c_in lw89 rfl rfl rfl ?_
  dsimp only [L89]
  repeat' first
   | refine r_nil ?_
   | refine th_n ?_
   | refine th_r ?_
   | refine th_e ?_
   | refine ib_n ?_
   | refine ib_r ?_
   | refine ib_e ?_
   | refine ib_x (by decide) ?_
   | refine w_exit ?_
   | refine w_seq ?_
   | refine w_reg ?_
   | refine w_ret ?_
   | refine w_skip ?_
   | refine w_block ?_
   | refine w_t (by simp (disch:=first|decide|(simp only[zF,zG];decide)) only [zA,zB,zC,zD,zE,zF,zG,zH,zI,zJ,zK,HV.cells]; first|done|exact rfl) ?_
   | refine w_f (by simp (disch:=first|decide|(simp only[zF,zG];decide)) only [zA,zB,zC,zD,zE,zF,zG,zH,zI,zJ,zK,HV.cells]; first|done|exact rfl) ?_
   | refine r_take (by simp (disch:=first|decide|(simp only[zF,zG];decide)) only [zA,zB,zC,zD,zE,zF,zG,zH,zI,zJ,zK,HV.cells]; first|done|exact rfl) ?_
   | refine r_drop (by simp (disch:=first|decide|(simp only[zF,zG,Bool.not_true,Bool.not_false];decide)) only [zA,zB,zC,zD,zE,zF,zG,zH,zI,zJ,zK,HV.cells,Bool.not_true,Bool.not_false]; first|done|exact rfl) ?_
   | refine r_move (by simp (disch:=first|decide|(simp only[zF,zG];decide)) only [zA,zB,zC,zD,zE,zF,zG,zH,zI,zJ,zK,HV.cells]; try exact rfl) ?_
   | refine r_ldn (by simp (disch:=first|decide|(simp only[zF,zG];decide)) only [zA,zB,zC,zD,zE,zF,zG,zH,zI,zJ,zK,HV.cells]; try exact rfl) (by first|assumption|(simp (disch:=omega) only [get_same,get_other]; first|done|exact rfl)) (by first|assumption|rfl|(simp only [zI,zJ,HV.cells]; exact rfl)) ?_
   | refine r_box (by simp (disch:=first|decide|(simp only[zF,zG];decide)) only [zA,zB,zC,zD,zE,zF,zG,zH,zI,zJ,zK,HV.cells]; try exact rfl) ?_
   | refine r_alloc ?_
   | refine r_st (cs' := _) (by simp (disch:=first|decide|(simp only[zF,zG];decide)) only [zA,zB,zC,zD,zE,zF,zG,zH,zI,zJ,zK,HV.cells]; try exact rfl) (by simp (disch:=first|decide|(simp only[zF,zG];decide)) only [zA,zB,zC,zD,zE,zF,zG,zH,zI,zJ,zK,HV.cells]; try exact rfl) (by first|assumption|(simp (disch:=omega) only [get_same,get_other]; first|done|exact rfl)) (by exact True.intro) (by rfl) (by rfl) (by first|assumption|rfl|(simp only [zI,zJ,HV.cells]; exact rfl)) (by omega) ?_
   | refine r_add (by simp (disch:=first|decide|(simp only[zF,zG];decide)) only [zA,zB,zC,zD,zE,zF,zG,zH,zI,zJ,zK,HV.cells]; try exact rfl) (by simp (disch:=first|decide|(simp only[zF,zG];decide)) only [zA,zB,zC,zD,zE,zF,zG,zH,zI,zJ,zK,HV.cells]; try exact rfl) (by omega) (by omega) ?_
   | refine r_lss (by simp (disch:=first|decide|(simp only[zF,zG];decide)) only [zA,zB,zC,zD,zE,zF,zG,zH,zI,zJ,zK,HV.cells]; try exact rfl) (by simp (disch:=first|decide|(simp only[zF,zG];decide)) only [zA,zB,zC,zD,zE,zF,zG,zH,zI,zJ,zK,HV.cells]; try exact rfl) (fun hc => ?_) (fun hc => ?_) <;> (try (exfalso; omega))
   | refine r_not1 (by simp (disch:=first|decide|(simp only[zF,zG];decide)) only [zA,zB,zC,zD,zE,zF,zG,zH,zI,zJ,zK,HV.cells]; try exact rfl) ?_
   | refine r_len (by simp (disch:=first|decide|(simp only[zF,zG];decide)) only [zA,zB,zC,zD,zE,zF,zG,zH,zI,zJ,zK,HV.cells]; try exact rfl) ?_
   | refine r_ixs (by simp (disch:=first|decide|(simp only[zF,zG];decide)) only [zA,zB,zC,zD,zE,zF,zG,zH,zI,zJ,zK,HV.cells]; try exact rfl) (by simp (disch:=first|decide|(simp only[zF,zG];decide)) only [zA,zB,zC,zD,zE,zF,zG,zH,zI,zJ,zK,HV.cells]; try exact rfl) (by omega) ?_
   | refine r_ext (by simp (disch:=first|decide|(simp only[zF,zG];decide)) only [zA,zB,zC,zD,zE,zF,zG,zH,zI,zJ,zK,HV.cells]; try exact rfl) (by first|assumption|rfl|(simp only [zI,zJ,HV.cells]; exact rfl)) ?_
   | refine r_build (by simp (disch:=first|decide|(simp only[zF,zG];decide)) only [evParts,List.map_cons,List.map_nil,List.nil_append,List.cons_append,List.append_nil,zA,zB,zC,zD,zE,zF,zG,zH,zI,zJ,zK,HV.cells]; try exact rfl) ?_
   | refine r_mm ?_
   | refine r_calls (by simp (disch:=first|decide|(simp only[zF,zG];decide)) only [zA,zB,zC,zD,zE,zF,zG,zH,zI,zJ,zK,HV.cells]; try exact rfl) (by simp (disch:=first|decide|(simp only[zF,zG];decide)) only [List.map_cons,List.map_nil,List.nil_append,List.cons_append,List.append_nil,zA,zB,zC,zD,zE,zF,zG,zH,zI,zJ,zK,HV.cells]; try exact rfl) (cU _ _ _ (by repeat' first|assumption|refine D.upd ?_ (by omega)|exact D.mono (by assumption) (by omega))) (fun n' hn' => ?_)
   | fail
  have hrow1 : Row Rd.enc 4 (((((h.set nx (some (.cells t.cells .exact))).set (nx + 1) (some (.cells (Zr 125) .exact))).set n' (some (.cells (Zr 125) .exact))).set n' (some (.cells (bcells t (unrM n t)) .exact))).set (n' + 1) (some (.map []))) (nx + 1) p l := by
    intro hne
    obtain ⟨b, o, cs, k, e, hb, hg, hc⟩ := hrow hne
    exact ⟨b, o, cs, k, e, by omega, by rw [get_other _ _ (by omega), get_other _ _ (by omega), get_other _ _ (by omega), get_other _ _ (by omega), get_other _ _ (by omega)]; exact hg, hc⟩
  refine loop89 (cp := cp) (bk := n') (mp := n' + 1) (rb := nx + 1) (t := t) (n0 := n' + 1 + 1) hn htc hlen hl (by omega) (by omega) (by omega) (by omega) (by omega) (by omega) (Nat.le_refl _) hrow1 l.length 0 _ _ (n' + 1 + 1) (unrM n t) [] (by omega) (Nat.le_refl _) (by repeat' first|assumption|refine D.upd ?_ (by omega)|exact D.mono (by assumption) (by omega)) (fun b _ _ _ => rfl) (by first|assumption|(simp (disch:=omega) only [get_same,get_other]; first|done|exact rfl)) (by first|assumption|(simp (disch:=omega) only [get_same,get_other]; first|done|exact rfl)) (by first|assumption|(simp (disch:=omega) only [get_same,get_other]; first|done|exact rfl)) hG ?_ ?_ ?_ ?_ ?_ ?_ ?_ ?_ (fun a' h' n2 M' g0 g1 g2 g3 g4 g5 g6 g7 => ?_) (fun a' h' n2 g0 g1 g2 g4 g5 g6 g7 => ?_)
  all_goals try first|(simp only [zL,zM,zF,zG];done)|(simp (disch:=first|decide|(simp only[zF,zG];decide)) only [zA,zB,zC,zD,zE,zF,zG,zH,zI,zJ,zK,HV.cells];first|done|exact rfl)|assumption
  · have tkb := take_bc t M'
    have owb := ow_bc t M'
    have e : readO t n l = some M' := by unfold readO; simpa using g1
    repeat' first
     | refine r_nil ?_
     | refine th_n ?_
     | refine th_r ?_
     | refine th_e ?_
     | refine ib_n ?_
     | refine ib_r ?_
     | refine ib_e ?_
     | refine ib_x (by decide) ?_
     | refine w_exit ?_
     | refine w_seq ?_
     | refine w_reg ?_
     | refine w_ret ?_
     | refine w_skip ?_
     | refine w_block ?_
     | refine w_t (by simp (disch:=first|decide|(simp only[zF,zG,g4, g6, g7, g2, g3];decide)) only [zA,zB,zC,zD,zE,zF,zG,zH,zI,zJ,zK,HV.cells,g4, g6, g7, g2, g3]; first|done|exact rfl) ?_
     | refine w_f (by simp (disch:=first|decide|(simp only[zF,zG,g4, g6, g7, g2, g3];decide)) only [zA,zB,zC,zD,zE,zF,zG,zH,zI,zJ,zK,HV.cells,g4, g6, g7, g2, g3]; first|done|exact rfl) ?_
     | refine r_take (by simp (disch:=first|decide|(simp only[zF,zG,g4, g6, g7, g2, g3];decide)) only [zA,zB,zC,zD,zE,zF,zG,zH,zI,zJ,zK,HV.cells,g4, g6, g7, g2, g3]; first|done|exact rfl) ?_
     | refine r_drop (by simp (disch:=first|decide|(simp only[zF,zG,Bool.not_true,Bool.not_false,g4, g6, g7, g2, g3];decide)) only [zA,zB,zC,zD,zE,zF,zG,zH,zI,zJ,zK,HV.cells,Bool.not_true,Bool.not_false,g4, g6, g7, g2, g3]; first|done|exact rfl) ?_
     | refine r_move (by simp (disch:=first|decide|(simp only[zF,zG,g4, g6, g7, g2, g3];decide)) only [zA,zB,zC,zD,zE,zF,zG,zH,zI,zJ,zK,HV.cells,g4, g6, g7, g2, g3]; try exact rfl) ?_
     | refine r_ldn (by simp (disch:=first|decide|(simp only[zF,zG,g4, g6, g7, g2, g3];decide)) only [zA,zB,zC,zD,zE,zF,zG,zH,zI,zJ,zK,HV.cells,g4, g6, g7, g2, g3]; try exact rfl) (by first|assumption|(simp (disch:=omega) only [get_same,get_other,g4, g6, g7, g2, g3]; first|done|exact rfl)) (by first|assumption|rfl|(simp only [zI,zJ,HV.cells,g4, g6, g7, g2, g3]; exact rfl)) ?_
     | refine r_box (by simp (disch:=first|decide|(simp only[zF,zG,g4, g6, g7, g2, g3];decide)) only [zA,zB,zC,zD,zE,zF,zG,zH,zI,zJ,zK,HV.cells,g4, g6, g7, g2, g3]; try exact rfl) ?_
     | refine r_alloc ?_
     | refine r_st (cs' := _) (by simp (disch:=first|decide|(simp only[zF,zG,g4, g6, g7, g2, g3];decide)) only [zA,zB,zC,zD,zE,zF,zG,zH,zI,zJ,zK,HV.cells,g4, g6, g7, g2, g3]; try exact rfl) (by simp (disch:=first|decide|(simp only[zF,zG,g4, g6, g7, g2, g3];decide)) only [zA,zB,zC,zD,zE,zF,zG,zH,zI,zJ,zK,HV.cells,g4, g6, g7, g2, g3]; try exact rfl) (by first|assumption|(simp (disch:=omega) only [get_same,get_other,g4, g6, g7, g2, g3]; first|done|exact rfl)) (by exact True.intro) (by rfl) (by rfl) (by first|assumption|rfl|(simp only [zI,zJ,HV.cells,g4, g6, g7, g2, g3]; exact rfl)) (by omega) ?_
     | refine r_add (by simp (disch:=first|decide|(simp only[zF,zG,g4, g6, g7, g2, g3];decide)) only [zA,zB,zC,zD,zE,zF,zG,zH,zI,zJ,zK,HV.cells,g4, g6, g7, g2, g3]; try exact rfl) (by simp (disch:=first|decide|(simp only[zF,zG,g4, g6, g7, g2, g3];decide)) only [zA,zB,zC,zD,zE,zF,zG,zH,zI,zJ,zK,HV.cells,g4, g6, g7, g2, g3]; try exact rfl) (by omega) (by omega) ?_
     | refine r_lss (by simp (disch:=first|decide|(simp only[zF,zG,g4, g6, g7, g2, g3];decide)) only [zA,zB,zC,zD,zE,zF,zG,zH,zI,zJ,zK,HV.cells,g4, g6, g7, g2, g3]; try exact rfl) (by simp (disch:=first|decide|(simp only[zF,zG,g4, g6, g7, g2, g3];decide)) only [zA,zB,zC,zD,zE,zF,zG,zH,zI,zJ,zK,HV.cells,g4, g6, g7, g2, g3]; try exact rfl) (fun hc => ?_) (fun hc => ?_) <;> (try (exfalso; omega))
     | refine r_not1 (by simp (disch:=first|decide|(simp only[zF,zG,g4, g6, g7, g2, g3];decide)) only [zA,zB,zC,zD,zE,zF,zG,zH,zI,zJ,zK,HV.cells,g4, g6, g7, g2, g3]; try exact rfl) ?_
     | refine r_len (by simp (disch:=first|decide|(simp only[zF,zG,g4, g6, g7, g2, g3];decide)) only [zA,zB,zC,zD,zE,zF,zG,zH,zI,zJ,zK,HV.cells,g4, g6, g7, g2, g3]; try exact rfl) ?_
     | refine r_ixs (by simp (disch:=first|decide|(simp only[zF,zG,g4, g6, g7, g2, g3];decide)) only [zA,zB,zC,zD,zE,zF,zG,zH,zI,zJ,zK,HV.cells,g4, g6, g7, g2, g3]; try exact rfl) (by simp (disch:=first|decide|(simp only[zF,zG,g4, g6, g7, g2, g3];decide)) only [zA,zB,zC,zD,zE,zF,zG,zH,zI,zJ,zK,HV.cells,g4, g6, g7, g2, g3]; try exact rfl) (by omega) ?_
     | refine r_ext (by simp (disch:=first|decide|(simp only[zF,zG,g4, g6, g7, g2, g3];decide)) only [zA,zB,zC,zD,zE,zF,zG,zH,zI,zJ,zK,HV.cells,g4, g6, g7, g2, g3]; try exact rfl) (by first|assumption|rfl|(simp only [zI,zJ,HV.cells,g4, g6, g7, g2, g3]; exact rfl)) ?_
     | refine r_build (by simp (disch:=first|decide|(simp only[zF,zG,g4, g6, g7, g2, g3];decide)) only [evParts,List.map_cons,List.map_nil,List.nil_append,List.cons_append,List.append_nil,zA,zB,zC,zD,zE,zF,zG,zH,zI,zJ,zK,HV.cells,g4, g6, g7, g2, g3]; try exact rfl) ?_
     | refine r_mm ?_
     | fail
    refine fin_m (by simp only [zL, g5]) (res_c (by simp (disch:=first|decide|(simp only[zF,zG,g4, g6];decide)) only [zA,zB,zC,zD,zE,zF,zG,zH,zI,zJ,zK,HV.cells,g4, g6]; try exact rfl) (by first|assumption|(simp (disch:=omega) only [get_same,get_other]; first|done|exact rfl)) tkb (res_t (by simp (disch:=first|decide|(simp only[zF,zG,g4];decide)) only [zA,zB,zC,zD,zE,zF,zG,zH,zI,zJ,zK,HV.cells,g4]; try exact rfl) res_nil)) (sc_flat ?_ (by dsimp only; omega) ?_)
    · rw [e]; exact flat_withO _ _
    · rw [e]; rfl
  · have e : readO t n l = none := by unfold readO; simpa using g1
    repeat' first
     | refine r_nil ?_
     | refine th_n ?_
     | refine th_r ?_
     | refine th_e ?_
     | refine ib_n ?_
     | refine ib_r ?_
     | refine ib_e ?_
     | refine ib_x (by decide) ?_
     | refine w_exit ?_
     | refine w_seq ?_
     | refine w_reg ?_
     | refine w_ret ?_
     | refine w_skip ?_
     | refine w_block ?_
     | refine w_t (by simp (disch:=first|decide|(simp only[zF,zG,g4, g6, g7, g2];decide)) only [zA,zB,zC,zD,zE,zF,zG,zH,zI,zJ,zK,HV.cells,g4, g6, g7, g2]; first|done|exact rfl) ?_
     | refine w_f (by simp (disch:=first|decide|(simp only[zF,zG,g4, g6, g7, g2];decide)) only [zA,zB,zC,zD,zE,zF,zG,zH,zI,zJ,zK,HV.cells,g4, g6, g7, g2]; first|done|exact rfl) ?_
     | refine r_take (by simp (disch:=first|decide|(simp only[zF,zG,g4, g6, g7, g2];decide)) only [zA,zB,zC,zD,zE,zF,zG,zH,zI,zJ,zK,HV.cells,g4, g6, g7, g2]; first|done|exact rfl) ?_
     | refine r_drop (by simp (disch:=first|decide|(simp only[zF,zG,Bool.not_true,Bool.not_false,g4, g6, g7, g2];decide)) only [zA,zB,zC,zD,zE,zF,zG,zH,zI,zJ,zK,HV.cells,Bool.not_true,Bool.not_false,g4, g6, g7, g2]; first|done|exact rfl) ?_
     | refine r_move (by simp (disch:=first|decide|(simp only[zF,zG,g4, g6, g7, g2];decide)) only [zA,zB,zC,zD,zE,zF,zG,zH,zI,zJ,zK,HV.cells,g4, g6, g7, g2]; try exact rfl) ?_
     | refine r_ldn (by simp (disch:=first|decide|(simp only[zF,zG,g4, g6, g7, g2];decide)) only [zA,zB,zC,zD,zE,zF,zG,zH,zI,zJ,zK,HV.cells,g4, g6, g7, g2]; try exact rfl) (by first|assumption|(simp (disch:=omega) only [get_same,get_other,g4, g6, g7, g2]; first|done|exact rfl)) (by first|assumption|rfl|(simp only [zI,zJ,HV.cells,g4, g6, g7, g2]; exact rfl)) ?_
     | refine r_box (by simp (disch:=first|decide|(simp only[zF,zG,g4, g6, g7, g2];decide)) only [zA,zB,zC,zD,zE,zF,zG,zH,zI,zJ,zK,HV.cells,g4, g6, g7, g2]; try exact rfl) ?_
     | refine r_alloc ?_
     | refine r_st (cs' := _) (by simp (disch:=first|decide|(simp only[zF,zG,g4, g6, g7, g2];decide)) only [zA,zB,zC,zD,zE,zF,zG,zH,zI,zJ,zK,HV.cells,g4, g6, g7, g2]; try exact rfl) (by simp (disch:=first|decide|(simp only[zF,zG,g4, g6, g7, g2];decide)) only [zA,zB,zC,zD,zE,zF,zG,zH,zI,zJ,zK,HV.cells,g4, g6, g7, g2]; try exact rfl) (by first|assumption|(simp (disch:=omega) only [get_same,get_other,g4, g6, g7, g2]; first|done|exact rfl)) (by exact True.intro) (by rfl) (by rfl) (by first|assumption|rfl|(simp only [zI,zJ,HV.cells,g4, g6, g7, g2]; exact rfl)) (by omega) ?_
     | refine r_add (by simp (disch:=first|decide|(simp only[zF,zG,g4, g6, g7, g2];decide)) only [zA,zB,zC,zD,zE,zF,zG,zH,zI,zJ,zK,HV.cells,g4, g6, g7, g2]; try exact rfl) (by simp (disch:=first|decide|(simp only[zF,zG,g4, g6, g7, g2];decide)) only [zA,zB,zC,zD,zE,zF,zG,zH,zI,zJ,zK,HV.cells,g4, g6, g7, g2]; try exact rfl) (by omega) (by omega) ?_
     | refine r_lss (by simp (disch:=first|decide|(simp only[zF,zG,g4, g6, g7, g2];decide)) only [zA,zB,zC,zD,zE,zF,zG,zH,zI,zJ,zK,HV.cells,g4, g6, g7, g2]; try exact rfl) (by simp (disch:=first|decide|(simp only[zF,zG,g4, g6, g7, g2];decide)) only [zA,zB,zC,zD,zE,zF,zG,zH,zI,zJ,zK,HV.cells,g4, g6, g7, g2]; try exact rfl) (fun hc => ?_) (fun hc => ?_) <;> (try (exfalso; omega))
     | refine r_not1 (by simp (disch:=first|decide|(simp only[zF,zG,g4, g6, g7, g2];decide)) only [zA,zB,zC,zD,zE,zF,zG,zH,zI,zJ,zK,HV.cells,g4, g6, g7, g2]; try exact rfl) ?_
     | refine r_len (by simp (disch:=first|decide|(simp only[zF,zG,g4, g6, g7, g2];decide)) only [zA,zB,zC,zD,zE,zF,zG,zH,zI,zJ,zK,HV.cells,g4, g6, g7, g2]; try exact rfl) ?_
     | refine r_ixs (by simp (disch:=first|decide|(simp only[zF,zG,g4, g6, g7, g2];decide)) only [zA,zB,zC,zD,zE,zF,zG,zH,zI,zJ,zK,HV.cells,g4, g6, g7, g2]; try exact rfl) (by simp (disch:=first|decide|(simp only[zF,zG,g4, g6, g7, g2];decide)) only [zA,zB,zC,zD,zE,zF,zG,zH,zI,zJ,zK,HV.cells,g4, g6, g7, g2]; try exact rfl) (by omega) ?_
     | refine r_ext (by simp (disch:=first|decide|(simp only[zF,zG,g4, g6, g7, g2];decide)) only [zA,zB,zC,zD,zE,zF,zG,zH,zI,zJ,zK,HV.cells,g4, g6, g7, g2]; try exact rfl) (by first|assumption|rfl|(simp only [zI,zJ,HV.cells,g4, g6, g7, g2]; exact rfl)) ?_
     | refine r_build (by simp (disch:=first|decide|(simp only[zF,zG,g4, g6, g7, g2];decide)) only [evParts,List.map_cons,List.map_nil,List.nil_append,List.cons_append,List.append_nil,zA,zB,zC,zD,zE,zF,zG,zH,zI,zJ,zK,HV.cells,g4, g6, g7, g2]; try exact rfl) ?_
     | refine r_mm ?_
     | fail
    refine fin_m (by simp only [zL, g5]) (res_c (by simp (disch:=first|decide|(simp only[zF,zG,g4, g6];decide)) only [zA,zB,zC,zD,zE,zF,zG,zH,zI,zJ,zK,HV.cells,g4, g6]; try exact rfl) g2 tk_z (res_t (by simp (disch:=first|decide|(simp only[zF,zG,g4, g7];decide)) only [zA,zB,zC,zD,zE,zF,zG,zH,zI,zJ,zK,HV.cells,g4, g7]; try exact rfl) res_nil)) (sc_flat ?_ (by dsimp only; omega) ?_)
    · rw [e]; exact flat_withO t none
    · rw [e]; rfl
end Go.Hx

/- What is kept behind a call of lists that it hands back, whoever has laid them. -/
namespace Go.Hx
theorem keepV_has {h1 : Tr HBlk} {nx b : Nat} {k : List HV → Tr HBlk → Tr HBlk} (hk : ∀ vs h, h.get b = h1.get b → (k vs h).get b = h1.get b) {h : Tr HBlk} (hb : h.get b = h1.get b) (v : HV) : (keepV h1 nx k h v).get b = h1.get b := by
  have put : ∀ (c : Nat) (x : HBlk), h1.get c = some x → (h.set c (some x)).get b = h1.get b := fun c x hx => by
    rw [Tr.get_set]
    by_cases e : b = c
    · rw [if_pos e, e, hx]
    · rw [if_neg e]; exact hb
  unfold keepV
  split
  · rename_i c _ _ _
    cases Nat.blt c nx with
    | true => exact hb
    | false =>
      simp only [cond_false]
      split
      · rename_i hg; exact hk _ _ (put _ _ hg)
      · exact hb
  · rename_i c _
    cases Nat.blt c nx with
    | true => exact hb
    | false =>
      simp only [cond_false]
      split
      · rename_i hg; exact hk _ _ (put _ _ hg)
      · exact hb
  · rename_i c
    cases Nat.blt c nx with
    | true => exact hb
    | false =>
      simp only [cond_false]
      split
      · rename_i hg; exact hk _ _ (put _ _ hg)
      · exact hb
  · exact hk _ _ hb
  · exact hk _ _ hb
  · exact hk _ _ hb
  · exact hb
theorem keepD_has {h1 : Tr HBlk} {nx b : Nat} : ∀ (d : Nat) (vs : List HV) (h : Tr HBlk), h.get b = h1.get b → (keepD h1 nx d vs h).get b = h1.get b
  | 0, vs, h, hb => hb
  | d + 1, [], h, hb => hb
  | d + 1, v :: vs, h, hb => by
    unfold keepD
    rw [List.foldl_cons]
    exact keepD_has (d + 1) vs _ (keepV_has (keepD_has d) hb v)
theorem keepV_first {h1 h : Tr HBlk} {nx b o n c d : Nat} {cs : List HV} {bk : BK} (hg : h1.get b = some (.cells cs bk)) (hs : b < nx → h.get b = h1.get b) : (keepV h1 nx (keepD h1 nx d) h (.slice (some (b, o)) n c)).get b = h1.get b := by
  show (bif Nat.blt b nx then h else (match h1.get b with | some (.cells cs bk) => keepD h1 nx d cs (h.set b (some (.cells cs bk))) | _ => h)).get b = _
  cases e : Nat.blt b nx with
  | true => rw [Nat.blt_eq] at e; exact hs e
  | false =>
    simp only [cond_false, hg]
    rw [← hg]
    exact keepD_has d cs _ (by rw [get_same])
theorem gc_ext {h0 h : Tr HBlk} {n0 nx : Nat} (hd0 : D h0 n0) (e : Ext h0 n0 h nx) (v : HV) : ∃ h', gcH ⟨h0, n0⟩ ⟨h, nx⟩ v = ⟨h', nx⟩ ∧ Ext h0 n0 h' nx := by
  refine ⟨_, rfl, e.le, ?_, fun b hb => ((kept_d h n0 5 [v] h0) b).1 hb⟩
  have hd := e.d
  have hle := e.le
  unfold D at hd hd0 ⊢
  intro b hb
  cases hx : (keepD h n0 5 [v] h0).get b with
  | none => rfl
  | some x =>
    rcases ((kept_d h n0 5 [v] h0) b).2 x hx with h1 | h1
    · rw [hd0 b (by omega)] at h1; cases h1
    · rw [hd b hb] at h1; cases h1.2
/-- A list in front of what is handed back. -/
theorem gc_tup {α : Type} {enc : α → List HV} {sz : Nat} {h0 h : Tr HBlk} {n0 nx : Nat} {p : Option (Nat × Nat)} {n c : Nat} {rest : List HV} {l : List α} (hd0 : D h0 n0) (e : Ext h0 n0 h nx) (hr : Row enc sz h nx p l) :
    ∃ h', gcH ⟨h0, n0⟩ ⟨h, nx⟩ (.tuple (.slice p n c :: rest)) = ⟨h', nx⟩ ∧ Ext h0 n0 h' nx ∧ Row enc sz h' nx p l := by
  obtain ⟨h', h1, h2⟩ := gc_ext hd0 e (.tuple (.slice p n c :: rest))
  refine ⟨h', h1, h2, fun hne => ?_⟩
  obtain ⟨b, o, cs, k, rfl, hb, hg, hc⟩ := hr hne
  refine ⟨b, o, cs, k, rfl, hb, ?_, hc⟩
  have e1 : h' = keepD h n0 5 [.tuple (.slice (some (b, o)) n c :: rest)] h0 := by
    have : (⟨h', nx⟩ : HS).h = (gcH ⟨h0, n0⟩ ⟨h, nx⟩ (.tuple (.slice (some (b, o)) n c :: rest))).h := by rw [h1]
    exact this
  rw [e1, ← hg]
  show (keepD h n0 4 (.slice (some (b, o)) n c :: rest) h0).get b = _
  unfold keepD
  rw [List.foldl_cons]
  exact keepD_has 4 rest _ (keepV_first hg fun hlt => (e.same b hlt).symm)
end Go.Hx

namespace Go.Hx
set_option linter.unusedSimpArgs false
set_option linter.unusedVariables false
set_option maxRecDepth 20000
set_option maxHeartbeats 4000000
attribute [local irreducible] W R C thenH inBlockH
/-- What 'readFor' hands back. -/
noncomputable def forO (t : Tb) (n : Nat) (l : List Rd) (ok : Bool) : HV :=
  if errOf t.c t.t t.a t.b l = 0 then
    if ok = true then
      match readO t n l with
      | some M => .tuple [.agg (bcells t M), i64 0]
      | none => .tuple [.agg (Zr 125), i64 9]
    else .tuple [.agg (Zr 125), i64 2]
  else .tuple [.agg (Zr 125), i64 (errOf t.c t.t t.a t.b l)]
theorem flat_bc2 (t : Tb) (M : Mx) (e : Int) : flatV (.tuple [.agg (bcells t M), i64 e]) = true := by show ((bcells t M).all flat1 && (true && true)) = true; rw [bc_flat]; rfl
theorem flat_z2 (e : Int) : flatV (.tuple [.agg (Zr 125), i64 e]) = true := by show ((Zr 125).all flat1 && (true && true)) = true; rw [zr_flat]; rfl
/- 72 -/
theorem c_readFor {fl : Nat} {h : Tr HBlk} {nx : Nat} (hd : D h nx) {t : Tb} {n : Nat} {p : Option (Nat × Nat)} {l : List Rd} {m cp : Nat} {ok : Bool} (htc : TubeOk t.c t.t t.a t.b → t.c = n) (hm : m = l.length) (hlen : l.length < 1000000) (hrow : Row Rd.enc 4 h nx p l) :
    C LW fl 72 [.agg t.cells, .slice p m cp, .bool ok] ⟨h, nx⟩ (Sc (· = forO t n l ok) ⟨h, nx⟩) := by
  subst hm
  have tk : takeN 4 (t.cells.drop 0) = some t.cells := rfl
  have owz : overwrite (Zr 125) 0 (HV.agg (Zr 125)).cells = some (Zr 125) := ow_all _ _ rfl
  have cC : ∀ fl h' n', Ext h nx h' n' → C LW fl 64 [.agg t.cells, .slice p l.length cp] ⟨h', n'⟩ (Sc (· = i64 (errOf t.c t.t t.a t.b l)) ⟨h', n'⟩) := fun fl h' n' e => c_check e.d rfl (by omega) (hrow.ext e)
  refine c_in lw72 rfl rfl rfl ?_
  dsimp only [L72]
  by_cases hE : errOf t.c t.t t.a t.b l = 0
  · obtain ⟨hT, hL, hR⟩ := errOf_zero hE
    have cC1 : ∀ fl h' n', Ext h nx h' n' → C LW fl 64 [.agg t.cells, .slice p l.length cp] ⟨h', n'⟩ (Sc (· = i64 0) ⟨h', n'⟩) := fun fl h' n' e => by have := cC fl h' n' e; rwa [hE] at this
    cases ok with
    | false =>
      repeat' first
       | refine r_nil ?_
       | refine th_n ?_
       | refine th_r ?_
       | refine w_seq ?_
       | refine w_reg ?_
       | refine w_ret ?_
       | refine w_skip ?_
       | refine w_t (by simp (disch:=first|decide|(simp only[zF,zG];decide)) only [zA,zB,zC,zD,zE,zF,zG,zH,zI,zJ,zK,HV.cells]; first|done|exact rfl) ?_
       | refine w_f (by simp (disch:=first|decide|(simp only[zF,zG];decide)) only [zA,zB,zC,zD,zE,zF,zG,zH,zI,zJ,zK,HV.cells]; first|done|exact rfl) ?_
       | refine r_move (by simp (disch:=first|decide|(simp only[zF,zG];decide)) only [zA,zB,zC,zD,zE,zF,zG,zH,zI,zJ,zK,HV.cells]; try exact rfl) ?_
       | refine r_ldn (by simp (disch:=first|decide|(simp only[zF,zG];decide)) only [zA,zB,zC,zD,zE,zF,zG,zH,zI,zJ,zK,HV.cells]; try exact rfl) (by first|assumption|(simp (disch:=omega) only [get_same,get_other]; first|done|exact rfl)) (by first|assumption|rfl|(simp only [zI,zJ,HV.cells]; exact rfl)) ?_
       | refine r_box (by simp (disch:=first|decide|(simp only[zF,zG];decide)) only [zA,zB,zC,zD,zE,zF,zG,zH,zI,zJ,zK,HV.cells]; try exact rfl) ?_
       | refine r_alloc ?_
       | refine r_st (cs' := _) (by simp (disch:=first|decide|(simp only[zF,zG];decide)) only [zA,zB,zC,zD,zE,zF,zG,zH,zI,zJ,zK,HV.cells]; try exact rfl) (by simp (disch:=first|decide|(simp only[zF,zG];decide)) only [zA,zB,zC,zD,zE,zF,zG,zH,zI,zJ,zK,HV.cells]; try exact rfl) (by first|assumption|(simp (disch:=omega) only [get_same,get_other]; first|done|exact rfl)) (by exact True.intro) (by rfl) (by rfl) (by first|assumption|rfl|(simp only [zI,zJ,HV.cells]; exact rfl)) (by omega) ?_
       | refine r_eq (by simp (disch:=first|decide|(simp only[zF,zG];decide)) only [zA,zB,zC,zD,zE,zF,zG,zH,zI,zJ,zK,HV.cells]; try exact rfl) (by simp (disch:=first|decide|(simp only[zF,zG];decide)) only [zA,zB,zC,zD,zE,zF,zG,zH,zI,zJ,zK,HV.cells]; try exact rfl) (fun hc => ?_) (fun hc => ?_) <;> (try (exfalso; omega))
       | refine r_ne (by simp (disch:=first|decide|(simp only[zF,zG];decide)) only [zA,zB,zC,zD,zE,zF,zG,zH,zI,zJ,zK,HV.cells]; try exact rfl) (by simp (disch:=first|decide|(simp only[zF,zG];decide)) only [zA,zB,zC,zD,zE,zF,zG,zH,zI,zJ,zK,HV.cells]; try exact rfl) (fun hc => ?_) (fun hc => ?_) <;> (try (exfalso; omega))
       | refine r_eqb (by simp (disch:=first|decide|(simp only[zF,zG];decide)) only [zA,zB,zC,zD,zE,zF,zG,zH,zI,zJ,zK,HV.cells]; try exact rfl) (by simp (disch:=first|decide|(simp only[zF,zG];decide)) only [zA,zB,zC,zD,zE,zF,zG,zH,zI,zJ,zK,HV.cells]; try exact rfl) ?_
       | refine r_not1 (by simp (disch:=first|decide|(simp only[zF,zG];decide)) only [zA,zB,zC,zD,zE,zF,zG,zH,zI,zJ,zK,HV.cells]; try exact rfl) ?_
       | refine r_ext (by simp (disch:=first|decide|(simp only[zF,zG];decide)) only [zA,zB,zC,zD,zE,zF,zG,zH,zI,zJ,zK,HV.cells]; try exact rfl) (by first|assumption|rfl|(simp only [zI,zJ,HV.cells]; exact rfl)) ?_
       | refine r_build (by simp (disch:=first|decide|(simp only[zF,zG];decide)) only [evParts,List.map_cons,List.map_nil,List.nil_append,List.cons_append,List.append_nil,zA,zB,zC,zD,zE,zF,zG,zH,zI,zJ,zK,HV.cells]; try exact rfl) ?_
       | refine r_calls (by simp (disch:=first|decide|(simp only[zF,zG];decide)) only [zA,zB,zC,zD,zE,zF,zG,zH,zI,zJ,zK,HV.cells]; try exact rfl) (by simp (disch:=first|decide|(simp only[zF,zG];decide)) only [List.map_cons,List.map_nil,List.nil_append,List.cons_append,List.append_nil,zA,zB,zC,zD,zE,zF,zG,zH,zI,zJ,zK,HV.cells]; try exact rfl) (cC1 _ _ _ (by repeat' first|assumption|refine Ext.put ?_ (by omega) (by omega)|exact Ext.up (by assumption) (by omega)|exact Ext.nx (by assumption) (by omega))) (fun n' hn' => ?_)
       | fail
      refine fin_m (by simp only [zL,zM]) (res_c (by simp (disch:=first|decide|(simp only[zF,zG];decide)) only [zA,zB,zC,zD,zE,zF,zG,zH,zI,zJ,zK,HV.cells]; try exact rfl) (by first|assumption|(simp (disch:=omega) only [get_same,get_other]; first|done|exact rfl)) tk_z (res_t (by simp (disch:=first|decide|(simp only[zF,zG];decide)) only [zA,zB,zC,zD,zE,zF,zG,zH,zI,zJ,zK,HV.cells]; try exact rfl) res_nil)) (sc_flat ?_ (by dsimp only; omega) ?_)
      · unfold forO; rw [if_pos hE, if_neg (by simp)]; exact flat_z2 2
      · unfold forO; rw [if_pos hE, if_neg (by simp)]; rfl
    | true =>
      have cR : ∀ fl h' n', Ext h nx h' n' → C LW fl 89 [.agg t.cells, .slice p l.length cp] ⟨h', n'⟩ (Sc (· = withO t (readO t n l)) ⟨h', n'⟩) := fun fl h' n' e => c_read e.d (htc hT) hT rfl hlen hR (hrow.ext e)
      cases hO : readO t n l with
      | none =>
        have cR1 : ∀ fl h' n', Ext h nx h' n' → C LW fl 89 [.agg t.cells, .slice p l.length cp] ⟨h', n'⟩ (Sc (· = .tuple [.agg (Zr 125), .bool false]) ⟨h', n'⟩) := fun fl h' n' e => by have := cR fl h' n' e; rw [hO] at this; exact this
        repeat' first
         | refine r_nil ?_
         | refine th_n ?_
         | refine th_r ?_
         | refine w_seq ?_
         | refine w_reg ?_
         | refine w_ret ?_
         | refine w_skip ?_
         | refine w_t (by simp (disch:=first|decide|(simp only[zF,zG];decide)) only [zA,zB,zC,zD,zE,zF,zG,zH,zI,zJ,zK,HV.cells]; first|done|exact rfl) ?_
         | refine w_f (by simp (disch:=first|decide|(simp only[zF,zG];decide)) only [zA,zB,zC,zD,zE,zF,zG,zH,zI,zJ,zK,HV.cells]; first|done|exact rfl) ?_
         | refine r_move (by simp (disch:=first|decide|(simp only[zF,zG];decide)) only [zA,zB,zC,zD,zE,zF,zG,zH,zI,zJ,zK,HV.cells]; try exact rfl) ?_
         | refine r_ldn (by simp (disch:=first|decide|(simp only[zF,zG];decide)) only [zA,zB,zC,zD,zE,zF,zG,zH,zI,zJ,zK,HV.cells]; try exact rfl) (by first|assumption|(simp (disch:=omega) only [get_same,get_other]; first|done|exact rfl)) (by first|assumption|rfl|(simp only [zI,zJ,HV.cells]; exact rfl)) ?_
         | refine r_box (by simp (disch:=first|decide|(simp only[zF,zG];decide)) only [zA,zB,zC,zD,zE,zF,zG,zH,zI,zJ,zK,HV.cells]; try exact rfl) ?_
         | refine r_alloc ?_
         | refine r_st (cs' := _) (by simp (disch:=first|decide|(simp only[zF,zG];decide)) only [zA,zB,zC,zD,zE,zF,zG,zH,zI,zJ,zK,HV.cells]; try exact rfl) (by simp (disch:=first|decide|(simp only[zF,zG];decide)) only [zA,zB,zC,zD,zE,zF,zG,zH,zI,zJ,zK,HV.cells]; try exact rfl) (by first|assumption|(simp (disch:=omega) only [get_same,get_other]; first|done|exact rfl)) (by exact True.intro) (by rfl) (by rfl) (by first|assumption|rfl|(simp only [zI,zJ,HV.cells]; exact rfl)) (by omega) ?_
         | refine r_eq (by simp (disch:=first|decide|(simp only[zF,zG];decide)) only [zA,zB,zC,zD,zE,zF,zG,zH,zI,zJ,zK,HV.cells]; try exact rfl) (by simp (disch:=first|decide|(simp only[zF,zG];decide)) only [zA,zB,zC,zD,zE,zF,zG,zH,zI,zJ,zK,HV.cells]; try exact rfl) (fun hc => ?_) (fun hc => ?_) <;> (try (exfalso; omega))
         | refine r_ne (by simp (disch:=first|decide|(simp only[zF,zG];decide)) only [zA,zB,zC,zD,zE,zF,zG,zH,zI,zJ,zK,HV.cells]; try exact rfl) (by simp (disch:=first|decide|(simp only[zF,zG];decide)) only [zA,zB,zC,zD,zE,zF,zG,zH,zI,zJ,zK,HV.cells]; try exact rfl) (fun hc => ?_) (fun hc => ?_) <;> (try (exfalso; omega))
         | refine r_eqb (by simp (disch:=first|decide|(simp only[zF,zG];decide)) only [zA,zB,zC,zD,zE,zF,zG,zH,zI,zJ,zK,HV.cells]; try exact rfl) (by simp (disch:=first|decide|(simp only[zF,zG];decide)) only [zA,zB,zC,zD,zE,zF,zG,zH,zI,zJ,zK,HV.cells]; try exact rfl) ?_
         | refine r_not1 (by simp (disch:=first|decide|(simp only[zF,zG];decide)) only [zA,zB,zC,zD,zE,zF,zG,zH,zI,zJ,zK,HV.cells]; try exact rfl) ?_
         | refine r_ext (by simp (disch:=first|decide|(simp only[zF,zG];decide)) only [zA,zB,zC,zD,zE,zF,zG,zH,zI,zJ,zK,HV.cells]; try exact rfl) (by first|assumption|rfl|(simp only [zI,zJ,HV.cells]; exact rfl)) ?_
         | refine r_build (by simp (disch:=first|decide|(simp only[zF,zG];decide)) only [evParts,List.map_cons,List.map_nil,List.nil_append,List.cons_append,List.append_nil,zA,zB,zC,zD,zE,zF,zG,zH,zI,zJ,zK,HV.cells]; try exact rfl) ?_
         | refine r_calls (by simp (disch:=first|decide|(simp only[zF,zG];decide)) only [zA,zB,zC,zD,zE,zF,zG,zH,zI,zJ,zK,HV.cells]; try exact rfl) (by simp (disch:=first|decide|(simp only[zF,zG];decide)) only [List.map_cons,List.map_nil,List.nil_append,List.cons_append,List.append_nil,zA,zB,zC,zD,zE,zF,zG,zH,zI,zJ,zK,HV.cells]; try exact rfl) (cC1 _ _ _ (by repeat' first|assumption|refine Ext.put ?_ (by omega) (by omega)|exact Ext.up (by assumption) (by omega)|exact Ext.nx (by assumption) (by omega))) (fun n' hn' => ?_)
         | refine r_calls (by simp (disch:=first|decide|(simp only[zF,zG];decide)) only [zA,zB,zC,zD,zE,zF,zG,zH,zI,zJ,zK,HV.cells]; try exact rfl) (by simp (disch:=first|decide|(simp only[zF,zG];decide)) only [List.map_cons,List.map_nil,List.nil_append,List.cons_append,List.append_nil,zA,zB,zC,zD,zE,zF,zG,zH,zI,zJ,zK,HV.cells]; try exact rfl) (cR1 _ _ _ (by repeat' first|assumption|refine Ext.put ?_ (by omega) (by omega)|exact Ext.up (by assumption) (by omega)|exact Ext.nx (by assumption) (by omega))) (fun n' hn' => ?_)
         | fail
        refine fin_m (by simp only [zL,zM]) (res_c (by simp (disch:=first|decide|(simp only[zF,zG];decide)) only [zA,zB,zC,zD,zE,zF,zG,zH,zI,zJ,zK,HV.cells]; try exact rfl) (by first|assumption|(simp (disch:=omega) only [get_same,get_other]; first|done|exact rfl)) tk_z (res_t (by simp (disch:=first|decide|(simp only[zF,zG];decide)) only [zA,zB,zC,zD,zE,zF,zG,zH,zI,zJ,zK,HV.cells]; try exact rfl) res_nil)) (sc_flat ?_ (by dsimp only; omega) ?_)
        · unfold forO; rw [if_pos hE, if_pos rfl, hO]; exact flat_z2 9
        · unfold forO; rw [if_pos hE, if_pos rfl, hO]; rfl
      | some M =>
        have tkb := take_bc t M
        have owb := ow_bc t M
        have cR1 : ∀ fl h' n', Ext h nx h' n' → C LW fl 89 [.agg t.cells, .slice p l.length cp] ⟨h', n'⟩ (Sc (· = .tuple [.agg (bcells t M), .bool true]) ⟨h', n'⟩) := fun fl h' n' e => by have := cR fl h' n' e; rw [hO] at this; exact this
        repeat' first
         | refine r_nil ?_
         | refine th_n ?_
         | refine th_r ?_
         | refine w_seq ?_
         | refine w_reg ?_
         | refine w_ret ?_
         | refine w_skip ?_
         | refine w_t (by simp (disch:=first|decide|(simp only[zF,zG];decide)) only [zA,zB,zC,zD,zE,zF,zG,zH,zI,zJ,zK,HV.cells]; first|done|exact rfl) ?_
         | refine w_f (by simp (disch:=first|decide|(simp only[zF,zG];decide)) only [zA,zB,zC,zD,zE,zF,zG,zH,zI,zJ,zK,HV.cells]; first|done|exact rfl) ?_
         | refine r_move (by simp (disch:=first|decide|(simp only[zF,zG];decide)) only [zA,zB,zC,zD,zE,zF,zG,zH,zI,zJ,zK,HV.cells]; try exact rfl) ?_
         | refine r_ldn (by simp (disch:=first|decide|(simp only[zF,zG];decide)) only [zA,zB,zC,zD,zE,zF,zG,zH,zI,zJ,zK,HV.cells]; try exact rfl) (by first|assumption|(simp (disch:=omega) only [get_same,get_other]; first|done|exact rfl)) (by first|assumption|rfl|(simp only [zI,zJ,HV.cells]; exact rfl)) ?_
         | refine r_box (by simp (disch:=first|decide|(simp only[zF,zG];decide)) only [zA,zB,zC,zD,zE,zF,zG,zH,zI,zJ,zK,HV.cells]; try exact rfl) ?_
         | refine r_alloc ?_
         | refine r_st (cs' := _) (by simp (disch:=first|decide|(simp only[zF,zG];decide)) only [zA,zB,zC,zD,zE,zF,zG,zH,zI,zJ,zK,HV.cells]; try exact rfl) (by simp (disch:=first|decide|(simp only[zF,zG];decide)) only [zA,zB,zC,zD,zE,zF,zG,zH,zI,zJ,zK,HV.cells]; try exact rfl) (by first|assumption|(simp (disch:=omega) only [get_same,get_other]; first|done|exact rfl)) (by exact True.intro) (by rfl) (by rfl) (by first|assumption|rfl|(simp only [zI,zJ,HV.cells]; exact rfl)) (by omega) ?_
         | refine r_eq (by simp (disch:=first|decide|(simp only[zF,zG];decide)) only [zA,zB,zC,zD,zE,zF,zG,zH,zI,zJ,zK,HV.cells]; try exact rfl) (by simp (disch:=first|decide|(simp only[zF,zG];decide)) only [zA,zB,zC,zD,zE,zF,zG,zH,zI,zJ,zK,HV.cells]; try exact rfl) (fun hc => ?_) (fun hc => ?_) <;> (try (exfalso; omega))
         | refine r_ne (by simp (disch:=first|decide|(simp only[zF,zG];decide)) only [zA,zB,zC,zD,zE,zF,zG,zH,zI,zJ,zK,HV.cells]; try exact rfl) (by simp (disch:=first|decide|(simp only[zF,zG];decide)) only [zA,zB,zC,zD,zE,zF,zG,zH,zI,zJ,zK,HV.cells]; try exact rfl) (fun hc => ?_) (fun hc => ?_) <;> (try (exfalso; omega))
         | refine r_eqb (by simp (disch:=first|decide|(simp only[zF,zG];decide)) only [zA,zB,zC,zD,zE,zF,zG,zH,zI,zJ,zK,HV.cells]; try exact rfl) (by simp (disch:=first|decide|(simp only[zF,zG];decide)) only [zA,zB,zC,zD,zE,zF,zG,zH,zI,zJ,zK,HV.cells]; try exact rfl) ?_
         | refine r_not1 (by simp (disch:=first|decide|(simp only[zF,zG];decide)) only [zA,zB,zC,zD,zE,zF,zG,zH,zI,zJ,zK,HV.cells]; try exact rfl) ?_
         | refine r_ext (by simp (disch:=first|decide|(simp only[zF,zG];decide)) only [zA,zB,zC,zD,zE,zF,zG,zH,zI,zJ,zK,HV.cells]; try exact rfl) (by first|assumption|rfl|(simp only [zI,zJ,HV.cells]; exact rfl)) ?_
         | refine r_build (by simp (disch:=first|decide|(simp only[zF,zG];decide)) only [evParts,List.map_cons,List.map_nil,List.nil_append,List.cons_append,List.append_nil,zA,zB,zC,zD,zE,zF,zG,zH,zI,zJ,zK,HV.cells]; try exact rfl) ?_
         | refine r_calls (by simp (disch:=first|decide|(simp only[zF,zG];decide)) only [zA,zB,zC,zD,zE,zF,zG,zH,zI,zJ,zK,HV.cells]; try exact rfl) (by simp (disch:=first|decide|(simp only[zF,zG];decide)) only [List.map_cons,List.map_nil,List.nil_append,List.cons_append,List.append_nil,zA,zB,zC,zD,zE,zF,zG,zH,zI,zJ,zK,HV.cells]; try exact rfl) (cC1 _ _ _ (by repeat' first|assumption|refine Ext.put ?_ (by omega) (by omega)|exact Ext.up (by assumption) (by omega)|exact Ext.nx (by assumption) (by omega))) (fun n' hn' => ?_)
         | refine r_calls (by simp (disch:=first|decide|(simp only[zF,zG];decide)) only [zA,zB,zC,zD,zE,zF,zG,zH,zI,zJ,zK,HV.cells]; try exact rfl) (by simp (disch:=first|decide|(simp only[zF,zG];decide)) only [List.map_cons,List.map_nil,List.nil_append,List.cons_append,List.append_nil,zA,zB,zC,zD,zE,zF,zG,zH,zI,zJ,zK,HV.cells]; try exact rfl) (cR1 _ _ _ (by repeat' first|assumption|refine Ext.put ?_ (by omega) (by omega)|exact Ext.up (by assumption) (by omega)|exact Ext.nx (by assumption) (by omega))) (fun n' hn' => ?_)
         | fail
        refine fin_m (by simp only [zL,zM]) (res_c (by simp (disch:=first|decide|(simp only[zF,zG];decide)) only [zA,zB,zC,zD,zE,zF,zG,zH,zI,zJ,zK,HV.cells]; try exact rfl) (by first|assumption|(simp (disch:=omega) only [get_same,get_other]; first|done|exact rfl)) tkb (res_t (by simp (disch:=first|decide|(simp only[zF,zG];decide)) only [zA,zB,zC,zD,zE,zF,zG,zH,zI,zJ,zK,HV.cells]; try exact rfl) res_nil)) (sc_flat ?_ (by dsimp only; omega) ?_)
        · unfold forO; rw [if_pos hE, if_pos rfl, hO]; exact flat_bc2 t M 0
        · unfold forO; rw [if_pos hE, if_pos rfl, hO]; rfl
  · repeat' first
     | refine r_nil ?_
     | refine th_n ?_
     | refine th_r ?_
     | refine w_seq ?_
     | refine w_reg ?_
     | refine w_ret ?_
     | refine w_skip ?_
     | refine w_t (by simp (disch:=first|decide|(simp only[zF,zG];decide)) only [zA,zB,zC,zD,zE,zF,zG,zH,zI,zJ,zK,HV.cells]; first|done|exact rfl) ?_
     | refine w_f (by simp (disch:=first|decide|(simp only[zF,zG];decide)) only [zA,zB,zC,zD,zE,zF,zG,zH,zI,zJ,zK,HV.cells]; first|done|exact rfl) ?_
     | refine r_move (by simp (disch:=first|decide|(simp only[zF,zG];decide)) only [zA,zB,zC,zD,zE,zF,zG,zH,zI,zJ,zK,HV.cells]; try exact rfl) ?_
     | refine r_ldn (by simp (disch:=first|decide|(simp only[zF,zG];decide)) only [zA,zB,zC,zD,zE,zF,zG,zH,zI,zJ,zK,HV.cells]; try exact rfl) (by first|assumption|(simp (disch:=omega) only [get_same,get_other]; first|done|exact rfl)) (by first|assumption|rfl|(simp only [zI,zJ,HV.cells]; exact rfl)) ?_
     | refine r_box (by simp (disch:=first|decide|(simp only[zF,zG];decide)) only [zA,zB,zC,zD,zE,zF,zG,zH,zI,zJ,zK,HV.cells]; try exact rfl) ?_
     | refine r_alloc ?_
     | refine r_st (cs' := _) (by simp (disch:=first|decide|(simp only[zF,zG];decide)) only [zA,zB,zC,zD,zE,zF,zG,zH,zI,zJ,zK,HV.cells]; try exact rfl) (by simp (disch:=first|decide|(simp only[zF,zG];decide)) only [zA,zB,zC,zD,zE,zF,zG,zH,zI,zJ,zK,HV.cells]; try exact rfl) (by first|assumption|(simp (disch:=omega) only [get_same,get_other]; first|done|exact rfl)) (by exact True.intro) (by rfl) (by rfl) (by first|assumption|rfl|(simp only [zI,zJ,HV.cells]; exact rfl)) (by omega) ?_
     | refine r_eq (by simp (disch:=first|decide|(simp only[zF,zG];decide)) only [zA,zB,zC,zD,zE,zF,zG,zH,zI,zJ,zK,HV.cells]; try exact rfl) (by simp (disch:=first|decide|(simp only[zF,zG];decide)) only [zA,zB,zC,zD,zE,zF,zG,zH,zI,zJ,zK,HV.cells]; try exact rfl) (fun hc => ?_) (fun hc => ?_) <;> (try (exfalso; omega))
     | refine r_ne (by simp (disch:=first|decide|(simp only[zF,zG];decide)) only [zA,zB,zC,zD,zE,zF,zG,zH,zI,zJ,zK,HV.cells]; try exact rfl) (by simp (disch:=first|decide|(simp only[zF,zG];decide)) only [zA,zB,zC,zD,zE,zF,zG,zH,zI,zJ,zK,HV.cells]; try exact rfl) (fun hc => ?_) (fun hc => ?_) <;> (try (exfalso; omega))
     | refine r_eqb (by simp (disch:=first|decide|(simp only[zF,zG];decide)) only [zA,zB,zC,zD,zE,zF,zG,zH,zI,zJ,zK,HV.cells]; try exact rfl) (by simp (disch:=first|decide|(simp only[zF,zG];decide)) only [zA,zB,zC,zD,zE,zF,zG,zH,zI,zJ,zK,HV.cells]; try exact rfl) ?_
     | refine r_not1 (by simp (disch:=first|decide|(simp only[zF,zG];decide)) only [zA,zB,zC,zD,zE,zF,zG,zH,zI,zJ,zK,HV.cells]; try exact rfl) ?_
     | refine r_ext (by simp (disch:=first|decide|(simp only[zF,zG];decide)) only [zA,zB,zC,zD,zE,zF,zG,zH,zI,zJ,zK,HV.cells]; try exact rfl) (by first|assumption|rfl|(simp only [zI,zJ,HV.cells]; exact rfl)) ?_
     | refine r_build (by simp (disch:=first|decide|(simp only[zF,zG];decide)) only [evParts,List.map_cons,List.map_nil,List.nil_append,List.cons_append,List.append_nil,zA,zB,zC,zD,zE,zF,zG,zH,zI,zJ,zK,HV.cells]; try exact rfl) ?_
     | refine r_calls (by simp (disch:=first|decide|(simp only[zF,zG];decide)) only [zA,zB,zC,zD,zE,zF,zG,zH,zI,zJ,zK,HV.cells]; try exact rfl) (by simp (disch:=first|decide|(simp only[zF,zG];decide)) only [List.map_cons,List.map_nil,List.nil_append,List.cons_append,List.append_nil,zA,zB,zC,zD,zE,zF,zG,zH,zI,zJ,zK,HV.cells]; try exact rfl) (cC _ _ _ (by repeat' first|assumption|refine Ext.put ?_ (by omega) (by omega)|exact Ext.up (by assumption) (by omega)|exact Ext.nx (by assumption) (by omega))) (fun n' hn' => ?_)
     | fail
    refine fin_m (by simp only [zL,zM]) (res_c (by simp (disch:=first|decide|(simp only[zF,zG];decide)) only [zA,zB,zC,zD,zE,zF,zG,zH,zI,zJ,zK,HV.cells]; try exact rfl) (by first|assumption|(simp (disch:=omega) only [get_same,get_other]; first|done|exact rfl)) tk_z (res_t (by simp (disch:=first|decide|(simp only[zF,zG];decide)) only [zA,zB,zC,zD,zE,zF,zG,zH,zI,zJ,zK,HV.cells]; try exact rfl) res_nil)) (sc_flat ?_ (by dsimp only; omega) ?_)
    · unfold forO; rw [if_neg hE]; exact flat_z2 _
    · unfold forO; rw [if_neg hE]; rfl
/- 90 -/
theorem c_lowest {fl : Nat} {h : Tr HBlk} {nx : Nat} {t : Tb} {n k : Nat} {M : Mx} (hG : Good n M) (hn : n ≤ 10) (hk : k ≤ n) : C LW fl 90 [.agg (bcells t M), i64 k] ⟨h, nx⟩ (Sc (· = i64 (-(M k 0))) ⟨h, nx⟩) := by
  have e1 : (bcells t M)[0 + 4 + k * 11 + 0 * 1]? = some (i64 (M k 0)) := bc_get t M (by omega) (by omega)
  have b1 := hG.ub k 0 hk (by omega)
  have b2 := hG.lb (i := k) (j := 0) hk (by omega)
  refine c_in lw90 rfl rfl rfl ?_
  dsimp only [L90]
  repeat' first
   | refine r_nil ?_
   | refine th_n ?_
   | refine th_r ?_
   | refine w_seq ?_
   | refine w_reg ?_
   | refine w_ret ?_
   | refine w_skip ?_
   | refine r_move (by simp (disch:=first|decide|(simp only[zF,zG];decide)) only [zA,zB,zC,zD,zE,zF,zG,zH,zI,zJ,zK,HV.cells]; try exact rfl) ?_
   | refine r_fa (by simp (disch:=first|decide|(simp only[zF,zG];decide)) only [zA,zB,zC,zD,zE,zF,zG,zH,zI,zJ,zK,HV.cells]; try exact rfl) ?_
   | refine r_ld1 (by simp (disch:=first|decide|(simp only[zF,zG];decide)) only [zA,zB,zC,zD,zE,zF,zG,zH,zI,zJ,zK,HV.cells]; try exact rfl) (by first|assumption|(simp (disch:=omega) only [get_same,get_other]; first|done|exact rfl)) (by first|assumption|rfl|(simp only [zI,zJ,HV.cells]; exact rfl)) ?_
   | refine r_box (by simp (disch:=first|decide|(simp only[zF,zG];decide)) only [zA,zB,zC,zD,zE,zF,zG,zH,zI,zJ,zK,HV.cells]; try exact rfl) ?_
   | refine r_neg (by simp (disch:=first|decide|(simp only[zF,zG];decide)) only [zA,zB,zC,zD,zE,zF,zG,zH,zI,zJ,zK,HV.cells]; try exact rfl) (by omega) (by omega) ?_
   | refine r_ixa (by simp (disch:=first|decide|(simp only[zF,zG];decide)) only [zA,zB,zC,zD,zE,zF,zG,zH,zI,zJ,zK,HV.cells]; try exact rfl) (by simp (disch:=first|decide|(simp only[zF,zG];decide)) only [zA,zB,zC,zD,zE,zF,zG,zH,zI,zJ,zK,HV.cells]; try exact rfl) (by omega) ?_
   | fail
  refine r_ixa (j := 0) (by simp (disch:=first|decide|(simp only[zF,zG];decide)) only [zA,zB,zC,zD,zE,zF,zG,zH,zI,zJ,zK,HV.cells]; try exact rfl) (by simp (disch:=first|decide|(simp only[zF,zG];decide)) only [zA,zB,zC,zD,zE,zF,zG,zH,zI,zJ,zK,HV.cells]; try exact rfl) (by omega) ?_
  repeat' first
   | refine r_nil ?_
   | refine th_n ?_
   | refine th_r ?_
   | refine w_seq ?_
   | refine w_reg ?_
   | refine w_ret ?_
   | refine w_skip ?_
   | refine r_move (by simp (disch:=first|decide|(simp only[zF,zG];decide)) only [zA,zB,zC,zD,zE,zF,zG,zH,zI,zJ,zK,HV.cells]; try exact rfl) ?_
   | refine r_fa (by simp (disch:=first|decide|(simp only[zF,zG];decide)) only [zA,zB,zC,zD,zE,zF,zG,zH,zI,zJ,zK,HV.cells]; try exact rfl) ?_
   | refine r_ld1 (by simp (disch:=first|decide|(simp only[zF,zG];decide)) only [zA,zB,zC,zD,zE,zF,zG,zH,zI,zJ,zK,HV.cells]; try exact rfl) (by first|assumption|(simp (disch:=omega) only [get_same,get_other]; first|done|exact rfl)) (by first|assumption|rfl|(simp only [zI,zJ,HV.cells]; exact rfl)) ?_
   | refine r_box (by simp (disch:=first|decide|(simp only[zF,zG];decide)) only [zA,zB,zC,zD,zE,zF,zG,zH,zI,zJ,zK,HV.cells]; try exact rfl) ?_
   | refine r_neg (by simp (disch:=first|decide|(simp only[zF,zG];decide)) only [zA,zB,zC,zD,zE,zF,zG,zH,zI,zJ,zK,HV.cells]; try exact rfl) (by omega) (by omega) ?_
   | refine r_ixa (by simp (disch:=first|decide|(simp only[zF,zG];decide)) only [zA,zB,zC,zD,zE,zF,zG,zH,zI,zJ,zK,HV.cells]; try exact rfl) (by simp (disch:=first|decide|(simp only[zF,zG];decide)) only [zA,zB,zC,zD,zE,zF,zG,zH,zI,zJ,zK,HV.cells]; try exact rfl) (by omega) ?_
   | fail
  refine fin_r (by simp only [zL,zM]) (by simp (disch:=first|decide|(simp only[zF,zG];decide)) only [zA,zB,zC,zD,zE,zF,zG,zH,zI,zJ,zK,HV.cells]; try exact rfl) (sc_flat rfl (by dsimp only; omega) ?_); rfl
/- 91 -/
theorem c_highest {fl : Nat} {h : Tr HBlk} {nx : Nat} {t : Tb} {n k : Nat} {M : Mx} (hn : n ≤ 10) (hk : k ≤ n) : C LW fl 91 [.agg (bcells t M), i64 k] ⟨h, nx⟩ (Sc (· = i64 (M 0 k)) ⟨h, nx⟩) := by
  have e1 : (bcells t M)[0 + 4 + 0 * 11 + k * 1]? = some (i64 (M 0 k)) := bc_get t M (by omega) (by omega)
  refine c_in lw91 rfl rfl rfl ?_
  dsimp only [L91]
  repeat' first
   | refine r_nil ?_
   | refine th_n ?_
   | refine th_r ?_
   | refine w_seq ?_
   | refine w_reg ?_
   | refine w_ret ?_
   | refine w_skip ?_
   | refine r_move (by simp (disch:=first|decide|(simp only[zF,zG];decide)) only [zA,zB,zC,zD,zE,zF,zG,zH,zI,zJ,zK,HV.cells]; try exact rfl) ?_
   | refine r_fa (by simp (disch:=first|decide|(simp only[zF,zG];decide)) only [zA,zB,zC,zD,zE,zF,zG,zH,zI,zJ,zK,HV.cells]; try exact rfl) ?_
   | refine r_ld1 (by simp (disch:=first|decide|(simp only[zF,zG];decide)) only [zA,zB,zC,zD,zE,zF,zG,zH,zI,zJ,zK,HV.cells]; try exact rfl) (by first|assumption|(simp (disch:=omega) only [get_same,get_other]; first|done|exact rfl)) (by first|assumption|rfl|(simp only [zI,zJ,HV.cells]; exact rfl)) ?_
   | refine r_box (by simp (disch:=first|decide|(simp only[zF,zG];decide)) only [zA,zB,zC,zD,zE,zF,zG,zH,zI,zJ,zK,HV.cells]; try exact rfl) ?_
   | refine r_ixa (by simp (disch:=first|decide|(simp only[zF,zG];decide)) only [zA,zB,zC,zD,zE,zF,zG,zH,zI,zJ,zK,HV.cells]; try exact rfl) (by simp (disch:=first|decide|(simp only[zF,zG];decide)) only [zA,zB,zC,zD,zE,zF,zG,zH,zI,zJ,zK,HV.cells]; try exact rfl) (by omega) ?_
   | fail
  refine r_ixa (j := 0) (by simp (disch:=first|decide|(simp only[zF,zG];decide)) only [zA,zB,zC,zD,zE,zF,zG,zH,zI,zJ,zK,HV.cells]; try exact rfl) (by simp (disch:=first|decide|(simp only[zF,zG];decide)) only [zA,zB,zC,zD,zE,zF,zG,zH,zI,zJ,zK,HV.cells]; try exact rfl) (by omega) ?_
  repeat' first
   | refine r_nil ?_
   | refine th_n ?_
   | refine th_r ?_
   | refine w_seq ?_
   | refine w_reg ?_
   | refine w_ret ?_
   | refine w_skip ?_
   | refine r_move (by simp (disch:=first|decide|(simp only[zF,zG];decide)) only [zA,zB,zC,zD,zE,zF,zG,zH,zI,zJ,zK,HV.cells]; try exact rfl) ?_
   | refine r_fa (by simp (disch:=first|decide|(simp only[zF,zG];decide)) only [zA,zB,zC,zD,zE,zF,zG,zH,zI,zJ,zK,HV.cells]; try exact rfl) ?_
   | refine r_ld1 (by simp (disch:=first|decide|(simp only[zF,zG];decide)) only [zA,zB,zC,zD,zE,zF,zG,zH,zI,zJ,zK,HV.cells]; try exact rfl) (by first|assumption|(simp (disch:=omega) only [get_same,get_other]; first|done|exact rfl)) (by first|assumption|rfl|(simp only [zI,zJ,HV.cells]; exact rfl)) ?_
   | refine r_box (by simp (disch:=first|decide|(simp only[zF,zG];decide)) only [zA,zB,zC,zD,zE,zF,zG,zH,zI,zJ,zK,HV.cells]; try exact rfl) ?_
   | refine r_ixa (by simp (disch:=first|decide|(simp only[zF,zG];decide)) only [zA,zB,zC,zD,zE,zF,zG,zH,zI,zJ,zK,HV.cells]; try exact rfl) (by simp (disch:=first|decide|(simp only[zF,zG];decide)) only [zA,zB,zC,zD,zE,zF,zG,zH,zI,zJ,zK,HV.cells]; try exact rfl) (by omega) ?_
   | fail
  refine fin_r (by simp only [zL,zM]) (by simp (disch:=first|decide|(simp only[zF,zG];decide)) only [zA,zB,zC,zD,zE,zF,zG,zH,zI,zJ,zK,HV.cells]; try exact rfl) (sc_flat rfl (by dsimp only; omega) ?_); rfl
/- 77 -/
theorem c_bothEnds {fl : Nat} {h : Tr HBlk} {nx : Nat} : C LW fl 77 [] ⟨h, nx⟩ (Sc (· = .agg [.func 90 [] [], .func 91 [] []]) ⟨h, nx⟩) := by
  have fi : fillH [.nilFunc, .nilFunc] [(0, 1, .func 90 [] []), (1, 1, .func 91 [] [])] = some [.func 90 [] [], .func 91 [] []] := rfl
  have ow : overwrite [.nilFunc, .nilFunc] 0 (HV.agg [.func 90 [] [], .func 91 [] []]).cells = some [.func 90 [] [], .func 91 [] []] := rfl
  refine c_in lw77 rfl rfl rfl ?_
  dsimp only [L77]
  repeat' first
   | refine r_nil ?_
   | refine th_n ?_
   | refine th_r ?_
   | refine w_seq ?_
   | refine w_reg ?_
   | refine w_ret ?_
   | refine w_skip ?_
   | refine r_alloc ?_
   | refine r_st (cs' := _) (by simp (disch:=first|decide|(simp only[zF,zG,fi];decide)) only [zA,zB,zC,zD,zE,zF,zG,zH,zI,zJ,zK,HV.cells,fi]; try exact rfl) (by simp (disch:=first|decide|(simp only[zF,zG,fi];decide)) only [zA,zB,zC,zD,zE,zF,zG,zH,zI,zJ,zK,HV.cells,fi]; try exact rfl) (by first|assumption|(simp (disch:=omega) only [get_same,get_other,fi]; first|done|exact rfl)) (by exact True.intro) (by rfl) (by rfl) (by first|assumption|rfl|(simp only [zI,zJ,HV.cells,fi]; exact rfl)) (by omega) ?_
   | refine r_build (by simp (disch:=first|decide|(simp only[zF,zG,fi];decide)) only [evParts,List.map_cons,List.map_nil,List.nil_append,List.cons_append,List.append_nil,zA,zB,zC,zD,zE,zF,zG,zH,zI,zJ,zK,HV.cells,fi]; try exact rfl) ?_
   | fail
  exact fin_m (by simp only [zL,zM]) (res_c (by simp (disch:=first|decide|(simp only[zF,zG];decide)) only [zA,zB,zC,zD,zE,zF,zG,zH,zI,zJ,zK,HV.cells]; try exact rfl) (by first|assumption|(simp (disch:=omega) only [get_same,get_other]; first|done|exact rfl)) rfl res_nil) (sc_flat rfl (by dsimp only; omega) rfl)
/-- A range as cells. -/
def renc (r : Int × Int) : List HV := [i64 r.1, i64 r.2]
theorem renc_len (r : Int × Int) : (renc r).length = 2 := rfl
theorem renc_flat (r : Int × Int) : (renc r).all flat1 = true := rfl
/-- The bounds of the first marks. -/
def BL (M : Mx) (k : Nat) : List (Int × Int) := (List.range k).map fun i => (-(M i 0), M 0 i)
theorem BL_len (M : Mx) (k : Nat) : (BL M k).length = k := by simp [BL]
theorem BL_succ (M : Mx) (k : Nat) : BL M (k + 1) = BL M k ++ [(-(M k 0), M 0 k)] := by simp [BL, List.range_succ]
theorem BL_get (M : Mx) {k i : Nat} (hi : i < k) : (BL M k)[i]? = some (-(M i 0), M 0 i) := by simp [BL, List.getElem?_range hi]
/-- Rows, and what is free behind them. -/
def FC {α : Type} (enc : α → List HV) (l : List α) (fr : Nat) : List HV := l.flatMap enc ++ List.replicate fr (i64 0)
theorem ow_many : ∀ (A Z B R : List HV), Z.length = R.length → overwrite (A ++ (Z ++ B)) A.length R = some (A ++ (R ++ B))
  | [], [], B, [], _ => by cases B <;> rfl
  | [], z :: Z, B, r :: R, h => by
    show (overwrite (Z ++ B) 0 R).map _ = _
    have := ow_many [] Z B R (by simpa using h)
    simp only [List.nil_append, List.length_nil] at this
    rw [this]; rfl
  | x :: A, Z, B, R, h => by
    cases R with
    | nil =>
      cases Z with
      | nil => rfl
      | cons z Z => simp at h
    | cons r R =>
      show (overwrite (A ++ (Z ++ B)) A.length (r :: R)).map _ = _
      rw [ow_many A Z B (r :: R) h]; rfl
theorem FC_ow {α : Type} {enc : α → List HV} {sz : Nat} (he : ∀ x, (enc x).length = sz) (l : List α) (x : α) (fr : Nat) : overwrite (FC enc l (sz + fr)) (0 + l.length * sz) (enc x) = some (FC enc (l ++ [x]) fr) := by
  unfold FC
  rw [← List.replicate_append_replicate, show 0 + l.length * sz = (l.flatMap enc).length by rw [flat_len he]; omega, ow_many _ _ _ _ (by rw [he]; simp), List.flatMap_append]
  simp
theorem repl_two : ∀ n : Nat, repl n [i64 0, i64 0] = List.replicate (2 * n) (i64 0)
  | 0 => rfl
  | n + 1 => by
    have := repl_two n
    unfold repl at this ⊢
    rw [List.replicate_succ, List.flatten_cons, this, show 2 * (n + 1) = 2 * n + 1 + 1 by omega, List.replicate_succ, List.replicate_succ]; rfl
/- 73 -/
theorem loop73 {fl : Nat} {h0 : Tr HBlk} {n0 : Nat} {Q : HExit → HAct → HS → Prop} {bb eb rb n : Nat} {t : Tb} {M : Mx} (hn : n ≤ 10) (htc : t.c = n) (hG : Good n M) (hfl : fl ≤ rb) (hb1 : bb < n0) (hb2 : eb < n0) (hb3 : rb < n0) (hb4 : bb ≠ rb) (hb5 : eb ≠ rb)
    (hgb : h0.get bb = some (.cells (bcells t M) .exact)) (hge : h0.get eb = some (.cells [.func 90 [] [], .func 91 [] []] .exact)) :
    ∀ (m i : Nat) (a : HAct) (h : Tr HBlk) (nx : Nat), m + i = n + 1 → n0 ≤ nx → D h nx → (∀ b, b < n0 → b ≠ rb → h.get b = h0.get b) → h.get rb = some (.cells (FC renc (BL M i) (2 * m)) .exact) →
      a.nt = 34 → a.defers = [] → a.tmp 1 = .ptr (some (bb, 0)) → a.tmp 3 = .ptr (some (eb, 0)) → a.tmp 4 = .slice (some (rb, 0)) i (n + 1) → a.tmp 5 = i64 i →
      (∀ a' h' n', n0 ≤ n' → h'.get rb = some (.cells (FC renc (BL M (n + 1)) 0) .exact) → a'.nt = 34 → a'.defers = [] → a'.tmp 4 = .slice (some (rb, 0)) (n + 1) (n + 1) → Q .normal a' ⟨h', n'⟩) → W LW fl none (.loop L73w0) (inBlockH 0 Q) a ⟨h, nx⟩
  | 0, i, a, h, nx, hm, hnx, hd, hs, hgr, hnt, hds, h1, h3, h4, h5, hq => by
    have hi : i = n + 1 := by omega
    subst hi
    have ec : (bcells t M)[0 + 0 + 0]? = some (i64 n) := by rw [← htc]; rfl
    have hgb' : h.get bb = some (.cells (bcells t M) .exact) := by rw [hs _ hb1 hb4]; exact hgb
    refine w_it (show L73w0 = _ by unfold L73w0; exact rfl) ?_
    repeat' first
     | refine r_nil ?_
     | refine th_n ?_
     | refine th_r ?_
     | refine th_e ?_
     | refine ib_n ?_
     | refine ib_r ?_
     | refine ib_e ?_
     | refine ib_x (by decide) ?_
     | refine w_exit ?_
     | refine w_seq ?_
     | refine w_reg ?_
     | refine w_ret ?_
     | refine w_skip ?_
     | refine w_block ?_
     | refine w_t (by simp (disch:=first|decide|(simp only[zF,zG,hnt, h1, h3, h4, h5];decide)) only [zA,zB,zC,zD,zE,zF,zG,zH,zI,zJ,zK,HV.cells,hnt, h1, h3, h4, h5]; first|done|exact rfl) ?_
     | refine w_f (by simp (disch:=first|decide|(simp only[zF,zG,hnt, h1, h3, h4, h5];decide)) only [zA,zB,zC,zD,zE,zF,zG,zH,zI,zJ,zK,HV.cells,hnt, h1, h3, h4, h5]; first|done|exact rfl) ?_
     | refine r_move (by simp (disch:=first|decide|(simp only[zF,zG,hnt, h1, h3, h4, h5];decide)) only [zA,zB,zC,zD,zE,zF,zG,zH,zI,zJ,zK,HV.cells,hnt, h1, h3, h4, h5]; try exact rfl) ?_
     | refine r_fa (by simp (disch:=first|decide|(simp only[zF,zG,hnt, h1, h3, h4, h5];decide)) only [zA,zB,zC,zD,zE,zF,zG,zH,zI,zJ,zK,HV.cells,hnt, h1, h3, h4, h5]; try exact rfl) ?_
     | refine r_ld1 (by simp (disch:=first|decide|(simp only[zF,zG,hnt, h1, h3, h4, h5];decide)) only [zA,zB,zC,zD,zE,zF,zG,zH,zI,zJ,zK,HV.cells,hnt, h1, h3, h4, h5]; try exact rfl) (by first|assumption|(simp (disch:=omega) only [get_same,get_other,hnt, h1, h3, h4, h5]; first|done|exact rfl)) (by first|assumption|rfl|(simp only [zI,zJ,HV.cells,hnt, h1, h3, h4, h5]; exact rfl)) ?_
     | refine r_ldn (by simp (disch:=first|decide|(simp only[zF,zG,hnt, h1, h3, h4, h5];decide)) only [zA,zB,zC,zD,zE,zF,zG,zH,zI,zJ,zK,HV.cells,hnt, h1, h3, h4, h5]; try exact rfl) (by first|assumption|(simp (disch:=omega) only [get_same,get_other,hnt, h1, h3, h4, h5]; first|done|exact rfl)) (by first|assumption|rfl|(simp only [zI,zJ,HV.cells,hnt, h1, h3, h4, h5]; exact rfl)) ?_
     | refine r_box (by simp (disch:=first|decide|(simp only[zF,zG,hnt, h1, h3, h4, h5];decide)) only [zA,zB,zC,zD,zE,zF,zG,zH,zI,zJ,zK,HV.cells,hnt, h1, h3, h4, h5]; try exact rfl) ?_
     | refine r_alloc ?_
     | refine r_st (cs' := _) (by simp (disch:=first|decide|(simp only[zF,zG,hnt, h1, h3, h4, h5];decide)) only [zA,zB,zC,zD,zE,zF,zG,zH,zI,zJ,zK,HV.cells,hnt, h1, h3, h4, h5]; try exact rfl) (by simp (disch:=first|decide|(simp only[zF,zG,hnt, h1, h3, h4, h5];decide)) only [zA,zB,zC,zD,zE,zF,zG,zH,zI,zJ,zK,HV.cells,hnt, h1, h3, h4, h5]; try exact rfl) (by first|assumption|(simp (disch:=omega) only [get_same,get_other,hnt, h1, h3, h4, h5]; first|done|exact rfl)) (by exact True.intro) (by rfl) (by rfl) (by first|assumption|rfl|(simp only [zI,zJ,HV.cells,hnt, h1, h3, h4, h5]; exact rfl)) (by omega) ?_
     | refine r_add (by simp (disch:=first|decide|(simp only[zF,zG,hnt, h1, h3, h4, h5];decide)) only [zA,zB,zC,zD,zE,zF,zG,zH,zI,zJ,zK,HV.cells,hnt, h1, h3, h4, h5]; try exact rfl) (by simp (disch:=first|decide|(simp only[zF,zG,hnt, h1, h3, h4, h5];decide)) only [zA,zB,zC,zD,zE,zF,zG,zH,zI,zJ,zK,HV.cells,hnt, h1, h3, h4, h5]; try exact rfl) (by omega) (by omega) ?_
     | refine r_leq (by simp (disch:=first|decide|(simp only[zF,zG,hnt, h1, h3, h4, h5];decide)) only [zA,zB,zC,zD,zE,zF,zG,zH,zI,zJ,zK,HV.cells,hnt, h1, h3, h4, h5]; try exact rfl) (by simp (disch:=first|decide|(simp only[zF,zG,hnt, h1, h3, h4, h5];decide)) only [zA,zB,zC,zD,zE,zF,zG,zH,zI,zJ,zK,HV.cells,hnt, h1, h3, h4, h5]; try exact rfl) (fun hc => ?_) (fun hc => ?_) <;> (try (exfalso; omega))
     | refine r_build (by simp (disch:=first|decide|(simp only[zF,zG,hnt, h1, h3, h4, h5];decide)) only [evParts,List.map_cons,List.map_nil,List.nil_append,List.cons_append,List.append_nil,zA,zB,zC,zD,zE,zF,zG,zH,zI,zJ,zK,HV.cells,hnt, h1, h3, h4, h5]; try exact rfl) ?_
     | refine r_bs (by simp (disch:=first|decide|(simp only[zF,zG,hnt, h1, h3, h4, h5];decide)) only [evParts,List.map_cons,List.map_nil,List.nil_append,List.cons_append,List.append_nil,zA,zB,zC,zD,zE,zF,zG,zH,zI,zJ,zK,HV.cells,hnt, h1, h3, h4, h5]; try exact rfl) ?_
     | refine w_draw (by omega) (by repeat' first|assumption|refine D.upd ?_ (by omega)|exact D.mono (by assumption) (by omega)) ?_
     | refine d_nil ?_
     | refine d_rest rfl ?_
     | refine d_bs rfl ?_
     | refine d_box rfl ?_
     | refine d_alloc rfl ?_
     | refine d_one rfl ?_
     | refine d_next (by omega) ?_
     | refine d_laid ?_
     | fail
    refine hq _ _ _ hnx hgr ?_ ?_ ?_
    all_goals first|(simp only [zL,zM,zF,zG,hnt, hds, h4];done)|(simp (disch:=first|decide|(simp only[zF,zG,hnt, hds, h4];decide)) only [zA,zB,zC,zD,zE,zF,zG,zH,zI,zJ,zK,HV.cells,hnt, hds, h4];first|done|exact rfl)|assumption
  | m + 1, i, a, h, nx, hm, hnx, hd, hs, hgr, hnt, hds, h1, h3, h4, h5, hq => by
    have hi : i ≤ n := by omega
    have ec : (bcells t M)[0 + 0 + 0]? = some (i64 n) := by rw [← htc]; rfl
    have tkb := take_bc t M
    have hgb' : h.get bb = some (.cells (bcells t M) .exact) := by rw [hs _ hb1 hb4]; exact hgb
    have hge' : h.get eb = some (.cells [.func 90 [] [], .func 91 [] []] .exact) := by rw [hs _ hb2 hb5]; exact hge
    have fi : fillH [i64 0, i64 0] [(0, 1, i64 (-(M i 0))), (1, 1, i64 (M 0 i))] = some (renc (-(M i 0), M 0 i)) := rfl
    have fi2 : fillH (repl 1 [i64 0, i64 0]) [(0, 2, .agg (renc (-(M i 0), M 0 i)))] = some (renc (-(M i 0), M 0 i)) := rfl
    refine w_it (show L73w0 = _ by unfold L73w0; exact rfl) ?_
    repeat' first
     | refine r_nil ?_
     | refine th_n ?_
     | refine th_r ?_
     | refine th_e ?_
     | refine ib_n ?_
     | refine ib_r ?_
     | refine ib_e ?_
     | refine ib_x (by decide) ?_
     | refine w_exit ?_
     | refine w_seq ?_
     | refine w_reg ?_
     | refine w_ret ?_
     | refine w_skip ?_
     | refine w_block ?_
     | refine w_t (by simp (disch:=first|decide|(simp only[zF,zG,hnt, h1, h3, h4, h5, fi, fi2];decide)) only [zA,zB,zC,zD,zE,zF,zG,zH,zI,zJ,zK,HV.cells,hnt, h1, h3, h4, h5, fi, fi2]; first|done|exact rfl) ?_
     | refine w_f (by simp (disch:=first|decide|(simp only[zF,zG,hnt, h1, h3, h4, h5, fi, fi2];decide)) only [zA,zB,zC,zD,zE,zF,zG,zH,zI,zJ,zK,HV.cells,hnt, h1, h3, h4, h5, fi, fi2]; first|done|exact rfl) ?_
     | refine r_move (by simp (disch:=first|decide|(simp only[zF,zG,hnt, h1, h3, h4, h5, fi, fi2];decide)) only [zA,zB,zC,zD,zE,zF,zG,zH,zI,zJ,zK,HV.cells,hnt, h1, h3, h4, h5, fi, fi2]; try exact rfl) ?_
     | refine r_fa (by simp (disch:=first|decide|(simp only[zF,zG,hnt, h1, h3, h4, h5, fi, fi2];decide)) only [zA,zB,zC,zD,zE,zF,zG,zH,zI,zJ,zK,HV.cells,hnt, h1, h3, h4, h5, fi, fi2]; try exact rfl) ?_
     | refine r_ld1 (by simp (disch:=first|decide|(simp only[zF,zG,hnt, h1, h3, h4, h5, fi, fi2];decide)) only [zA,zB,zC,zD,zE,zF,zG,zH,zI,zJ,zK,HV.cells,hnt, h1, h3, h4, h5, fi, fi2]; try exact rfl) (by first|assumption|(simp (disch:=omega) only [get_same,get_other,hnt, h1, h3, h4, h5, fi, fi2]; first|done|exact rfl)) (by first|assumption|rfl|(simp only [zI,zJ,HV.cells,hnt, h1, h3, h4, h5, fi, fi2]; exact rfl)) ?_
     | refine r_ldn (by simp (disch:=first|decide|(simp only[zF,zG,hnt, h1, h3, h4, h5, fi, fi2];decide)) only [zA,zB,zC,zD,zE,zF,zG,zH,zI,zJ,zK,HV.cells,hnt, h1, h3, h4, h5, fi, fi2]; try exact rfl) (by first|assumption|(simp (disch:=omega) only [get_same,get_other,hnt, h1, h3, h4, h5, fi, fi2]; first|done|exact rfl)) (by first|assumption|rfl|(simp only [zI,zJ,HV.cells,hnt, h1, h3, h4, h5, fi, fi2]; exact rfl)) ?_
     | refine r_box (by simp (disch:=first|decide|(simp only[zF,zG,hnt, h1, h3, h4, h5, fi, fi2];decide)) only [zA,zB,zC,zD,zE,zF,zG,zH,zI,zJ,zK,HV.cells,hnt, h1, h3, h4, h5, fi, fi2]; try exact rfl) ?_
     | refine r_alloc ?_
     | refine r_st (cs' := _) (by simp (disch:=first|decide|(simp only[zF,zG,hnt, h1, h3, h4, h5, fi, fi2];decide)) only [zA,zB,zC,zD,zE,zF,zG,zH,zI,zJ,zK,HV.cells,hnt, h1, h3, h4, h5, fi, fi2]; try exact rfl) (by simp (disch:=first|decide|(simp only[zF,zG,hnt, h1, h3, h4, h5, fi, fi2];decide)) only [zA,zB,zC,zD,zE,zF,zG,zH,zI,zJ,zK,HV.cells,hnt, h1, h3, h4, h5, fi, fi2]; try exact rfl) (by first|assumption|(simp (disch:=omega) only [get_same,get_other,hnt, h1, h3, h4, h5, fi, fi2]; first|done|exact rfl)) (by exact True.intro) (by rfl) (by rfl) (by first|assumption|rfl|(simp only [zI,zJ,HV.cells,hnt, h1, h3, h4, h5, fi, fi2]; exact rfl)) (by omega) ?_
     | refine r_add (by simp (disch:=first|decide|(simp only[zF,zG,hnt, h1, h3, h4, h5, fi, fi2];decide)) only [zA,zB,zC,zD,zE,zF,zG,zH,zI,zJ,zK,HV.cells,hnt, h1, h3, h4, h5, fi, fi2]; try exact rfl) (by simp (disch:=first|decide|(simp only[zF,zG,hnt, h1, h3, h4, h5, fi, fi2];decide)) only [zA,zB,zC,zD,zE,zF,zG,zH,zI,zJ,zK,HV.cells,hnt, h1, h3, h4, h5, fi, fi2]; try exact rfl) (by omega) (by omega) ?_
     | refine r_leq (by simp (disch:=first|decide|(simp only[zF,zG,hnt, h1, h3, h4, h5, fi, fi2];decide)) only [zA,zB,zC,zD,zE,zF,zG,zH,zI,zJ,zK,HV.cells,hnt, h1, h3, h4, h5, fi, fi2]; try exact rfl) (by simp (disch:=first|decide|(simp only[zF,zG,hnt, h1, h3, h4, h5, fi, fi2];decide)) only [zA,zB,zC,zD,zE,zF,zG,zH,zI,zJ,zK,HV.cells,hnt, h1, h3, h4, h5, fi, fi2]; try exact rfl) (fun hc => ?_) (fun hc => ?_) <;> (try (exfalso; omega))
     | refine r_build (by simp (disch:=first|decide|(simp only[zF,zG,hnt, h1, h3, h4, h5, fi, fi2];decide)) only [evParts,List.map_cons,List.map_nil,List.nil_append,List.cons_append,List.append_nil,zA,zB,zC,zD,zE,zF,zG,zH,zI,zJ,zK,HV.cells,hnt, h1, h3, h4, h5, fi, fi2]; try exact rfl) ?_
     | refine r_bs (by simp (disch:=first|decide|(simp only[zF,zG,hnt, h1, h3, h4, h5, fi, fi2];decide)) only [evParts,List.map_cons,List.map_nil,List.nil_append,List.cons_append,List.append_nil,zA,zB,zC,zD,zE,zF,zG,zH,zI,zJ,zK,HV.cells,hnt, h1, h3, h4, h5, fi, fi2]; try exact rfl) ?_
     | refine r_calls (by simp (disch:=first|decide|(simp only[zF,zG,hnt, h1, h3, h4, h5, fi, fi2];decide)) only [zA,zB,zC,zD,zE,zF,zG,zH,zI,zJ,zK,HV.cells,hnt, h1, h3, h4, h5, fi, fi2]; try exact rfl) (by simp (disch:=first|decide|(simp only[zF,zG,hnt, h1, h3, h4, h5, fi, fi2];decide)) only [List.map_cons,List.map_nil,List.nil_append,List.cons_append,List.append_nil,zA,zB,zC,zD,zE,zF,zG,zH,zI,zJ,zK,HV.cells,hnt, h1, h3, h4, h5, fi, fi2]; try exact rfl) (c_lowest hG hn hi) (fun n' hn' => ?_)
     | refine r_calls (by simp (disch:=first|decide|(simp only[zF,zG,hnt, h1, h3, h4, h5, fi, fi2];decide)) only [zA,zB,zC,zD,zE,zF,zG,zH,zI,zJ,zK,HV.cells,hnt, h1, h3, h4, h5, fi, fi2]; try exact rfl) (by simp (disch:=first|decide|(simp only[zF,zG,hnt, h1, h3, h4, h5, fi, fi2];decide)) only [List.map_cons,List.map_nil,List.nil_append,List.cons_append,List.append_nil,zA,zB,zC,zD,zE,zF,zG,zH,zI,zJ,zK,HV.cells,hnt, h1, h3, h4, h5, fi, fi2]; try exact rfl) (c_highest hn hi) (fun n' hn' => ?_)
     | refine w_draw (by omega) (by repeat' first|assumption|refine D.upd ?_ (by omega)|exact D.mono (by assumption) (by omega)) ?_
     | refine d_nil ?_
     | refine d_rest rfl ?_
     | refine d_bs rfl ?_
     | refine d_box rfl ?_
     | refine d_alloc rfl ?_
     | refine d_one rfl ?_
     | refine d_next (by omega) ?_
     | refine d_laid ?_
     | fail
    have hfc := FC_ow renc_len (BL M i) (-(M i 0), M 0 i) (2 * m)
    rw [BL_len, ← BL_succ] at hfc
    have ha := app_in (fl := fl) (size := 2) (bytes := 16) (nx := n' + 1) (h := h.set n' (some (.cells (renc (-(M i 0), M 0 i)) .exact))) (bx := n') (ox := 0) (cx := 1) (n := 1) (b := rb) (o := 0) (k := i) (z := n + 1) (row := renc (-(M i 0), M 0 i)) (k2 := .exact) (get_same _ _ _) rfl (by rw [get_other _ _ (by omega)]; exact hgr) True.intro (by omega) rfl (by simp [renc]) (by omega) (by rw [show 2 * (m + 1) = 2 + 2 * m by omega]; exact hfc)
    refine r_app (by simp (disch:=first|decide|(simp only[zF,zG,hnt, h4];decide)) only [zA,zB,zC,zD,zE,zF,zG,zH,zI,zJ,zK,HV.cells,hnt, h4]; try exact rfl) (by simp (disch:=first|decide|(simp only[zF,zG,hnt];decide)) only [zA,zB,zC,zD,zE,zF,zG,zH,zI,zJ,zK,HV.cells,hnt]; try exact rfl) ha ?_
    repeat' first
     | refine r_nil ?_
     | refine th_n ?_
     | refine th_r ?_
     | refine th_e ?_
     | refine ib_n ?_
     | refine ib_r ?_
     | refine ib_e ?_
     | refine ib_x (by decide) ?_
     | refine w_exit ?_
     | refine w_seq ?_
     | refine w_reg ?_
     | refine w_ret ?_
     | refine w_skip ?_
     | refine w_block ?_
     | refine w_t (by simp (disch:=first|decide|(simp only[zF,zG,hnt, h1, h3, h5];decide)) only [zA,zB,zC,zD,zE,zF,zG,zH,zI,zJ,zK,HV.cells,hnt, h1, h3, h5]; first|done|exact rfl) ?_
     | refine w_f (by simp (disch:=first|decide|(simp only[zF,zG,hnt, h1, h3, h5];decide)) only [zA,zB,zC,zD,zE,zF,zG,zH,zI,zJ,zK,HV.cells,hnt, h1, h3, h5]; first|done|exact rfl) ?_
     | refine r_move (by simp (disch:=first|decide|(simp only[zF,zG,hnt, h1, h3, h5];decide)) only [zA,zB,zC,zD,zE,zF,zG,zH,zI,zJ,zK,HV.cells,hnt, h1, h3, h5]; try exact rfl) ?_
     | refine r_fa (by simp (disch:=first|decide|(simp only[zF,zG,hnt, h1, h3, h5];decide)) only [zA,zB,zC,zD,zE,zF,zG,zH,zI,zJ,zK,HV.cells,hnt, h1, h3, h5]; try exact rfl) ?_
     | refine r_ld1 (by simp (disch:=first|decide|(simp only[zF,zG,hnt, h1, h3, h5];decide)) only [zA,zB,zC,zD,zE,zF,zG,zH,zI,zJ,zK,HV.cells,hnt, h1, h3, h5]; try exact rfl) (by first|assumption|(simp (disch:=omega) only [get_same,get_other,hnt, h1, h3, h5]; first|done|exact rfl)) (by first|assumption|rfl|(simp only [zI,zJ,HV.cells,hnt, h1, h3, h5]; exact rfl)) ?_
     | refine r_ldn (by simp (disch:=first|decide|(simp only[zF,zG,hnt, h1, h3, h5];decide)) only [zA,zB,zC,zD,zE,zF,zG,zH,zI,zJ,zK,HV.cells,hnt, h1, h3, h5]; try exact rfl) (by first|assumption|(simp (disch:=omega) only [get_same,get_other,hnt, h1, h3, h5]; first|done|exact rfl)) (by first|assumption|rfl|(simp only [zI,zJ,HV.cells,hnt, h1, h3, h5]; exact rfl)) ?_
     | refine r_box (by simp (disch:=first|decide|(simp only[zF,zG,hnt, h1, h3, h5];decide)) only [zA,zB,zC,zD,zE,zF,zG,zH,zI,zJ,zK,HV.cells,hnt, h1, h3, h5]; try exact rfl) ?_
     | refine r_alloc ?_
     | refine r_st (cs' := _) (by simp (disch:=first|decide|(simp only[zF,zG,hnt, h1, h3, h5];decide)) only [zA,zB,zC,zD,zE,zF,zG,zH,zI,zJ,zK,HV.cells,hnt, h1, h3, h5]; try exact rfl) (by simp (disch:=first|decide|(simp only[zF,zG,hnt, h1, h3, h5];decide)) only [zA,zB,zC,zD,zE,zF,zG,zH,zI,zJ,zK,HV.cells,hnt, h1, h3, h5]; try exact rfl) (by first|assumption|(simp (disch:=omega) only [get_same,get_other,hnt, h1, h3, h5]; first|done|exact rfl)) (by exact True.intro) (by rfl) (by rfl) (by first|assumption|rfl|(simp only [zI,zJ,HV.cells,hnt, h1, h3, h5]; exact rfl)) (by omega) ?_
     | refine r_add (by simp (disch:=first|decide|(simp only[zF,zG,hnt, h1, h3, h5];decide)) only [zA,zB,zC,zD,zE,zF,zG,zH,zI,zJ,zK,HV.cells,hnt, h1, h3, h5]; try exact rfl) (by simp (disch:=first|decide|(simp only[zF,zG,hnt, h1, h3, h5];decide)) only [zA,zB,zC,zD,zE,zF,zG,zH,zI,zJ,zK,HV.cells,hnt, h1, h3, h5]; try exact rfl) (by omega) (by omega) ?_
     | refine r_leq (by simp (disch:=first|decide|(simp only[zF,zG,hnt, h1, h3, h5];decide)) only [zA,zB,zC,zD,zE,zF,zG,zH,zI,zJ,zK,HV.cells,hnt, h1, h3, h5]; try exact rfl) (by simp (disch:=first|decide|(simp only[zF,zG,hnt, h1, h3, h5];decide)) only [zA,zB,zC,zD,zE,zF,zG,zH,zI,zJ,zK,HV.cells,hnt, h1, h3, h5]; try exact rfl) (fun hc => ?_) (fun hc => ?_) <;> (try (exfalso; omega))
     | refine r_build (by simp (disch:=first|decide|(simp only[zF,zG,hnt, h1, h3, h5];decide)) only [evParts,List.map_cons,List.map_nil,List.nil_append,List.cons_append,List.append_nil,zA,zB,zC,zD,zE,zF,zG,zH,zI,zJ,zK,HV.cells,hnt, h1, h3, h5]; try exact rfl) ?_
     | refine r_bs (by simp (disch:=first|decide|(simp only[zF,zG,hnt, h1, h3, h5];decide)) only [evParts,List.map_cons,List.map_nil,List.nil_append,List.cons_append,List.append_nil,zA,zB,zC,zD,zE,zF,zG,zH,zI,zJ,zK,HV.cells,hnt, h1, h3, h5]; try exact rfl) ?_
     | refine w_draw (by omega) (by repeat' first|assumption|refine D.upd ?_ (by omega)|exact D.mono (by assumption) (by omega)) ?_
     | refine d_nil ?_
     | refine d_rest rfl ?_
     | refine d_bs rfl ?_
     | refine d_box rfl ?_
     | refine d_alloc rfl ?_
     | refine d_one rfl ?_
     | refine d_next (by omega) ?_
     | refine d_laid ?_
     | fail
    refine loop73 hn htc hG hfl hb1 hb2 hb3 hb4 hb5 hgb hge m (i + 1) _ _ _ (by omega) (by omega) (by repeat' first|assumption|refine D.upd ?_ (by omega)|exact D.mono (by assumption) (by omega)) (fun b hb hne => ?_) (get_same _ _ _) ?_ ?_ ?_ ?_ ?_ ?_ hq
    all_goals try first|(simp only [zL,zM,zF,zG,hnt, hds, h1, h3, h5];done)|(simp (disch:=first|decide|(simp only[zF,zG,hnt, hds, h1, h3, h5];decide)) only [zA,zB,zC,zD,zE,zF,zG,zH,zI,zJ,zK,HV.cells,hnt, hds, h1, h3, h5];first|done|exact rfl)|assumption
    rw [get_other _ _ hne, get_other _ _ (by omega)]; exact hs b hb hne
theorem c_bounds {fl : Nat} {h : Tr HBlk} {nx : Nat} (hd : D h nx) {t : Tb} {n : Nat} {M : Mx} (hn : n ≤ 10) (htc : t.c = n) (hG : Good n M) : C LW fl 73 [.agg (bcells t M)] ⟨h, nx⟩ (ScL renc 2 (BL M (n + 1)) ⟨h, nx⟩) := by
  have ec : (bcells t M)[0 + 0 + 0]? = some (i64 n) := by rw [← htc]; rfl
  have ow : overwrite [.nilFunc, .nilFunc] 0 (HV.agg [.func 90 [] [], .func 91 [] []]).cells = some [.func 90 [] [], .func 91 [] []] := rfl
  refine c_in lw73 rfl rfl rfl ?_
  dsimp only [L73]
  repeat' first
   | refine r_nil ?_
   | refine th_n ?_
   | refine th_r ?_
   | refine th_e ?_
   | refine ib_n ?_
   | refine ib_r ?_
   | refine ib_e ?_
   | refine ib_x (by decide) ?_
   | refine w_exit ?_
   | refine w_seq ?_
   | refine w_reg ?_
   | refine w_ret ?_
   | refine w_skip ?_
   | refine w_block ?_
   | refine w_t (by simp (disch:=first|decide|(simp only[zF,zG];decide)) only [zA,zB,zC,zD,zE,zF,zG,zH,zI,zJ,zK,HV.cells]; first|done|exact rfl) ?_
   | refine w_f (by simp (disch:=first|decide|(simp only[zF,zG];decide)) only [zA,zB,zC,zD,zE,zF,zG,zH,zI,zJ,zK,HV.cells]; first|done|exact rfl) ?_
   | refine r_move (by simp (disch:=first|decide|(simp only[zF,zG];decide)) only [zA,zB,zC,zD,zE,zF,zG,zH,zI,zJ,zK,HV.cells]; try exact rfl) ?_
   | refine r_fa (by simp (disch:=first|decide|(simp only[zF,zG];decide)) only [zA,zB,zC,zD,zE,zF,zG,zH,zI,zJ,zK,HV.cells]; try exact rfl) ?_
   | refine r_ld1 (by simp (disch:=first|decide|(simp only[zF,zG];decide)) only [zA,zB,zC,zD,zE,zF,zG,zH,zI,zJ,zK,HV.cells]; try exact rfl) (by first|assumption|(simp (disch:=omega) only [get_same,get_other]; first|done|exact rfl)) (by first|assumption|rfl|(simp only [zI,zJ,HV.cells]; exact rfl)) ?_
   | refine r_ldn (by simp (disch:=first|decide|(simp only[zF,zG];decide)) only [zA,zB,zC,zD,zE,zF,zG,zH,zI,zJ,zK,HV.cells]; try exact rfl) (by first|assumption|(simp (disch:=omega) only [get_same,get_other]; first|done|exact rfl)) (by first|assumption|rfl|(simp only [zI,zJ,HV.cells]; exact rfl)) ?_
   | refine r_box (by simp (disch:=first|decide|(simp only[zF,zG];decide)) only [zA,zB,zC,zD,zE,zF,zG,zH,zI,zJ,zK,HV.cells]; try exact rfl) ?_
   | refine r_alloc ?_
   | refine r_st (cs' := _) (by simp (disch:=first|decide|(simp only[zF,zG];decide)) only [zA,zB,zC,zD,zE,zF,zG,zH,zI,zJ,zK,HV.cells]; try exact rfl) (by simp (disch:=first|decide|(simp only[zF,zG];decide)) only [zA,zB,zC,zD,zE,zF,zG,zH,zI,zJ,zK,HV.cells]; try exact rfl) (by first|assumption|(simp (disch:=omega) only [get_same,get_other]; first|done|exact rfl)) (by exact True.intro) (by rfl) (by rfl) (by first|assumption|rfl|(simp only [zI,zJ,HV.cells]; exact rfl)) (by omega) ?_
   | refine r_add (by simp (disch:=first|decide|(simp only[zF,zG];decide)) only [zA,zB,zC,zD,zE,zF,zG,zH,zI,zJ,zK,HV.cells]; try exact rfl) (by simp (disch:=first|decide|(simp only[zF,zG];decide)) only [zA,zB,zC,zD,zE,zF,zG,zH,zI,zJ,zK,HV.cells]; try exact rfl) (by omega) (by omega) ?_
   | refine r_leq (by simp (disch:=first|decide|(simp only[zF,zG];decide)) only [zA,zB,zC,zD,zE,zF,zG,zH,zI,zJ,zK,HV.cells]; try exact rfl) (by simp (disch:=first|decide|(simp only[zF,zG];decide)) only [zA,zB,zC,zD,zE,zF,zG,zH,zI,zJ,zK,HV.cells]; try exact rfl) (fun hc => ?_) (fun hc => ?_) <;> (try (exfalso; omega))
   | refine r_build (by simp (disch:=first|decide|(simp only[zF,zG];decide)) only [evParts,List.map_cons,List.map_nil,List.nil_append,List.cons_append,List.append_nil,zA,zB,zC,zD,zE,zF,zG,zH,zI,zJ,zK,HV.cells]; try exact rfl) ?_
   | refine r_bs (by simp (disch:=first|decide|(simp only[zF,zG];decide)) only [evParts,List.map_cons,List.map_nil,List.nil_append,List.cons_append,List.append_nil,zA,zB,zC,zD,zE,zF,zG,zH,zI,zJ,zK,HV.cells]; try exact rfl) ?_
   | refine r_calls (by simp (disch:=first|decide|(simp only[zF,zG];decide)) only [zA,zB,zC,zD,zE,zF,zG,zH,zI,zJ,zK,HV.cells]; try exact rfl) (by simp (disch:=first|decide|(simp only[zF,zG];decide)) only [List.map_cons,List.map_nil,List.nil_append,List.cons_append,List.append_nil,zA,zB,zC,zD,zE,zF,zG,zH,zI,zJ,zK,HV.cells]; try exact rfl) c_bothEnds (fun n' hn' => ?_)
   | refine w_draw (by omega) (by repeat' first|assumption|refine D.upd ?_ (by omega)|exact D.mono (by assumption) (by omega)) ?_
   | refine d_nil ?_
   | refine d_rest rfl ?_
   | refine d_bs rfl ?_
   | refine d_box rfl ?_
   | refine d_alloc rfl ?_
   | refine d_one rfl ?_
   | refine d_next (by omega) ?_
   | refine d_laid ?_
   | fail
  refine r_ms (ln := 0) (cn := n + 1) (by simp (disch:=first|decide|(simp only[zF,zG];decide)) only [zA,zB,zC,zD,zE,zF,zG,zH,zI,zJ,zK,HV.cells]; try exact rfl) (by simp (disch:=first|decide|(simp only[zF,zG];decide)) only [zA,zB,zC,zD,zE,zF,zG,zH,zI,zJ,zK,HV.cells]; try exact rfl) (by omega) (by omega) (by omega) ?_
  rw [repl_two, show List.replicate (2 * (n + 1)) (i64 0) = FC renc (BL M 0) (2 * (n + 1)) from rfl]
  repeat' first
   | refine r_nil ?_
   | refine th_n ?_
   | refine th_r ?_
   | refine th_e ?_
   | refine ib_n ?_
   | refine ib_r ?_
   | refine ib_e ?_
   | refine ib_x (by decide) ?_
   | refine w_exit ?_
   | refine w_seq ?_
   | refine w_reg ?_
   | refine w_ret ?_
   | refine w_skip ?_
   | refine w_block ?_
   | refine w_t (by simp (disch:=first|decide|(simp only[zF,zG];decide)) only [zA,zB,zC,zD,zE,zF,zG,zH,zI,zJ,zK,HV.cells]; first|done|exact rfl) ?_
   | refine w_f (by simp (disch:=first|decide|(simp only[zF,zG];decide)) only [zA,zB,zC,zD,zE,zF,zG,zH,zI,zJ,zK,HV.cells]; first|done|exact rfl) ?_
   | refine r_move (by simp (disch:=first|decide|(simp only[zF,zG];decide)) only [zA,zB,zC,zD,zE,zF,zG,zH,zI,zJ,zK,HV.cells]; try exact rfl) ?_
   | refine r_fa (by simp (disch:=first|decide|(simp only[zF,zG];decide)) only [zA,zB,zC,zD,zE,zF,zG,zH,zI,zJ,zK,HV.cells]; try exact rfl) ?_
   | refine r_ld1 (by simp (disch:=first|decide|(simp only[zF,zG];decide)) only [zA,zB,zC,zD,zE,zF,zG,zH,zI,zJ,zK,HV.cells]; try exact rfl) (by first|assumption|(simp (disch:=omega) only [get_same,get_other]; first|done|exact rfl)) (by first|assumption|rfl|(simp only [zI,zJ,HV.cells]; exact rfl)) ?_
   | refine r_ldn (by simp (disch:=first|decide|(simp only[zF,zG];decide)) only [zA,zB,zC,zD,zE,zF,zG,zH,zI,zJ,zK,HV.cells]; try exact rfl) (by first|assumption|(simp (disch:=omega) only [get_same,get_other]; first|done|exact rfl)) (by first|assumption|rfl|(simp only [zI,zJ,HV.cells]; exact rfl)) ?_
   | refine r_box (by simp (disch:=first|decide|(simp only[zF,zG];decide)) only [zA,zB,zC,zD,zE,zF,zG,zH,zI,zJ,zK,HV.cells]; try exact rfl) ?_
   | refine r_alloc ?_
   | refine r_st (cs' := _) (by simp (disch:=first|decide|(simp only[zF,zG];decide)) only [zA,zB,zC,zD,zE,zF,zG,zH,zI,zJ,zK,HV.cells]; try exact rfl) (by simp (disch:=first|decide|(simp only[zF,zG];decide)) only [zA,zB,zC,zD,zE,zF,zG,zH,zI,zJ,zK,HV.cells]; try exact rfl) (by first|assumption|(simp (disch:=omega) only [get_same,get_other]; first|done|exact rfl)) (by exact True.intro) (by rfl) (by rfl) (by first|assumption|rfl|(simp only [zI,zJ,HV.cells]; exact rfl)) (by omega) ?_
   | refine r_add (by simp (disch:=first|decide|(simp only[zF,zG];decide)) only [zA,zB,zC,zD,zE,zF,zG,zH,zI,zJ,zK,HV.cells]; try exact rfl) (by simp (disch:=first|decide|(simp only[zF,zG];decide)) only [zA,zB,zC,zD,zE,zF,zG,zH,zI,zJ,zK,HV.cells]; try exact rfl) (by omega) (by omega) ?_
   | refine r_leq (by simp (disch:=first|decide|(simp only[zF,zG];decide)) only [zA,zB,zC,zD,zE,zF,zG,zH,zI,zJ,zK,HV.cells]; try exact rfl) (by simp (disch:=first|decide|(simp only[zF,zG];decide)) only [zA,zB,zC,zD,zE,zF,zG,zH,zI,zJ,zK,HV.cells]; try exact rfl) (fun hc => ?_) (fun hc => ?_) <;> (try (exfalso; omega))
   | refine r_build (by simp (disch:=first|decide|(simp only[zF,zG];decide)) only [evParts,List.map_cons,List.map_nil,List.nil_append,List.cons_append,List.append_nil,zA,zB,zC,zD,zE,zF,zG,zH,zI,zJ,zK,HV.cells]; try exact rfl) ?_
   | refine r_bs (by simp (disch:=first|decide|(simp only[zF,zG];decide)) only [evParts,List.map_cons,List.map_nil,List.nil_append,List.cons_append,List.append_nil,zA,zB,zC,zD,zE,zF,zG,zH,zI,zJ,zK,HV.cells]; try exact rfl) ?_
   | refine w_draw (by omega) (by repeat' first|assumption|refine D.upd ?_ (by omega)|exact D.mono (by assumption) (by omega)) ?_
   | refine d_nil ?_
   | refine d_rest rfl ?_
   | refine d_bs rfl ?_
   | refine d_box rfl ?_
   | refine d_alloc rfl ?_
   | refine d_one rfl ?_
   | refine d_next (by omega) ?_
   | refine d_laid ?_
   | fail
  refine loop73 (bb := nx) (eb := n') (rb := n' + 1) (n0 := n' + 1 + 1) hn htc hG (by omega) (by omega) (by omega) (by omega) (by omega) (by omega) (by first|assumption|(simp (disch:=omega) only [get_same,get_other]; first|done|exact rfl)) (by first|assumption|(simp (disch:=omega) only [get_same,get_other]; first|done|exact rfl)) (n + 1) 0 _ _ (n' + 1 + 1) (by omega) (Nat.le_refl _) (by repeat' first|assumption|refine D.upd ?_ (by omega)|exact D.mono (by assumption) (by omega)) (fun b _ _ => rfl) (by first|assumption|(simp (disch:=omega) only [get_same,get_other]; first|done|exact rfl)) ?_ ?_ ?_ ?_ ?_ ?_ (fun a' h' n2 g0 g1 g2 g3 g4 => ?_)
  all_goals try first|(simp only [zL,zM,zF,zG];done)|(simp (disch:=first|decide|(simp only[zF,zG];decide)) only [zA,zB,zC,zD,zE,zF,zG,zH,zI,zJ,zK,HV.cells];first|done|exact rfl)|assumption
  repeat' first
   | refine r_nil ?_
   | refine th_n ?_
   | refine th_r ?_
   | refine th_e ?_
   | refine ib_n ?_
   | refine ib_r ?_
   | refine ib_e ?_
   | refine ib_x (by decide) ?_
   | refine w_exit ?_
   | refine w_seq ?_
   | refine w_reg ?_
   | refine w_ret ?_
   | refine w_skip ?_
   | refine w_block ?_
   | refine w_t (by simp (disch:=first|decide|(simp only[zF,zG,g2, g4];decide)) only [zA,zB,zC,zD,zE,zF,zG,zH,zI,zJ,zK,HV.cells,g2, g4]; first|done|exact rfl) ?_
   | refine w_f (by simp (disch:=first|decide|(simp only[zF,zG,g2, g4];decide)) only [zA,zB,zC,zD,zE,zF,zG,zH,zI,zJ,zK,HV.cells,g2, g4]; first|done|exact rfl) ?_
   | refine r_move (by simp (disch:=first|decide|(simp only[zF,zG,g2, g4];decide)) only [zA,zB,zC,zD,zE,zF,zG,zH,zI,zJ,zK,HV.cells,g2, g4]; try exact rfl) ?_
   | refine r_fa (by simp (disch:=first|decide|(simp only[zF,zG,g2, g4];decide)) only [zA,zB,zC,zD,zE,zF,zG,zH,zI,zJ,zK,HV.cells,g2, g4]; try exact rfl) ?_
   | refine r_ld1 (by simp (disch:=first|decide|(simp only[zF,zG,g2, g4];decide)) only [zA,zB,zC,zD,zE,zF,zG,zH,zI,zJ,zK,HV.cells,g2, g4]; try exact rfl) (by first|assumption|(simp (disch:=omega) only [get_same,get_other,g2, g4]; first|done|exact rfl)) (by first|assumption|rfl|(simp only [zI,zJ,HV.cells,g2, g4]; exact rfl)) ?_
   | refine r_ldn (by simp (disch:=first|decide|(simp only[zF,zG,g2, g4];decide)) only [zA,zB,zC,zD,zE,zF,zG,zH,zI,zJ,zK,HV.cells,g2, g4]; try exact rfl) (by first|assumption|(simp (disch:=omega) only [get_same,get_other,g2, g4]; first|done|exact rfl)) (by first|assumption|rfl|(simp only [zI,zJ,HV.cells,g2, g4]; exact rfl)) ?_
   | refine r_box (by simp (disch:=first|decide|(simp only[zF,zG,g2, g4];decide)) only [zA,zB,zC,zD,zE,zF,zG,zH,zI,zJ,zK,HV.cells,g2, g4]; try exact rfl) ?_
   | refine r_alloc ?_
   | refine r_st (cs' := _) (by simp (disch:=first|decide|(simp only[zF,zG,g2, g4];decide)) only [zA,zB,zC,zD,zE,zF,zG,zH,zI,zJ,zK,HV.cells,g2, g4]; try exact rfl) (by simp (disch:=first|decide|(simp only[zF,zG,g2, g4];decide)) only [zA,zB,zC,zD,zE,zF,zG,zH,zI,zJ,zK,HV.cells,g2, g4]; try exact rfl) (by first|assumption|(simp (disch:=omega) only [get_same,get_other,g2, g4]; first|done|exact rfl)) (by exact True.intro) (by rfl) (by rfl) (by first|assumption|rfl|(simp only [zI,zJ,HV.cells,g2, g4]; exact rfl)) (by omega) ?_
   | refine r_add (by simp (disch:=first|decide|(simp only[zF,zG,g2, g4];decide)) only [zA,zB,zC,zD,zE,zF,zG,zH,zI,zJ,zK,HV.cells,g2, g4]; try exact rfl) (by simp (disch:=first|decide|(simp only[zF,zG,g2, g4];decide)) only [zA,zB,zC,zD,zE,zF,zG,zH,zI,zJ,zK,HV.cells,g2, g4]; try exact rfl) (by omega) (by omega) ?_
   | refine r_leq (by simp (disch:=first|decide|(simp only[zF,zG,g2, g4];decide)) only [zA,zB,zC,zD,zE,zF,zG,zH,zI,zJ,zK,HV.cells,g2, g4]; try exact rfl) (by simp (disch:=first|decide|(simp only[zF,zG,g2, g4];decide)) only [zA,zB,zC,zD,zE,zF,zG,zH,zI,zJ,zK,HV.cells,g2, g4]; try exact rfl) (fun hc => ?_) (fun hc => ?_) <;> (try (exfalso; omega))
   | refine r_build (by simp (disch:=first|decide|(simp only[zF,zG,g2, g4];decide)) only [evParts,List.map_cons,List.map_nil,List.nil_append,List.cons_append,List.append_nil,zA,zB,zC,zD,zE,zF,zG,zH,zI,zJ,zK,HV.cells,g2, g4]; try exact rfl) ?_
   | refine r_bs (by simp (disch:=first|decide|(simp only[zF,zG,g2, g4];decide)) only [evParts,List.map_cons,List.map_nil,List.nil_append,List.cons_append,List.append_nil,zA,zB,zC,zD,zE,zF,zG,zH,zI,zJ,zK,HV.cells,g2, g4]; try exact rfl) ?_
   | refine w_draw (by omega) (by repeat' first|assumption|refine D.upd ?_ (by omega)|exact D.mono (by assumption) (by omega)) ?_
   | refine d_nil ?_
   | refine d_rest rfl ?_
   | refine d_bs rfl ?_
   | refine d_box rfl ?_
   | refine d_alloc rfl ?_
   | refine d_one rfl ?_
   | refine d_next (by omega) ?_
   | refine d_laid ?_
   | fail
  refine fin_r (by simp only [zL, g3]) (by simp (disch:=first|decide|(simp only[zF,zG,g2, g4];decide)) only [zA,zB,zC,zD,zE,zF,zG,zH,zI,zJ,zK,HV.cells,g2, g4]; try exact rfl) ?_
  have := scl_blk (c := n + 1) (l := BL M (n + 1)) (rest := []) (k := .exact) (nx := n2) (h := h') renc_len renc_flat rfl hd (show nx ≤ n' + 1 by omega) (by omega) (by rw [g1]; rfl)
  rwa [BL_len] at this
theorem readGo_good {n : Nat} : ∀ (l seen : List Rd) (M M' : Mx), (∀ r ∈ l, RdOk2 n r) → Good n M → readGo n seen l M = some M' → Good n M'
  | [], _, M, M', _, hG, h => by cases h; exact hG
  | r :: rs, seen, M, M', hl, hG, h => by
    unfold readGo at h
    split at h
    · exact readGo_good rs seen M M' (fun x hx => hl x (List.mem_cons_of_mem _ hx)) hG h
    · split at h
      · rename_i M1 h1
        exact readGo_good rs _ M1 M' (fun x hx => hl x (List.mem_cons_of_mem _ hx)) (withM_good hG (hl r (List.mem_cons_self ..)) h1) h
      · cases h
theorem readO_good {t : Tb} {n : Nat} {l : List Rd} {M : Mx} (htc : t.c = n) (ht : TubeOk t.c t.t t.a t.b) (hl : ∀ r ∈ l, RdOk2 t.c r) (h : readO t n l = some M) : Good n M :=
  readGo_good l [] _ M (by rw [← htc]; exact hl) (unr_ok htc ht).2.2 h
/-- What 'Heights' hands back: a list and an error. -/
def HeightsK (t : Tb) (n : Nat) (l : List Rd) (σ : HS) : HV → HS → Prop := fun v σ' =>
  (∃ M, errOf t.c t.t t.a t.b l = 0 ∧ readO t n l = some M ∧ ∃ p c h' n', v = .tuple [.slice p (n + 1) c, i64 0] ∧ σ' = ⟨h', n'⟩ ∧ Ext σ.h σ.nx h' n' ∧ Row renc 2 h' n' p (BL M (n + 1))) ∨
  (errOf t.c t.t t.a t.b l = 0 ∧ readO t n l = none ∧ Sc (· = .tuple [.slice none 0 0, i64 9]) σ v σ') ∨
  (errOf t.c t.t t.a t.b l ≠ 0 ∧ Sc (· = .tuple [.slice none 0 0, i64 (errOf t.c t.t t.a t.b l)]) σ v σ')
/- 29 -/
theorem c_Heights {fl : Nat} {h : Tr HBlk} {nx : Nat} (hd : D h nx) {t : Tb} {n : Nat} {p : Option (Nat × Nat)} {l : List Rd} {m cp : Nat} (htc : TubeOk t.c t.t t.a t.b → t.c = n) (hm : m = l.length) (hlen : l.length < 1000000) (hrow : Row Rd.enc 4 h nx p l) :
    C LW fl 29 [.agg t.cells, .slice p m cp] ⟨h, nx⟩ (HeightsK t n l ⟨h, nx⟩) := by
  subst hm
  have tk : takeN 4 (t.cells.drop 0) = some t.cells := rfl
  have owz : overwrite (Zr 125) 0 (HV.agg (Zr 125)).cells = some (Zr 125) := ow_all _ _ rfl
  have cF : ∀ fl h' n', Ext h nx h' n' → C LW fl 72 [.agg t.cells, .slice p l.length cp, .bool true] ⟨h', n'⟩ (Sc (· = forO t n l true) ⟨h', n'⟩) := fun fl h' n' e => c_readFor e.d htc rfl hlen (hrow.ext e)
  refine c_in lw29 rfl rfl rfl ?_
  dsimp only [L29]
  by_cases hE : errOf t.c t.t t.a t.b l = 0
  · obtain ⟨hT, hL, hR⟩ := errOf_zero hE
    cases hO : readO t n l with
    | none =>
      have cF1 : ∀ fl h' n', Ext h nx h' n' → C LW fl 72 [.agg t.cells, .slice p l.length cp, .bool true] ⟨h', n'⟩ (Sc (· = .tuple [.agg (Zr 125), i64 9]) ⟨h', n'⟩) := fun fl h' n' e => by have := cF fl h' n' e; unfold forO at this; rw [if_pos hE, if_pos rfl, hO] at this; exact this
      repeat' first
       | refine r_nil ?_
       | refine th_n ?_
       | refine th_r ?_
       | refine w_seq ?_
       | refine w_reg ?_
       | refine w_ret ?_
       | refine w_skip ?_
       | refine w_t (by simp (disch:=first|decide|(simp only[zF,zG];decide)) only [zA,zB,zC,zD,zE,zF,zG,zH,zI,zJ,zK,HV.cells]; first|done|exact rfl) ?_
       | refine w_f (by simp (disch:=first|decide|(simp only[zF,zG];decide)) only [zA,zB,zC,zD,zE,zF,zG,zH,zI,zJ,zK,HV.cells]; first|done|exact rfl) ?_
       | refine r_move (by simp (disch:=first|decide|(simp only[zF,zG];decide)) only [zA,zB,zC,zD,zE,zF,zG,zH,zI,zJ,zK,HV.cells]; try exact rfl) ?_
       | refine r_ldn (by simp (disch:=first|decide|(simp only[zF,zG];decide)) only [zA,zB,zC,zD,zE,zF,zG,zH,zI,zJ,zK,HV.cells]; try exact rfl) (by first|assumption|(simp (disch:=omega) only [get_same,get_other]; first|done|exact rfl)) (by first|assumption|rfl|(simp only [zI,zJ,HV.cells]; exact rfl)) ?_
       | refine r_box (by simp (disch:=first|decide|(simp only[zF,zG];decide)) only [zA,zB,zC,zD,zE,zF,zG,zH,zI,zJ,zK,HV.cells]; try exact rfl) ?_
       | refine r_alloc ?_
       | refine r_st (cs' := _) (by simp (disch:=first|decide|(simp only[zF,zG];decide)) only [zA,zB,zC,zD,zE,zF,zG,zH,zI,zJ,zK,HV.cells]; try exact rfl) (by simp (disch:=first|decide|(simp only[zF,zG];decide)) only [zA,zB,zC,zD,zE,zF,zG,zH,zI,zJ,zK,HV.cells]; try exact rfl) (by first|assumption|(simp (disch:=omega) only [get_same,get_other]; first|done|exact rfl)) (by exact True.intro) (by rfl) (by rfl) (by first|assumption|rfl|(simp only [zI,zJ,HV.cells]; exact rfl)) (by omega) ?_
       | refine r_eq (by simp (disch:=first|decide|(simp only[zF,zG];decide)) only [zA,zB,zC,zD,zE,zF,zG,zH,zI,zJ,zK,HV.cells]; try exact rfl) (by simp (disch:=first|decide|(simp only[zF,zG];decide)) only [zA,zB,zC,zD,zE,zF,zG,zH,zI,zJ,zK,HV.cells]; try exact rfl) (fun hc => ?_) (fun hc => ?_) <;> (try (exfalso; omega))
       | refine r_ne (by simp (disch:=first|decide|(simp only[zF,zG];decide)) only [zA,zB,zC,zD,zE,zF,zG,zH,zI,zJ,zK,HV.cells]; try exact rfl) (by simp (disch:=first|decide|(simp only[zF,zG];decide)) only [zA,zB,zC,zD,zE,zF,zG,zH,zI,zJ,zK,HV.cells]; try exact rfl) (fun hc => ?_) (fun hc => ?_) <;> (try (exfalso; omega))
       | refine r_eqb (by simp (disch:=first|decide|(simp only[zF,zG];decide)) only [zA,zB,zC,zD,zE,zF,zG,zH,zI,zJ,zK,HV.cells]; try exact rfl) (by simp (disch:=first|decide|(simp only[zF,zG];decide)) only [zA,zB,zC,zD,zE,zF,zG,zH,zI,zJ,zK,HV.cells]; try exact rfl) ?_
       | refine r_ext (by simp (disch:=first|decide|(simp only[zF,zG];decide)) only [zA,zB,zC,zD,zE,zF,zG,zH,zI,zJ,zK,HV.cells]; try exact rfl) (by first|assumption|rfl|(simp only [zI,zJ,HV.cells]; exact rfl)) ?_
       | refine r_calls (by simp (disch:=first|decide|(simp only[zF,zG];decide)) only [zA,zB,zC,zD,zE,zF,zG,zH,zI,zJ,zK,HV.cells]; try exact rfl) (by simp (disch:=first|decide|(simp only[zF,zG];decide)) only [List.map_cons,List.map_nil,List.nil_append,List.cons_append,List.append_nil,zA,zB,zC,zD,zE,zF,zG,zH,zI,zJ,zK,HV.cells]; try exact rfl) (cF1 _ _ _ (by repeat' first|assumption|refine Ext.put ?_ (by omega) (by omega)|exact Ext.up (by assumption) (by omega)|exact Ext.nx (by assumption) (by omega))) (fun n' hn' => ?_)
       | fail
      refine fin_m (by simp only [zL,zM]) (res_t (by simp (disch:=first|decide|(simp only[zF,zG];decide)) only [zA,zB,zC,zD,zE,zF,zG,zH,zI,zJ,zK,HV.cells]; try exact rfl) (res_t (by simp (disch:=first|decide|(simp only[zF,zG];decide)) only [zA,zB,zC,zD,zE,zF,zG,zH,zI,zJ,zK,HV.cells]; try exact rfl) res_nil)) (.inr (.inl ⟨hE, hO, sc_flat rfl (by dsimp only; omega) rfl⟩))
    | some M =>
      have hG := readO_good (htc hT) hT hR hO
      have hTo := hT
      unfold TubeOk at hTo
      have hcn := htc hT
      have tkb := take_bc t M
      have owb := ow_bc t M
      have cF1 : ∀ fl h' n', Ext h nx h' n' → C LW fl 72 [.agg t.cells, .slice p l.length cp, .bool true] ⟨h', n'⟩ (Sc (· = .tuple [.agg (bcells t M), i64 0]) ⟨h', n'⟩) := fun fl h' n' e => by have := cF fl h' n' e; unfold forO at this; rw [if_pos hE, if_pos rfl, hO] at this; exact this
      repeat' first
       | refine r_nil ?_
       | refine th_n ?_
       | refine th_r ?_
       | refine w_seq ?_
       | refine w_reg ?_
       | refine w_ret ?_
       | refine w_skip ?_
       | refine w_t (by simp (disch:=first|decide|(simp only[zF,zG];decide)) only [zA,zB,zC,zD,zE,zF,zG,zH,zI,zJ,zK,HV.cells]; first|done|exact rfl) ?_
       | refine w_f (by simp (disch:=first|decide|(simp only[zF,zG];decide)) only [zA,zB,zC,zD,zE,zF,zG,zH,zI,zJ,zK,HV.cells]; first|done|exact rfl) ?_
       | refine r_move (by simp (disch:=first|decide|(simp only[zF,zG];decide)) only [zA,zB,zC,zD,zE,zF,zG,zH,zI,zJ,zK,HV.cells]; try exact rfl) ?_
       | refine r_ldn (by simp (disch:=first|decide|(simp only[zF,zG];decide)) only [zA,zB,zC,zD,zE,zF,zG,zH,zI,zJ,zK,HV.cells]; try exact rfl) (by first|assumption|(simp (disch:=omega) only [get_same,get_other]; first|done|exact rfl)) (by first|assumption|rfl|(simp only [zI,zJ,HV.cells]; exact rfl)) ?_
       | refine r_box (by simp (disch:=first|decide|(simp only[zF,zG];decide)) only [zA,zB,zC,zD,zE,zF,zG,zH,zI,zJ,zK,HV.cells]; try exact rfl) ?_
       | refine r_alloc ?_
       | refine r_st (cs' := _) (by simp (disch:=first|decide|(simp only[zF,zG];decide)) only [zA,zB,zC,zD,zE,zF,zG,zH,zI,zJ,zK,HV.cells]; try exact rfl) (by simp (disch:=first|decide|(simp only[zF,zG];decide)) only [zA,zB,zC,zD,zE,zF,zG,zH,zI,zJ,zK,HV.cells]; try exact rfl) (by first|assumption|(simp (disch:=omega) only [get_same,get_other]; first|done|exact rfl)) (by exact True.intro) (by rfl) (by rfl) (by first|assumption|rfl|(simp only [zI,zJ,HV.cells]; exact rfl)) (by omega) ?_
       | refine r_eq (by simp (disch:=first|decide|(simp only[zF,zG];decide)) only [zA,zB,zC,zD,zE,zF,zG,zH,zI,zJ,zK,HV.cells]; try exact rfl) (by simp (disch:=first|decide|(simp only[zF,zG];decide)) only [zA,zB,zC,zD,zE,zF,zG,zH,zI,zJ,zK,HV.cells]; try exact rfl) (fun hc => ?_) (fun hc => ?_) <;> (try (exfalso; omega))
       | refine r_ne (by simp (disch:=first|decide|(simp only[zF,zG];decide)) only [zA,zB,zC,zD,zE,zF,zG,zH,zI,zJ,zK,HV.cells]; try exact rfl) (by simp (disch:=first|decide|(simp only[zF,zG];decide)) only [zA,zB,zC,zD,zE,zF,zG,zH,zI,zJ,zK,HV.cells]; try exact rfl) (fun hc => ?_) (fun hc => ?_) <;> (try (exfalso; omega))
       | refine r_eqb (by simp (disch:=first|decide|(simp only[zF,zG];decide)) only [zA,zB,zC,zD,zE,zF,zG,zH,zI,zJ,zK,HV.cells]; try exact rfl) (by simp (disch:=first|decide|(simp only[zF,zG];decide)) only [zA,zB,zC,zD,zE,zF,zG,zH,zI,zJ,zK,HV.cells]; try exact rfl) ?_
       | refine r_ext (by simp (disch:=first|decide|(simp only[zF,zG];decide)) only [zA,zB,zC,zD,zE,zF,zG,zH,zI,zJ,zK,HV.cells]; try exact rfl) (by first|assumption|rfl|(simp only [zI,zJ,HV.cells]; exact rfl)) ?_
       | refine r_calls (by simp (disch:=first|decide|(simp only[zF,zG];decide)) only [zA,zB,zC,zD,zE,zF,zG,zH,zI,zJ,zK,HV.cells]; try exact rfl) (by simp (disch:=first|decide|(simp only[zF,zG];decide)) only [List.map_cons,List.map_nil,List.nil_append,List.cons_append,List.append_nil,zA,zB,zC,zD,zE,zF,zG,zH,zI,zJ,zK,HV.cells]; try exact rfl) (cF1 _ _ _ (by repeat' first|assumption|refine Ext.put ?_ (by omega) (by omega)|exact Ext.up (by assumption) (by omega)|exact Ext.nx (by assumption) (by omega))) (fun n' hn' => ?_)
       | fail
      case refine_2 =>
        refine r_callc (by simp (disch:=first|decide|(simp only[zF,zG];decide)) only [zA,zB,zC,zD,zE,zF,zG,zH,zI,zJ,zK,HV.cells]; try exact rfl) (by simp (disch:=first|decide|(simp only[zF,zG];decide)) only [List.map_cons,List.map_nil,List.nil_append,List.cons_append,List.append_nil,zA,zB,zC,zD,zE,zF,zG,zH,zI,zJ,zK,HV.cells]; try exact rfl) (c_bounds (M := M) (by repeat' first|assumption|refine D.upd ?_ (by omega)|exact D.mono (by assumption) (by omega)) (by omega) hcn hG) ?_
        rintro w σ' ⟨p2, c2, h2, n2, rfl, rfl, e2, hr2⟩
        dsimp only at e2
        have hle := e2.le
        have e3 : Ext h nx h2 n2 := Ext.trans (by repeat' first|assumption|refine Ext.put ?_ (by omega) (by omega)|exact Ext.up (by assumption) (by omega)|exact Ext.nx (by assumption) (by omega)) e2
        rw [BL_len]
        repeat' first
         | refine r_nil ?_
         | refine th_n ?_
         | refine th_r ?_
         | refine w_seq ?_
         | refine w_reg ?_
         | refine w_ret ?_
         | refine w_skip ?_
         | refine w_t (by simp (disch:=first|decide|(simp only[zF,zG];decide)) only [zA,zB,zC,zD,zE,zF,zG,zH,zI,zJ,zK,HV.cells]; first|done|exact rfl) ?_
         | refine w_f (by simp (disch:=first|decide|(simp only[zF,zG];decide)) only [zA,zB,zC,zD,zE,zF,zG,zH,zI,zJ,zK,HV.cells]; first|done|exact rfl) ?_
         | refine r_move (by simp (disch:=first|decide|(simp only[zF,zG];decide)) only [zA,zB,zC,zD,zE,zF,zG,zH,zI,zJ,zK,HV.cells]; try exact rfl) ?_
         | refine r_ldn (by simp (disch:=first|decide|(simp only[zF,zG];decide)) only [zA,zB,zC,zD,zE,zF,zG,zH,zI,zJ,zK,HV.cells]; try exact rfl) (by first|assumption|(simp (disch:=omega) only [get_same,get_other]; first|done|exact rfl)) (by first|assumption|rfl|(simp only [zI,zJ,HV.cells]; exact rfl)) ?_
         | refine r_box (by simp (disch:=first|decide|(simp only[zF,zG];decide)) only [zA,zB,zC,zD,zE,zF,zG,zH,zI,zJ,zK,HV.cells]; try exact rfl) ?_
         | refine r_alloc ?_
         | refine r_st (cs' := _) (by simp (disch:=first|decide|(simp only[zF,zG];decide)) only [zA,zB,zC,zD,zE,zF,zG,zH,zI,zJ,zK,HV.cells]; try exact rfl) (by simp (disch:=first|decide|(simp only[zF,zG];decide)) only [zA,zB,zC,zD,zE,zF,zG,zH,zI,zJ,zK,HV.cells]; try exact rfl) (by first|assumption|(simp (disch:=omega) only [get_same,get_other]; first|done|exact rfl)) (by exact True.intro) (by rfl) (by rfl) (by first|assumption|rfl|(simp only [zI,zJ,HV.cells]; exact rfl)) (by omega) ?_
         | refine r_eq (by simp (disch:=first|decide|(simp only[zF,zG];decide)) only [zA,zB,zC,zD,zE,zF,zG,zH,zI,zJ,zK,HV.cells]; try exact rfl) (by simp (disch:=first|decide|(simp only[zF,zG];decide)) only [zA,zB,zC,zD,zE,zF,zG,zH,zI,zJ,zK,HV.cells]; try exact rfl) (fun hc => ?_) (fun hc => ?_) <;> (try (exfalso; omega))
         | refine r_ne (by simp (disch:=first|decide|(simp only[zF,zG];decide)) only [zA,zB,zC,zD,zE,zF,zG,zH,zI,zJ,zK,HV.cells]; try exact rfl) (by simp (disch:=first|decide|(simp only[zF,zG];decide)) only [zA,zB,zC,zD,zE,zF,zG,zH,zI,zJ,zK,HV.cells]; try exact rfl) (fun hc => ?_) (fun hc => ?_) <;> (try (exfalso; omega))
         | refine r_eqb (by simp (disch:=first|decide|(simp only[zF,zG];decide)) only [zA,zB,zC,zD,zE,zF,zG,zH,zI,zJ,zK,HV.cells]; try exact rfl) (by simp (disch:=first|decide|(simp only[zF,zG];decide)) only [zA,zB,zC,zD,zE,zF,zG,zH,zI,zJ,zK,HV.cells]; try exact rfl) ?_
         | refine r_ext (by simp (disch:=first|decide|(simp only[zF,zG];decide)) only [zA,zB,zC,zD,zE,zF,zG,zH,zI,zJ,zK,HV.cells]; try exact rfl) (by first|assumption|rfl|(simp only [zI,zJ,HV.cells]; exact rfl)) ?_
         | fail
        obtain ⟨h3, g1, g2, g3⟩ := gc_tup (n := n + 1) (c := c2) (rest := [i64 0]) hd e3 hr2
        refine fin_m (by simp only [zL,zM]) (res_t (by simp (disch:=first|decide|(simp only[zF,zG];decide)) only [zA,zB,zC,zD,zE,zF,zG,zH,zI,zJ,zK,HV.cells]; try exact rfl) (res_t (by simp (disch:=first|decide|(simp only[zF,zG];decide)) only [zA,zB,zC,zD,zE,zF,zG,zH,zI,zJ,zK,HV.cells]; try exact rfl) res_nil)) (.inl ⟨M, hE, hO, p2, c2, h3, n2, rfl, g1, g2, g3⟩)
  · have cF1 : ∀ fl h' n', Ext h nx h' n' → C LW fl 72 [.agg t.cells, .slice p l.length cp, .bool true] ⟨h', n'⟩ (Sc (· = .tuple [.agg (Zr 125), i64 (errOf t.c t.t t.a t.b l)]) ⟨h', n'⟩) := fun fl h' n' e => by have := cF fl h' n' e; unfold forO at this; rw [if_neg hE] at this; exact this
    repeat' first
     | refine r_nil ?_
     | refine th_n ?_
     | refine th_r ?_
     | refine w_seq ?_
     | refine w_reg ?_
     | refine w_ret ?_
     | refine w_skip ?_
     | refine w_t (by simp (disch:=first|decide|(simp only[zF,zG];decide)) only [zA,zB,zC,zD,zE,zF,zG,zH,zI,zJ,zK,HV.cells]; first|done|exact rfl) ?_
     | refine w_f (by simp (disch:=first|decide|(simp only[zF,zG];decide)) only [zA,zB,zC,zD,zE,zF,zG,zH,zI,zJ,zK,HV.cells]; first|done|exact rfl) ?_
     | refine r_move (by simp (disch:=first|decide|(simp only[zF,zG];decide)) only [zA,zB,zC,zD,zE,zF,zG,zH,zI,zJ,zK,HV.cells]; try exact rfl) ?_
     | refine r_ldn (by simp (disch:=first|decide|(simp only[zF,zG];decide)) only [zA,zB,zC,zD,zE,zF,zG,zH,zI,zJ,zK,HV.cells]; try exact rfl) (by first|assumption|(simp (disch:=omega) only [get_same,get_other]; first|done|exact rfl)) (by first|assumption|rfl|(simp only [zI,zJ,HV.cells]; exact rfl)) ?_
     | refine r_box (by simp (disch:=first|decide|(simp only[zF,zG];decide)) only [zA,zB,zC,zD,zE,zF,zG,zH,zI,zJ,zK,HV.cells]; try exact rfl) ?_
     | refine r_alloc ?_
     | refine r_st (cs' := _) (by simp (disch:=first|decide|(simp only[zF,zG];decide)) only [zA,zB,zC,zD,zE,zF,zG,zH,zI,zJ,zK,HV.cells]; try exact rfl) (by simp (disch:=first|decide|(simp only[zF,zG];decide)) only [zA,zB,zC,zD,zE,zF,zG,zH,zI,zJ,zK,HV.cells]; try exact rfl) (by first|assumption|(simp (disch:=omega) only [get_same,get_other]; first|done|exact rfl)) (by exact True.intro) (by rfl) (by rfl) (by first|assumption|rfl|(simp only [zI,zJ,HV.cells]; exact rfl)) (by omega) ?_
     | refine r_eq (by simp (disch:=first|decide|(simp only[zF,zG];decide)) only [zA,zB,zC,zD,zE,zF,zG,zH,zI,zJ,zK,HV.cells]; try exact rfl) (by simp (disch:=first|decide|(simp only[zF,zG];decide)) only [zA,zB,zC,zD,zE,zF,zG,zH,zI,zJ,zK,HV.cells]; try exact rfl) (fun hc => ?_) (fun hc => ?_) <;> (try (exfalso; omega))
     | refine r_ne (by simp (disch:=first|decide|(simp only[zF,zG];decide)) only [zA,zB,zC,zD,zE,zF,zG,zH,zI,zJ,zK,HV.cells]; try exact rfl) (by simp (disch:=first|decide|(simp only[zF,zG];decide)) only [zA,zB,zC,zD,zE,zF,zG,zH,zI,zJ,zK,HV.cells]; try exact rfl) (fun hc => ?_) (fun hc => ?_) <;> (try (exfalso; omega))
     | refine r_eqb (by simp (disch:=first|decide|(simp only[zF,zG];decide)) only [zA,zB,zC,zD,zE,zF,zG,zH,zI,zJ,zK,HV.cells]; try exact rfl) (by simp (disch:=first|decide|(simp only[zF,zG];decide)) only [zA,zB,zC,zD,zE,zF,zG,zH,zI,zJ,zK,HV.cells]; try exact rfl) ?_
     | refine r_ext (by simp (disch:=first|decide|(simp only[zF,zG];decide)) only [zA,zB,zC,zD,zE,zF,zG,zH,zI,zJ,zK,HV.cells]; try exact rfl) (by first|assumption|rfl|(simp only [zI,zJ,HV.cells]; exact rfl)) ?_
     | refine r_calls (by simp (disch:=first|decide|(simp only[zF,zG];decide)) only [zA,zB,zC,zD,zE,zF,zG,zH,zI,zJ,zK,HV.cells]; try exact rfl) (by simp (disch:=first|decide|(simp only[zF,zG];decide)) only [List.map_cons,List.map_nil,List.nil_append,List.cons_append,List.append_nil,zA,zB,zC,zD,zE,zF,zG,zH,zI,zJ,zK,HV.cells]; try exact rfl) (cF1 _ _ _ (by repeat' first|assumption|refine Ext.put ?_ (by omega) (by omega)|exact Ext.up (by assumption) (by omega)|exact Ext.nx (by assumption) (by omega))) (fun n' hn' => ?_)
     | fail
    refine fin_m (by simp only [zL,zM]) (res_t (by simp (disch:=first|decide|(simp only[zF,zG];decide)) only [zA,zB,zC,zD,zE,zF,zG,zH,zI,zJ,zK,HV.cells]; try exact rfl) (res_t (by simp (disch:=first|decide|(simp only[zF,zG];decide)) only [zA,zB,zC,zD,zE,zF,zG,zH,zI,zJ,zK,HV.cells]; try exact rfl) res_nil)) (.inr (.inr ⟨hE, sc_flat rfl (by dsimp only; omega) rfl⟩))
end Go.Hx

namespace Go.Hx
set_option linter.unusedSimpArgs false
set_option linter.unusedVariables false
set_option maxRecDepth 20000
set_option maxHeartbeats 4000000
attribute [local irreducible] W R C thenH inBlockH
end Go.Hx

