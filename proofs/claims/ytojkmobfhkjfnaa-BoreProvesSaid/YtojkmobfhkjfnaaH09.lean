/- From a statement's arguments, plain structs and lists of them, to the plain machine's store. -/
import Derived.Test.YtojkmobfhkjfnaaH04
import Derived.Below
import Derived.Deep.Slices
import Derived.WideShapes
import Derived.Test.YtojkmobfhkjfnaaH06
import Derived.Test.YtojkmobfhkjfnaaH08
set_option linter.all false
/- From a statement's arguments, plain structs and lists of them, to the plain machine's store. -/
namespace Go.Hx
open Go.RowKit
variable {P : Program}

inductive LeafV : Leaf → Value → Prop
  | b (b : Bool) : LeafV .b (.bool b)
  | i (k : IntKind) (n : Int) : LeafV (.i k) (.int k n)
  | s (s : ByteArray) : LeafV .s (.string s)
def F2 (ks : List Leaf) (cs : List Value) : Prop := ks.length = cs.length ∧ ∀ (i : Nat) (k : Leaf) (u : Value), ks[i]? = some k → cs[i]? = some u → LeafV k u
theorem f2_one {k : Leaf} {u : Value} (h : LeafV k u) : F2 [k] [u] := ⟨rfl, fun i k' u' h1 h2 => by
  cases i with
  | zero => cases h1; cases h2; exact h
  | succ i => simp at h1⟩
section
variable {H : Type} {enc : TypeId × Value → H} {w : World} {base : Nat} {spare : Nat → Bool} {held : Bool}
theorem size_cells {t : TypeId} {n : Nat} (h : szOf P t = some n) : P.cellsOf t = n := by
  unfold szOf at h
  unfold Program.cellsOf
  rw [h]; rfl
theorem fields_leaves {lv : TypeId → Option (List Leaf)} {cs : List Value} : ∀ (fs : List Field) (off : Nat) (ks : List Leaf), leavesF P lv fs off = some ks →
    (∀ f ∈ fs, ∀ kf, lv f.type = some kf → kf.length = P.cellsOf f.type → F2 kf ((cs.drop f.offset).take (P.cellsOf f.type))) →
    ∀ (i : Nat) (k : Leaf) (u : Value), ks[i]? = some k → cs[off + i]? = some u → LeafV k u
  | [], off, ks, h, _, i, k, u, h1, _ => by cases h; simp at h1
  | f :: fs, off, ks, h, hf, i, k, u, h1, h2 => by
    unfold leavesF at h
    split at h
    · rename_i kf n e1 e2
      cases hc : (f.name != "_" && Nat.beq f.offset off && Nat.beq n kf.length) with
      | false => rw [hc] at h; cases h
      | true =>
        rw [hc] at h
        simp only [cond_true, Option.map_eq_some_iff] at h
        obtain ⟨kr, h3, rfl⟩ := h
        simp only [Bool.and_eq_true] at hc
        have ho : f.offset = off := Nat.eq_of_beq_eq_true hc.1.2
        have hn : n = kf.length := Nat.eq_of_beq_eq_true hc.2
        have hs := size_cells e2
        by_cases hi : i < kf.length
        · have := (hf f (List.mem_cons_self ..) kf e1 (by omega)).2 i k u (by rwa [List.getElem?_append_left hi] at h1)
          exact this (by rw [List.getElem?_take, if_pos (by omega), List.getElem?_drop, ho]; exact h2)
        · refine fields_leaves fs (off + n) kr h3 (fun g hg => hf g (List.mem_cons_of_mem _ hg)) (i - kf.length) k u ?_ ?_
          · rwa [List.getElem?_append_right (by omega)] at h1
          · rw [show off + n + (i - kf.length) = off + i by omega]; exact h2
    · cases h
theorem trod_leaves : ∀ (d : Nat) (t : TypeId) (ks : List Leaf) (fuel : Nat) (cs : List Value) (x : DataW H × List MemPlace), leaves P d t = some ks → ks.length = P.cellsOf t → DataW.trod enc P w base spare held fuel t cs = some x → F2 ks cs
  | 0, t, ks, fuel, cs, x, h, _, _ => by cases h
  | d + 1, t, ks, fuel, cs, x, h, hl, ht => by
    unfold leaves at h
    split at h
    · rename_i e; cases h
      obtain ⟨b, rfl, _⟩ := DataW.trod_bool e ht
      exact f2_one (.b b)
    · rename_i k e; cases h
      obtain ⟨n, rfl, _⟩ := DataW.trod_int e ht
      exact f2_one (.i k n)
    · rename_i e; cases h
      obtain ⟨s, rfl, _⟩ := DataW.trod_string e ht
      exact f2_one (.s s)
    · rename_i fs e
      cases hst : P.stoodInHeld t with
      | true => rw [hst] at h; cases h
      | false =>
        rw [hst] at h
        simp only [cond_false] at h
        obtain ⟨xs, n, _, _, hlen, hxl, hx⟩ := DataW.trod_struct e ht
        refine ⟨by omega, fun i k u h1 h2 => ?_⟩
        refine fields_leaves fs.toList 0 ks h (fun f hf kf hk hkl => ?_) i k u h1 (by rwa [Nat.zero_add])
        obtain ⟨j, hj, rfl⟩ := List.getElem_of_mem hf
        have hj' : j < fs.size := by simpa using hj
        have hfj : fs[j]? = some fs.toList[j] := by rw [← Array.getElem?_toList]; exact List.getElem?_eq_getElem hj
        have h3 := hx j _ hfj
        have h4 : xs[j]? = some xs[j] := List.getElem?_eq_getElem (by omega)
        rw [h4] at h3
        exact trod_leaves d _ kf n _ _ hk hkl h3
    · cases h
/-- A list of plain rows, opened. -/
theorem open_rows {t e : TypeId} {d : Nat} {ks : List Leaf} {v : Value} {dd : DataW H} {p : List MemPlace} {b0 : Nat} (ht : P.underlying t = some (.slice e)) (hk : leaves P d e = some ks) (hl : ks.length = P.cellsOf e)
    (hv : Value.okWide P w .any b0 t v) (h : DataW.Trod enc P w base (fun _ => true) held t v dd p) :
    v = .slice none 0 0 ∨ ∃ (blk off len cap : Nat) (C : Array Value) (el : TypeId) (z : Nat × Nat), v = .slice (some ⟨blk, off, none⟩) len cap ∧ w.heap[blk]? = some (.cells C el z) ∧
      ∀ i, i < len → ∀ (j : Nat) (k : Leaf), ks[j]? = some k → ∃ u, C[off + (i * ks.length + j)]? = some u ∧ LeafV k u := by
  obtain ⟨fuel, hf⟩ := h
  obtain ⟨a0, len, cap, rfl⟩ := WideShapes.okWide_slice ht hv
  rcases Deep.open_slice ht hf with ⟨hcs, _⟩ | ⟨a, len', cap', m, n, D, Pl, hcs, _, hlc, hm, hmm, _, hx⟩
  · simp [Value.cells] at hcs
    obtain ⟨rfl, rfl, rfl⟩ := hcs
    exact .inl rfl
  · simp [Value.cells] at hcs
    obtain ⟨rfl, rfl, rfl⟩ := hcs
    simp only [if_true] at hmm
    subst hmm
    have hok : Cell.ok P w .any b0 t (.slice (some a) len m) := by
      simp only [Value.okWide, ht, Cell.okWide] at hv
      exact hv
    simp only [Cell.ok, ht] at hok
    obtain ⟨_, _, _, hspot, row, cells, hsh, _⟩ := hok
    obtain ⟨blk, off, spot⟩ := a
    dsimp only at hspot hsh
    subst hspot
    unfold World.shape? at hsh
    split at hsh
    · rename_i C el z hw
      refine .inr ⟨blk, off, len, m, C, el, z, rfl, hw, fun i hi j k hj => ?_⟩
      obtain ⟨cs', h1, h2⟩ := hx i (by omega)
      obtain ⟨_, hlen, hcell⟩ := World.cells?_some h1
      have hjl : j < ks.length := by
        rcases Nat.lt_or_ge j ks.length with h | h
        · exact h
        · rw [List.getElem?_eq_none h] at hj; cases hj
      have hf2 := trod_leaves d e ks n cs' _ hk hl h2
      have hu : cs'[j]? = some cs'[j] := List.getElem?_eq_getElem (by rw [← hf2.1]; exact hjl)
      refine ⟨cs'[j], ?_, hf2.2 j k _ hj hu⟩
      have hc := hcell j (by omega)
      rw [hu, Deep.add_add] at hc
      have key : w.cell? (Addr.add ⟨blk, off, none⟩ (i * P.cellsOf e + j)) = C[off + (i * P.cellsOf e + j)]? := by
        unfold Addr.add World.cell?
        by_cases h0 : i * P.cellsOf e + j = 0
        · rw [if_pos h0, h0]
          simp only [hw, Nat.add_zero]
          rfl
        · rw [if_neg h0]
          simp only [hw]
          rfl
      rw [key] at hc
      rw [hl]; exact hc
    · simp at hsh
end
/-! the store that the arguments make -/
structure Slot where
  cs : List HV
  ri : RI
noncomputable def laid : Nat → List (Option Slot) → Tr HBlk → Tr HBlk
  | _, [], h => h
  | k, none :: ss, h => laid (k + 1) ss h
  | k, some s :: ss, h => laid (k + 1) ss (h.set k (some (.cells s.cs .ro)))
def riOf (o : Option Slot) : Option RI := o.map (·.ri)
def rhoOf (ss : List (Option Slot)) : Rho := fun b => riOf (ss.getD b none)
theorem laid_get : ∀ (ss : List (Option Slot)) (k : Nat) (h : Tr HBlk) (b : Nat), (laid k ss h).get b = if k ≤ b ∧ b < k + ss.length then (match ss.getD (b - k) none with | some s => some (.cells s.cs .ro) | none => h.get b) else h.get b
  | [], k, h, b => by rw [if_neg (by simp only [List.length_nil]; omega)]; rfl
  | none :: ss, k, h, b => by
    show (laid (k + 1) ss h).get b = _
    rw [laid_get ss (k + 1) h b]
    by_cases e : b = k
    · subst e; rw [if_neg (by omega), if_pos (by simp)]; simp
    · by_cases h1 : k + 1 ≤ b ∧ b < k + 1 + ss.length
      · rw [if_pos h1, if_pos (by simp; omega), show b - k = (b - (k + 1)) + 1 by omega]; rfl
      · rw [if_neg h1, if_neg (by simp; omega)]
  | some s :: ss, k, h, b => by
    show (laid (k + 1) ss (h.set k _)).get b = _
    rw [laid_get ss (k + 1) _ b, Tr.get_set]
    by_cases e : b = k
    · subst e; rw [if_neg (by omega), if_pos rfl, if_pos (by simp)]; simp
    · rw [if_neg e]
      by_cases h1 : k + 1 ≤ b ∧ b < k + 1 + ss.length
      · rw [if_pos h1, if_pos (by simp; omega), show b - k = (b - (k + 1)) + 1 by omega]; rfl
      · rw [if_neg h1, if_neg (by simp; omega)]
noncomputable def lay (ss : List (Option Slot)) : Tr HBlk := laid 0 ss .e
theorem lay_get (ss : List (Option Slot)) (b : Nat) : (lay ss).get b = (ss.getD b none).map fun s => .cells s.cs .ro := by
  unfold lay
  rw [laid_get, Tr.get_e]
  by_cases h : b < ss.length
  · rw [if_pos ⟨Nat.zero_le _, by omega⟩, Nat.sub_zero]
    cases ss.getD b none <;> rfl
  · rw [if_neg (by omega), List.getD_eq_getElem?_getD, List.getElem?_eq_none (by omega)]; rfl
theorem lay_d (ss : List (Option Slot)) : D (lay ss) ss.length := by
  unfold D
  intro b hb
  rw [lay_get, List.getD_eq_getElem?_getD, List.getElem?_eq_none (by omega)]; rfl
/-- A slot is in the world. -/
def SlotOk (w : World) (s : Slot) : Prop := ∃ (C : Array Value) (e : TypeId) (z : Nat × Nat), w.heap[s.ri.blk]? = some (.cells C e z) ∧ ∀ (i : Nat) (v : HV), s.cs[i]? = some v → ∃ u, C[s.ri.off + i]? = some u ∧ ∀ ρ, VR ρ v u
theorem below_of_post {base nx nx' : Nat} {g g' : Hp} {ρ ρ' : Rho} {W W' : World} (h : Post P base 0 nx nx' g g' ρ ρ' W W') (hro : ∀ b x, g b = some x → x.own = false) : Below W.heap.size W W' :=
  ⟨h.os, h.tape, h.output, h.size, fun k hk => h.same k hk fun ⟨b, x, r, h1, h2, _⟩ => by rw [hro b x h1] at h2; cases h2⟩
/-- **A law over such arguments, walked on the plain machine, in any world.** -/
theorem calls_args {lp : Nat → Option LFunc} (hm : P.follows .mixedOrders = true) (hlp : LpOk P lp) {f : Nat} {args : List HV} {ss : List (Option Slot)} {W : World} (hs : ∀ s, some s ∈ ss → SlotOk W s)
    (h : C lp 0 f args ⟨lay ss, ss.length⟩ (Sc (· = .bool true) ⟨lay ss, ss.length⟩)) {Args : Array Value} (ha : LR (rhoOf ss) args Args.toList) :
    Calls P f Args W fun e W' => e = .returned (.bool true) ∧ Below W.heap.size W W' := by
  have hro : ∀ b x, (lay ss).get b = some x → x.own = false := fun b x hx => by
    rw [lay_get] at hx
    cases e : ss.getD b none with
    | none => rw [e] at hx; cases hx
    | some s => rw [e] at hx; cases hx; rfl
  have mem : ∀ b s, ss.getD b none = some s → some s ∈ ss ∧ b < ss.length := fun b s e => by
    rw [List.getD_eq_getElem?_getD] at e
    cases e2 : ss[b]? with
    | none => rw [e2] at e; cases e
    | some o =>
      rw [e2] at e
      have : o = some s := e
      subst this
      refine ⟨List.mem_of_getElem? e2, ?_⟩
      rcases Nat.lt_or_ge b ss.length with h | h
      · exact h
      · rw [List.getElem?_eq_none h] at e2; cases e2
  have hdom : Dom ⟨lay ss, ss.length⟩ := fun b x hx => by
    have hx' : (lay ss).get b = some x := hx
    rw [lay_get] at hx'
    cases e : ss.getD b none with
    | none => rw [e] at hx'; cases hx'
    | some s => exact (mem b s e).2
  have hsim : Sim P W.heap.size (lay ss).get (rhoOf ss) W := by
    refine ⟨fun b x hx => ?_, fun b b' x x' r r' hx _ ho => by rw [hro b x hx] at ho; cases ho⟩
    rw [lay_get] at hx
    cases e : ss.getD b none with
    | none => rw [e] at hx; cases hx
    | some s =>
      rw [e] at hx
      cases hx
      obtain ⟨C, el, z, hw, hc⟩ := hs s (mem b s e).1
      refine ⟨s.ri, C, el, z, by unfold rhoOf riOf; rw [e]; rfl, hw, fun i v hv => ?_, (Array.getElem?_eq_some_iff.1 hw).1⟩
      obtain ⟨u, h1, h2⟩ := hc i v hv
      exact ⟨u, h1, h2 _⟩
  obtain ⟨n, v, σ', h1, h2⟩ := h
  have hin : In P W.heap.size ⟨lay ss, ss.length⟩ σ' (rhoOf ss) W := ⟨Nat.le_refl _, hsim, fun b hb _ => by
    show riOf (ss.getD b none) = none
    rw [List.getD_eq_getElem?_getD, List.getElem?_eq_none hb]; rfl⟩
  have := run_sound hm hlp h1 hdom W.heap.size (rhoOf ss) Args W hin ha
  rw [fr_none] at this
  refine (callsIn_wide.1 this).mono ?_
  rintro e W' ⟨V, ρ', rfl, hv, hp⟩
  obtain ⟨rfl, _⟩ := h2
  cases hv
  exact ⟨rfl, below_of_post hp hro⟩
/-- Which element and which cell of it a cell of a list is. -/
theorem flat_at {α : Type} {enc : α → List HV} {sz : Nat} (he : ∀ x, (enc x).length = sz) : ∀ (l : List α) (p : Nat) (v : HV), (l.flatMap enc)[p]? = some v → ∃ i j x, p = i * sz + j ∧ l[i]? = some x ∧ (enc x)[j]? = some v
  | [], p, v, h => by simp at h
  | x :: l, p, v, h => by
    rw [List.flatMap_cons] at h
    by_cases hp : p < sz
    · rw [List.getElem?_append_left (by rw [he]; exact hp)] at h
      exact ⟨0, p, x, by omega, rfl, h⟩
    · rw [List.getElem?_append_right (by rw [he]; omega), he] at h
      obtain ⟨i, j, y, h1, h2, h3⟩ := flat_at he l _ v h
      exact ⟨i + 1, j, y, by rw [Nat.add_mul]; omega, by simpa using h2, h3⟩
theorem flat_row0 {α : Type} {enc : α → List HV} {sz b c : Nat} {h : Tr HBlk} {nx : Nat} {l : List α} {k : BK} (he : ∀ x, (enc x).length = sz) (hb : b < nx) (hg : h.get b = some (.cells (l.flatMap enc) k)) : Row enc sz h nx (some (b, 0)) l :=
  fun _ => ⟨b, 0, _, k, rfl, hb, hg, fun i x hx => flat_row he l i x hx⟩
/-- A list argument: what it is on the plain machine. -/
structure ArgL {α : Type} (enc : α → List HV) (sz : Nat) (w : World) (v : Value) (o : Option Slot) (mk : Nat → HV) (l : List α) : Prop where
  ok : ∀ s, o = some s → SlotOk w s
  vr : ∀ (k : Nat) (ρ : Rho), ρ k = riOf o → VR ρ (mk k) v
  row : ∀ k, ∃ p c, mk k = .slice p l.length c ∧ ∀ (h : Tr HBlk) (nx : Nat), k < nx → h.get k = (o.map fun s => .cells s.cs .ro) → Row enc sz h nx p l
theorem arg_rows {H : Type} {enc0 : TypeId × Value → H} {w : World} {base : Nat} {held : Bool} {α : Type} [Inhabited α] {enc : α → List HV} {t e : TypeId} {d : Nat} {ks : List Leaf} {v : Value} {dd : DataW H} {p : List MemPlace} {b0 : Nat} (ht : P.underlying t = some (.slice e)) (hk : leaves P d e = some ks) (hl : ks.length = P.cellsOf e)
    (hv : Value.okWide P w .any b0 t v) (h : DataW.Trod enc0 P w base (fun _ => true) held t v dd p) (he : ∀ x, (enc x).length = ks.length)
    (hdec : ∀ us : Nat → Value, (∀ j k, ks[j]? = some k → LeafV k (us j)) → ∃ x : α, ∀ j u, (enc x)[j]? = some u → ∀ ρ, VR ρ u (us j)) :
    ∃ (o : Option Slot) (mk : Nat → HV) (l : List α), ArgL enc ks.length w v o mk l := by
  rcases open_rows ht hk hl hv h with rfl | ⟨blk, off, len, cap, C, el, z, rfl, hw, hx⟩
  · exact ⟨none, fun _ => .slice none 0 0, [], fun s e => (by cases e), fun k ρ _ => .slice0, fun k => ⟨none, 0, rfl, fun h nx _ _ hne => absurd rfl hne⟩⟩
  · have each : ∀ i, i < len → ∃ x : α, ∀ j u, (enc x)[j]? = some u → ∃ c, C[off + (i * ks.length + j)]? = some c ∧ ∀ ρ, VR ρ u c := by
      intro i hi
      obtain ⟨x, hx1⟩ := hdec (fun j => (C[off + (i * ks.length + j)]?).getD .nilFunc) (fun j k hj => by
        obtain ⟨u, h1, h2⟩ := hx i hi j k hj
        rw [h1]; exact h2)
      refine ⟨x, fun j u hj => ?_⟩
      have hjl : j < ks.length := by
        rw [← he x]
        rcases Nat.lt_or_ge j (enc x).length with h | h
        · exact h
        · rw [List.getElem?_eq_none h] at hj; cases hj
      obtain ⟨c, h1, _⟩ := hx i hi j _ (List.getElem?_eq_getElem hjl)
      refine ⟨c, h1, fun ρ => ?_⟩
      have := hx1 j u hj ρ
      rwa [h1] at this
    obtain ⟨f, hf⟩ := Deep.choose_lt each
    refine ⟨some ⟨((List.range len).map f).flatMap enc, ⟨blk, off, 0⟩⟩, fun k => .slice (some (k, 0)) len cap, (List.range len).map f, fun s e => ?_, fun k ρ hr => ?_, fun k => ⟨some (k, 0), cap, by simp, fun h nx hk hg => ?_⟩⟩
    · cases e
      refine ⟨C, el, z, hw, fun i u hu => ?_⟩
      obtain ⟨i', j, x, rfl, h2, h3⟩ := flat_at he _ i u hu
      have hi' : i' < len := by
        rcases Nat.lt_or_ge i' len with h | h
        · exact h
        · rw [List.getElem?_eq_none (by simp; omega)] at h2; cases h2
      rw [List.getElem?_map, List.getElem?_range hi'] at h2
      cases h2
      exact hf i' hi' j u h3
    · exact VR.slice (r := ⟨blk, off, 0⟩) (o := 0) hr
    · exact flat_row0 (c := cap) he hk (by rw [hg]; rfl)
theorem dec_int : ∀ us : Nat → Value, (∀ j k, [Leaf.i .i64][j]? = some k → LeafV k (us j)) → ∃ x : Int, ∀ j u, (ienc x)[j]? = some u → ∀ ρ, VR ρ u (us j) := by
  intro us h
  have h0 := h 0 _ rfl
  cases e : us 0 with
  | int k n =>
    rw [e] at h0
    cases h0
    refine ⟨n, fun j u hj ρ => ?_⟩
    cases j with
    | zero => cases hj; rw [e]; exact .int _ _
    | succ j => simp at hj
  | _ => rw [e] at h0; cases h0
theorem leaf_int {k : IntKind} {u : Value} (h : LeafV (.i k) u) : ∃ n, u = .int k n := by cases h; exact ⟨_, rfl⟩
/-- A struct argument of plain cells. -/
theorem arg_struct {H : Type} {enc : TypeId × Value → H} {w : World} {base : Nat} {spare : Nat → Bool} {held : Bool} {t : TypeId} {d : Nat} {ks : List Leaf} {fs : Array Field} {v : Value} {dd : DataW H} {p : List MemPlace} {b0 : Nat} (ht : P.underlying t = some (.struct fs)) (hk : leaves P d t = some ks) (hl : ks.length = P.cellsOf t)
    (hv : Value.okWide P w .any b0 t v) (h : DataW.Trod enc P w base spare held t v dd p) : ∃ C : List Value, v = .agg C.toArray ∧ F2 ks C := by
  obtain ⟨fuel, hf⟩ := h
  obtain ⟨C, rfl, _⟩ := WideShapes.okWide_struct ht hv
  exact ⟨C.toList, rfl, trod_leaves d t ks fuel _ _ hk hl hf⟩
theorem f2_cons {k : Leaf} {ks : List Leaf} {C : List Value} (h : F2 (k :: ks) C) : ∃ u C', C = u :: C' ∧ LeafV k u ∧ F2 ks C' := by
  cases C with
  | nil => exact absurd h.1 (by simp)
  | cons u C => exact ⟨u, C, rfl, h.2 0 k u rfl rfl, by simpa using h.1, fun i k' u' h1 h2 => h.2 (i + 1) k' u' (by simpa using h1) (by simpa using h2)⟩
theorem f2_nil {C : List Value} (h : F2 [] C) : C = [] := by
  cases C with
  | nil => rfl
  | cons u C => exact absurd h.1 (by simp)
end Go.Hx

/- 'wakes' is known; the functions of the program with it; readings as arguments. -/
namespace Go.Hx
theorem spWakes_ok : ∀ args σ v σ', spWakes args σ = some (v, σ') → σ' = σ ∧ args.all flat = true ∧ flatV v = true ∧ C LQ 0 19 args ⟨.e, 0⟩ (fun v' _ => v' = v) := by
  intro args σ v σ' h
  cases args with
  | nil => cases h; exact ⟨rfl, rfl, rfl, closed19⟩
  | cons a l => cases h
theorem lw_ok : LpOk Go.Proofs.Try.prog LW := withS_ok lowP_ok (spec_plain mixed lq_ok spWakes_ok)
instance : Inhabited Rd := ⟨⟨0, 0, 0, 0⟩⟩
theorem dec_rd : ∀ us : Nat → Value, (∀ j k, [Leaf.i .i64, .i .i64, .i .i64, .i .i64][j]? = some k → LeafV k (us j)) → ∃ x : Rd, ∀ j u, x.enc[j]? = some u → ∀ ρ, VR ρ u (us j) := by
  intro us h
  obtain ⟨f, e0⟩ := leaf_int (h 0 _ rfl)
  obtain ⟨g, e1⟩ := leaf_int (h 1 _ rfl)
  obtain ⟨lo, e2⟩ := leaf_int (h 2 _ rfl)
  obtain ⟨hi, e3⟩ := leaf_int (h 3 _ rfl)
  refine ⟨⟨f, g, lo, hi⟩, fun j u hj ρ => ?_⟩
  match j, hj with
  | 0, hj => cases hj; rw [e0]; exact .int _ _
  | 1, hj => cases hj; rw [e1]; exact .int _ _
  | 2, hj => cases hj; rw [e2]; exact .int _ _
  | 3, hj => cases hj; rw [e3]; exact .int _ _
  | j + 4, hj => simp [Rd.enc] at hj
/-- A tube as an argument. -/
theorem tube_arg {C : List Value} (h : F2 [Leaf.i .i64, .i .i64, .i .i64, .i .i64] C) : ∃ t : Tb, ∀ ρ, VR ρ (.agg t.cells) (.agg C.toArray) := by
  obtain ⟨_, _, rfl, h0, h⟩ := f2_cons h
  obtain ⟨_, _, rfl, h1, h⟩ := f2_cons h
  obtain ⟨_, _, rfl, h2, h⟩ := f2_cons h
  obtain ⟨_, _, rfl, h3, h⟩ := f2_cons h
  have := f2_nil h; subst this
  obtain ⟨c, rfl⟩ := leaf_int h0
  obtain ⟨t, rfl⟩ := leaf_int h1
  obtain ⟨a, rfl⟩ := leaf_int h2
  obtain ⟨b, rfl⟩ := leaf_int h3
  exact ⟨⟨c, t, a, b⟩, fun ρ => VR.aggL (LR.cons (.int _ _) (LR.cons (.int _ _) (LR.cons (.int _ _) (LR.cons (.int _ _) (LR.nil _)))))⟩
end Go.Hx

