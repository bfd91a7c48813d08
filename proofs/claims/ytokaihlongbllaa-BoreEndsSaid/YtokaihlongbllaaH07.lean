/- From a statement's arguments, plain structs and lists of them, to the plain machine's store. -/
import Derived.Test.YtokaihlongbllaaH04
import Derived.Below
import Derived.Deep.Slices
import Derived.WideShapes
import Derived.Test.YtokaihlongbllaaH06
import Derived.Test.YtokaihlongbllaaH05
set_option linter.all false
/- From a statement's arguments, plain structs and lists of them, to the plain machine's store. -/
namespace Go.Hx
open Go.RowKit
variable {P : Program}

inductive LeafV : Leaf → Value → Prop
  | b (b : Bool) : LeafV .b (.bool b)
  | i (k : IntKind) (n : Int) : LeafV (.i k) (.int k n)
  | s (s : ByteArray) : LeafV .s (.string s)
def F2 (ks : List Leaf) (cs : List Value) : Prop := ks.length = cs.length ∧ ∀ (i : Nat) (k : Leaf) (u : Value), ks[i]? = some k → cs[i]? = some u → LeafV k u
theorem f2_one {k : Leaf} {u : Value} (h : LeafV k u) : F2 [k] [u] := ⟨rfl, fun i k' u' h1 h2 => by
  cases i with
  | zero => cases h1; cases h2; exact h
  | succ i => simp at h1⟩
section
variable {H : Type} {enc : TypeId × Value → H} {w : World} {base : Nat} {spare : Nat → Bool} {held : Bool}
theorem size_cells {t : TypeId} {n : Nat} (h : szOf P t = some n) : P.cellsOf t = n := by
  unfold szOf at h
  unfold Program.cellsOf
  rw [h]; rfl
theorem fields_leaves {lv : TypeId → Option (List Leaf)} {cs : List Value} : ∀ (fs : List Field) (off : Nat) (ks : List Leaf), leavesF P lv fs off = some ks →
    (∀ f ∈ fs, ∀ kf, lv f.type = some kf → kf.length = P.cellsOf f.type → F2 kf ((cs.drop f.offset).take (P.cellsOf f.type))) →
    ∀ (i : Nat) (k : Leaf) (u : Value), ks[i]? = some k → cs[off + i]? = some u → LeafV k u
  | [], off, ks, h, _, i, k, u, h1, _ => by cases h; simp at h1
  | f :: fs, off, ks, h, hf, i, k, u, h1, h2 => by
    unfold leavesF at h
    split at h
    · rename_i kf n e1 e2
      cases hc : (f.name != "_" && Nat.beq f.offset off && Nat.beq n kf.length) with
      | false => rw [hc] at h; cases h
      | true =>
        rw [hc] at h
        simp only [cond_true, Option.map_eq_some_iff] at h
        obtain ⟨kr, h3, rfl⟩ := h
        simp only [Bool.and_eq_true] at hc
        have ho : f.offset = off := Nat.eq_of_beq_eq_true hc.1.2
        have hn : n = kf.length := Nat.eq_of_beq_eq_true hc.2
        have hs := size_cells e2
        by_cases hi : i < kf.length
        · have := (hf f (List.mem_cons_self ..) kf e1 (by omega)).2 i k u (by rwa [List.getElem?_append_left hi] at h1)
          exact this (by rw [List.getElem?_take, if_pos (by omega), List.getElem?_drop, ho]; exact h2)
        · refine fields_leaves fs (off + n) kr h3 (fun g hg => hf g (List.mem_cons_of_mem _ hg)) (i - kf.length) k u ?_ ?_
          · rwa [List.getElem?_append_right (by omega)] at h1
          · rw [show off + n + (i - kf.length) = off + i by omega]; exact h2
    · cases h
theorem trod_leaves : ∀ (d : Nat) (t : TypeId) (ks : List Leaf) (fuel : Nat) (cs : List Value) (x : DataW H × List MemPlace), leaves P d t = some ks → ks.length = P.cellsOf t → DataW.trod enc P w base spare held fuel t cs = some x → F2 ks cs
  | 0, t, ks, fuel, cs, x, h, _, _ => by cases h
  | d + 1, t, ks, fuel, cs, x, h, hl, ht => by
    unfold leaves at h
    split at h
    · rename_i e; cases h
      obtain ⟨b, rfl, _⟩ := DataW.trod_bool e ht
      exact f2_one (.b b)
    · rename_i k e; cases h
      obtain ⟨n, rfl, _⟩ := DataW.trod_int e ht
      exact f2_one (.i k n)
    · rename_i e; cases h
      obtain ⟨s, rfl, _⟩ := DataW.trod_string e ht
      exact f2_one (.s s)
    · rename_i fs e
      cases hst : P.stoodInHeld t with
      | true => rw [hst] at h; cases h
      | false =>
        rw [hst] at h
        simp only [cond_false] at h
        obtain ⟨xs, n, _, _, hlen, hxl, hx⟩ := DataW.trod_struct e ht
        refine ⟨by omega, fun i k u h1 h2 => ?_⟩
        refine fields_leaves fs.toList 0 ks h (fun f hf kf hk hkl => ?_) i k u h1 (by rwa [Nat.zero_add])
        obtain ⟨j, hj, rfl⟩ := List.getElem_of_mem hf
        have hj' : j < fs.size := by simpa using hj
        have hfj : fs[j]? = some fs.toList[j] := by rw [← Array.getElem?_toList]; exact List.getElem?_eq_getElem hj
        have h3 := hx j _ hfj
        have h4 : xs[j]? = some xs[j] := List.getElem?_eq_getElem (by omega)
        rw [h4] at h3
        exact trod_leaves d _ kf n _ _ hk hkl h3
    · cases h
/-- A list of plain rows, opened. -/
theorem open_rows {t e : TypeId} {d : Nat} {ks : List Leaf} {v : Value} {dd : DataW H} {p : List MemPlace} {b0 : Nat} (ht : P.underlying t = some (.slice e)) (hk : leaves P d e = some ks) (hl : ks.length = P.cellsOf e)
    (hv : Value.okWide P w .any b0 t v) (h : DataW.Trod enc P w base (fun _ => true) held t v dd p) :
    v = .slice none 0 0 ∨ ∃ (blk off len cap : Nat) (C : Array Value) (el : TypeId) (z : Nat × Nat), v = .slice (some ⟨blk, off, none⟩) len cap ∧ w.heap[blk]? = some (.cells C el z) ∧
      ∀ i, i < len → ∀ (j : Nat) (k : Leaf), ks[j]? = some k → ∃ u, C[off + (i * ks.length + j)]? = some u ∧ LeafV k u := by
  obtain ⟨fuel, hf⟩ := h
  obtain ⟨a0, len, cap, rfl⟩ := WideShapes.okWide_slice ht hv
  rcases Deep.open_slice ht hf with ⟨hcs, _⟩ | ⟨a, len', cap', m, n, D, Pl, hcs, _, hlc, hm, hmm, _, hx⟩
  · simp [Value.cells] at hcs
    obtain ⟨rfl, rfl, rfl⟩ := hcs
    exact .inl rfl
  · simp [Value.cells] at hcs
    obtain ⟨rfl, rfl, rfl⟩ := hcs
    simp only [if_true] at hmm
    subst hmm
    have hok : Cell.ok P w .any b0 t (.slice (some a) len m) := by
      simp only [Value.okWide, ht, Cell.okWide] at hv
      exact hv
    simp only [Cell.ok, ht] at hok
    obtain ⟨_, _, _, hspot, row, cells, hsh, _⟩ := hok
    obtain ⟨blk, off, spot⟩ := a
    dsimp only at hspot hsh
    subst hspot
    unfold World.shape? at hsh
    split at hsh
    · rename_i C el z hw
      refine .inr ⟨blk, off, len, m, C, el, z, rfl, hw, fun i hi j k hj => ?_⟩
      obtain ⟨cs', h1, h2⟩ := hx i (by omega)
      obtain ⟨_, hlen, hcell⟩ := World.cells?_some h1
      have hjl : j < ks.length := by
        rcases Nat.lt_or_ge j ks.length with h | h
        · exact h
        · rw [List.getElem?_eq_none h] at hj; cases hj
      have hf2 := trod_leaves d e ks n cs' _ hk hl h2
      have hu : cs'[j]? = some cs'[j] := List.getElem?_eq_getElem (by rw [← hf2.1]; exact hjl)
      refine ⟨cs'[j], ?_, hf2.2 j k _ hj hu⟩
      have hc := hcell j (by omega)
      rw [hu, Deep.add_add] at hc
      have key : w.cell? (Addr.add ⟨blk, off, none⟩ (i * P.cellsOf e + j)) = C[off + (i * P.cellsOf e + j)]? := by
        unfold Addr.add World.cell?
        by_cases h0 : i * P.cellsOf e + j = 0
        · rw [if_pos h0, h0]
          simp only [hw, Nat.add_zero]
          rfl
        · rw [if_neg h0]
          simp only [hw]
          rfl
      rw [key] at hc
      rw [hl]; exact hc
    · simp at hsh
end
/-! the store that the arguments make -/
structure Slot where
  cs : List HV
  ri : RI
noncomputable def laid : Nat → List (Option Slot) → Tr HBlk → Tr HBlk
  | _, [], h => h
  | k, none :: ss, h => laid (k + 1) ss h
  | k, some s :: ss, h => laid (k + 1) ss (h.set k (some (.cells s.cs .ro)))
def riOf (o : Option Slot) : Option RI := o.map (·.ri)
def rhoOf (ss : List (Option Slot)) : Rho := fun b => riOf (ss.getD b none)
theorem laid_get : ∀ (ss : List (Option Slot)) (k : Nat) (h : Tr HBlk) (b : Nat), (laid k ss h).get b = if k ≤ b ∧ b < k + ss.length then (match ss.getD (b - k) none with | some s => some (.cells s.cs .ro) | none => h.get b) else h.get b
  | [], k, h, b => by rw [if_neg (by simp only [List.length_nil]; omega)]; rfl
  | none :: ss, k, h, b => by
    show (laid (k + 1) ss h).get b = _
    rw [laid_get ss (k + 1) h b]
    by_cases e : b = k
    · subst e; rw [if_neg (by omega), if_pos (by simp)]; simp
    · by_cases h1 : k + 1 ≤ b ∧ b < k + 1 + ss.length
      · rw [if_pos h1, if_pos (by simp; omega), show b - k = (b - (k + 1)) + 1 by omega]; rfl
      · rw [if_neg h1, if_neg (by simp; omega)]
  | some s :: ss, k, h, b => by
    show (laid (k + 1) ss (h.set k _)).get b = _
    rw [laid_get ss (k + 1) _ b, Tr.get_set]
    by_cases e : b = k
    · subst e; rw [if_neg (by omega), if_pos rfl, if_pos (by simp)]; simp
    · rw [if_neg e]
      by_cases h1 : k + 1 ≤ b ∧ b < k + 1 + ss.length
      · rw [if_pos h1, if_pos (by simp; omega), show b - k = (b - (k + 1)) + 1 by omega]; rfl
      · rw [if_neg h1, if_neg (by simp; omega)]
noncomputable def lay (ss : List (Option Slot)) : Tr HBlk := laid 0 ss .e
theorem lay_get (ss : List (Option Slot)) (b : Nat) : (lay ss).get b = (ss.getD b none).map fun s => .cells s.cs .ro := by
  unfold lay
  rw [laid_get, Tr.get_e]
  by_cases h : b < ss.length
  · rw [if_pos ⟨Nat.zero_le _, by omega⟩, Nat.sub_zero]
    cases ss.getD b none <;> rfl
  · rw [if_neg (by omega), List.getD_eq_getElem?_getD, List.getElem?_eq_none (by omega)]; rfl
theorem lay_d (ss : List (Option Slot)) : D (lay ss) ss.length := by
  unfold D
  intro b hb
  rw [lay_get, List.getD_eq_getElem?_getD, List.getElem?_eq_none (by omega)]; rfl
/-- A slot is in the world. -/
def SlotOk (w : World) (s : Slot) : Prop := ∃ (C : Array Value) (e : TypeId) (z : Nat × Nat), w.heap[s.ri.blk]? = some (.cells C e z) ∧ ∀ (i : Nat) (v : HV), s.cs[i]? = some v → ∃ u, C[s.ri.off + i]? = some u ∧ ∀ ρ, VR ρ v u
theorem below_of_post {base nx nx' : Nat} {g g' : Hp} {ρ ρ' : Rho} {W W' : World} (h : Post P base 0 nx nx' g g' ρ ρ' W W') (hro : ∀ b x, g b = some x → x.own = false) : Below W.heap.size W W' :=
  ⟨h.os, h.tape, h.output, h.size, fun k hk => h.same k hk fun ⟨b, x, r, h1, h2, _⟩ => by rw [hro b x h1] at h2; cases h2⟩
/-- **A law over such arguments, walked on the plain machine, in any world.** -/
theorem calls_args {lp : Nat → Option LFunc} (hm : P.follows .mixedOrders = true) (hlp : LpOk P lp) {f : Nat} {args : List HV} {ss : List (Option Slot)} {W : World} (hs : ∀ s, some s ∈ ss → SlotOk W s)
    (h : C lp 0 f args ⟨lay ss, ss.length⟩ (Sc (· = .bool true) ⟨lay ss, ss.length⟩)) {Args : Array Value} (ha : LR (rhoOf ss) args Args.toList) :
    Calls P f Args W fun e W' => e = .returned (.bool true) ∧ Below W.heap.size W W' := by
  have hro : ∀ b x, (lay ss).get b = some x → x.own = false := fun b x hx => by
    rw [lay_get] at hx
    cases e : ss.getD b none with
    | none => rw [e] at hx; cases hx
    | some s => rw [e] at hx; cases hx; rfl
  have mem : ∀ b s, ss.getD b none = some s → some s ∈ ss ∧ b < ss.length := fun b s e => by
    rw [List.getD_eq_getElem?_getD] at e
    cases e2 : ss[b]? with
    | none => rw [e2] at e; cases e
    | some o =>
      rw [e2] at e
      have : o = some s := e
      subst this
      refine ⟨List.mem_of_getElem? e2, ?_⟩
      rcases Nat.lt_or_ge b ss.length with h | h
      · exact h
      · rw [List.getElem?_eq_none h] at e2; cases e2
  have hdom : Dom ⟨lay ss, ss.length⟩ := fun b x hx => by
    have hx' : (lay ss).get b = some x := hx
    rw [lay_get] at hx'
    cases e : ss.getD b none with
    | none => rw [e] at hx'; cases hx'
    | some s => exact (mem b s e).2
  have hsim : Sim P W.heap.size (lay ss).get (rhoOf ss) W := by
    refine ⟨fun b x hx => ?_, fun b b' x x' r r' hx _ ho => by rw [hro b x hx] at ho; cases ho⟩
    rw [lay_get] at hx
    cases e : ss.getD b none with
    | none => rw [e] at hx; cases hx
    | some s =>
      rw [e] at hx
      cases hx
      obtain ⟨C, el, z, hw, hc⟩ := hs s (mem b s e).1
      refine ⟨s.ri, C, el, z, by unfold rhoOf riOf; rw [e]; rfl, hw, fun i v hv => ?_, (Array.getElem?_eq_some_iff.1 hw).1⟩
      obtain ⟨u, h1, h2⟩ := hc i v hv
      exact ⟨u, h1, h2 _⟩
  obtain ⟨n, v, σ', h1, h2⟩ := h
  have hin : In P W.heap.size ⟨lay ss, ss.length⟩ σ' (rhoOf ss) W := ⟨Nat.le_refl _, hsim, fun b hb _ => by
    show riOf (ss.getD b none) = none
    rw [List.getD_eq_getElem?_getD, List.getElem?_eq_none hb]; rfl⟩
  have := run_sound hm hlp h1 hdom W.heap.size (rhoOf ss) Args W hin ha
  rw [fr_none] at this
  refine (callsIn_wide.1 this).mono ?_
  rintro e W' ⟨V, ρ', rfl, hv, hp⟩
  obtain ⟨rfl, _⟩ := h2
  cases hv
  exact ⟨rfl, below_of_post hp hro⟩
/-- Which element and which cell of it a cell of a list is. -/
theorem flat_at {α : Type} {enc : α → List HV} {sz : Nat} (he : ∀ x, (enc x).length = sz) : ∀ (l : List α) (p : Nat) (v : HV), (l.flatMap enc)[p]? = some v → ∃ i j x, p = i * sz + j ∧ l[i]? = some x ∧ (enc x)[j]? = some v
  | [], p, v, h => by simp at h
  | x :: l, p, v, h => by
    rw [List.flatMap_cons] at h
    by_cases hp : p < sz
    · rw [List.getElem?_append_left (by rw [he]; exact hp)] at h
      exact ⟨0, p, x, by omega, rfl, h⟩
    · rw [List.getElem?_append_right (by rw [he]; omega), he] at h
      obtain ⟨i, j, y, h1, h2, h3⟩ := flat_at he l _ v h
      exact ⟨i + 1, j, y, by rw [Nat.add_mul]; omega, by simpa using h2, h3⟩
theorem flat_row0 {α : Type} {enc : α → List HV} {sz b c : Nat} {h : Tr HBlk} {nx : Nat} {l : List α} {k : BK} (he : ∀ x, (enc x).length = sz) (hb : b < nx) (hg : h.get b = some (.cells (l.flatMap enc) k)) : Row enc sz h nx (some (b, 0)) l :=
  fun _ => ⟨b, 0, _, k, rfl, hb, hg, fun i x hx => flat_row he l i x hx⟩
/-- A list argument: what it is on the plain machine. -/
structure ArgL {α : Type} (enc : α → List HV) (sz : Nat) (w : World) (v : Value) (o : Option Slot) (mk : Nat → HV) (l : List α) : Prop where
  ok : ∀ s, o = some s → SlotOk w s
  vr : ∀ (k : Nat) (ρ : Rho), ρ k = riOf o → VR ρ (mk k) v
  row : ∀ k, ∃ p c, mk k = .slice p l.length c ∧ ∀ (h : Tr HBlk) (nx : Nat), k < nx → h.get k = (o.map fun s => .cells s.cs .ro) → Row enc sz h nx p l
theorem leaf_int {k : IntKind} {u : Value} (h : LeafV (.i k) u) : ∃ n, u = .int k n := by cases h; exact ⟨_, rfl⟩
/-- A struct argument of plain cells. -/
theorem arg_struct {H : Type} {enc : TypeId × Value → H} {w : World} {base : Nat} {spare : Nat → Bool} {held : Bool} {t : TypeId} {d : Nat} {ks : List Leaf} {fs : Array Field} {v : Value} {dd : DataW H} {p : List MemPlace} {b0 : Nat} (ht : P.underlying t = some (.struct fs)) (hk : leaves P d t = some ks) (hl : ks.length = P.cellsOf t)
    (hv : Value.okWide P w .any b0 t v) (h : DataW.Trod enc P w base spare held t v dd p) : ∃ C : List Value, v = .agg C.toArray ∧ F2 ks C := by
  obtain ⟨fuel, hf⟩ := h
  obtain ⟨C, rfl, _⟩ := WideShapes.okWide_struct ht hv
  exact ⟨C.toList, rfl, trod_leaves d t ks fuel _ _ hk hl hf⟩
theorem f2_cons {k : Leaf} {ks : List Leaf} {C : List Value} (h : F2 (k :: ks) C) : ∃ u C', C = u :: C' ∧ LeafV k u ∧ F2 ks C' := by
  cases C with
  | nil => exact absurd h.1 (by simp)
  | cons u C => exact ⟨u, C, rfl, h.2 0 k u rfl rfl, by simpa using h.1, fun i k' u' h1 h2 => h.2 (i + 1) k' u' (by simpa using h1) (by simpa using h2)⟩
theorem f2_nil {C : List Value} (h : F2 [] C) : C = [] := by
  cases C with
  | nil => rfl
  | cons u C => exact absurd h.1 (by simp)
end Go.Hx

/- 'wakes' is known; the functions of the program with it; readings as arguments. -/
namespace Go.Hx
theorem spWakes_ok : ∀ args σ v σ', spWakes args σ = some (v, σ') → σ' = σ ∧ args.all flat = true ∧ flatV v = true ∧ C LQ 0 19 args ⟨.e, 0⟩ (fun v' _ => v' = v) := by
  intro args σ v σ' h
  cases args with
  | nil => cases h; exact ⟨rfl, rfl, rfl, closed19⟩
  | cons a l => cases h
theorem lw_ok : LpOk Go.Proofs.Try.prog LW := withS_ok lowP_ok (spec_plain mixed lq_ok spWakes_ok)
instance : Inhabited Rd := ⟨⟨0, 0, 0, 0⟩⟩
/-- A tube as an argument. -/
theorem tube_arg {C : List Value} (h : F2 [Leaf.i .i64, .i .i64, .i .i64, .i .i64] C) : ∃ t : Tb, ∀ ρ, VR ρ (.agg t.cells) (.agg C.toArray) := by
  obtain ⟨_, _, rfl, h0, h⟩ := f2_cons h
  obtain ⟨_, _, rfl, h1, h⟩ := f2_cons h
  obtain ⟨_, _, rfl, h2, h⟩ := f2_cons h
  obtain ⟨_, _, rfl, h3, h⟩ := f2_cons h
  have := f2_nil h; subst this
  obtain ⟨c, rfl⟩ := leaf_int h0
  obtain ⟨t, rfl⟩ := leaf_int h1
  obtain ⟨a, rfl⟩ := leaf_int h2
  obtain ⟨b, rfl⟩ := leaf_int h3
  exact ⟨⟨c, t, a, b⟩, fun ρ => VR.aggL (LR.cons (.int _ _) (LR.cons (.int _ _) (LR.cons (.int _ _) (LR.cons (.int _ _) (LR.nil _)))))⟩
end Go.Hx

/- More functions of the program: the law's volumes and readings by words. -/
namespace Go.Hx
set_option maxRecDepth 100000
noncomputable def L11w0 : LCode := (.seq (.seq (.reg [⟨(.some 43), (.move (.t 10)), .none, []⟩, ⟨(.some 44), (.fieldAddr 0 (.t 3)), .none, []⟩, ⟨(.some 45), (.load .false 1 (.t 44)), .none, []⟩, ⟨(.some 46), (.bin .leq (.t 43) (.t 45)), .none, []⟩]) (.cond (.t 46) .skip (.exit 0))) (.seq (.block 1 (.seq (.reg [⟨(.some 50), (.load .true 4 (.t 3)), .none, []⟩, ⟨(.some 51), (.call (.c (.func 21 [] [])) [(.t 50)]), .none, []⟩, ⟨(.some 52), (.move (.t 7)), .none, []⟩, ⟨(.some 53), (.call (.c (.func 23 [] [])) [(.t 52)]), .none, []⟩, ⟨(.some 54), (.move (.t 10)), .none, []⟩, ⟨(.some 55), (.call (.c (.func 36 [] [])) [(.t 51), (.t 53), (.t 54), (.c (.bool .false))]), .none, []⟩, ⟨(.some 49), (.move (.t 55)), .none, []⟩, ⟨(.some 56), (.extract (.t 49) 0), .none, []⟩, ⟨(.some 57), (.extract (.t 49) 1), .none, []⟩, ⟨(.some 11), (.move (.t 56)), .none, []⟩, ⟨(.some 12), (.move (.t 57)), .none, []⟩]) (.seq (.reg [⟨(.some 59), (.load .true 4 (.t 3)), .none, []⟩, ⟨(.some 60), (.call (.c (.func 21 [] [])) [(.t 59)]), .none, []⟩, ⟨(.some 61), (.move (.t 7)), .none, []⟩, ⟨(.some 62), (.call (.c (.func 23 [] [])) [(.t 61)]), .none, []⟩, ⟨(.some 63), (.move (.t 10)), .none, []⟩, ⟨(.some 64), (.call (.c (.func 36 [] [])) [(.t 60), (.t 62), (.t 63), (.c (.bool .true))]), .none, []⟩, ⟨(.some 58), (.move (.t 64)), .none, []⟩, ⟨(.some 65), (.extract (.t 58) 0), .none, []⟩, ⟨(.some 66), (.extract (.t 58) 1), .none, []⟩, ⟨(.some 13), (.move (.t 65)), .none, []⟩, ⟨(.some 14), (.move (.t 66)), .none, []⟩]) (.seq (.draw 40 [⟨(.some 67), (.move (.t 12)), .none, []⟩, ⟨(.some 68), (.eq (.cell (.i .i64)) .true (.t 67) (.c (.int .i64 0))), .none, []⟩, ⟨(.some 69), (.move (.t 68)), .none, []⟩, ⟨(.some 70), (.move (.t 14)), (.some (69, .false)), []⟩, ⟨(.some 71), (.eq (.cell (.i .i64)) .true (.t 70) (.c (.int .i64 0))), (.some (69, .false)), []⟩, ⟨(.some 72), (.pick (.t 69) (.c (.bool .true)) (.t 71)), .none, []⟩, ⟨(.some 73), (.move (.t 72)), .none, []⟩, ⟨(.some 74), (.load .true 4 (.t 3)), (.some (73, .false)), []⟩, ⟨(.some 75), (.move (.t 7)), (.some (73, .false)), []⟩, ⟨(.some 76), (.move (.t 11)), (.some (73, .false)), []⟩, ⟨(.some 77), (.call (.c (.func 27 [] [])) [(.t 74), (.t 75), (.t 76)]), (.some (73, .false)), []⟩, ⟨(.some 78), (.un .not (.t 77)), (.some (73, .false)), [10]⟩, ⟨(.some 79), (.pick (.t 73) (.c (.bool .true)) (.t 78)), .none, [10]⟩, ⟨(.some 80), (.move (.t 79)), .none, [10]⟩, ⟨(.some 81), (.load .true 4 (.t 3)), (.some (80, .false)), [10]⟩, ⟨(.some 82), (.move (.t 7)), (.some (80, .false)), [10]⟩, ⟨(.some 83), (.move (.t 13)), (.some (80, .false)), [10]⟩, ⟨(.some 84), (.call (.c (.func 27 [] [])) [(.t 81), (.t 82), (.t 83)]), (.some (80, .false)), [10]⟩, ⟨(.some 85), (.un .not (.t 84)), (.some (80, .false)), [17, 10]⟩, ⟨(.some 86), (.pick (.t 80) (.c (.bool .true)) (.t 85)), .none, [17, 10]⟩, ⟨(.some 87), (.move (.t 86)), .none, [17, 10]⟩, ⟨(.some 88), (.move (.t 11)), (.some (87, .false)), [17, 10]⟩, ⟨(.some 89), (.move (.t 10)), (.some (87, .false)), [17, 10]⟩, ⟨(.some 90), (.call (.c (.func 38 [] [])) [(.t 88), (.t 89)]), (.some (87, .false)), [17, 10]⟩, ⟨(.some 91), (.move (.t 8)), (.some (87, .false)), [17, 10]⟩, ⟨(.some 92), (.move (.t 10)), (.some (87, .false)), [17, 10]⟩, ⟨(.some 93), (.indexAddrS 2 (.t 91) (.t 92)), (.some (87, .false)), [17, 10]⟩, ⟨(.some 94), (.fieldAddr 0 (.t 93)), (.some (87, .false)), [17, 10]⟩, ⟨(.some 95), (.load .false 1 (.t 94)), (.some (87, .false)), [17, 10]⟩, ⟨(.some 96), (.eq (.cell (.i .i64)) .true (.t 90) (.t 95)), (.some (87, .false)), [23, 17, 10]⟩, ⟨(.some 97), (.pick (.t 87) (.c (.bool .true)) (.t 96)), .none, [23, 17, 10]⟩, ⟨(.some 98), (.move (.t 97)), .none, [23, 17, 10]⟩, ⟨(.some 99), (.move (.t 13)), (.some (98, .false)), [23, 17, 10]⟩, ⟨(.some 100), (.move (.t 10)), (.some (98, .false)), [23, 17, 10]⟩, ⟨(.some 101), (.call (.c (.func 38 [] [])) [(.t 99), (.t 100)]), (.some (98, .false)), [23, 17, 10]⟩, ⟨(.some 102), (.move (.t 8)), (.some (98, .false)), [23, 17, 10]⟩, ⟨(.some 103), (.move (.t 10)), (.some (98, .false)), [23, 17, 10]⟩, ⟨(.some 104), (.indexAddrS 2 (.t 102) (.t 103)), (.some (98, .false)), [23, 17, 10]⟩, ⟨(.some 105), (.fieldAddr 1 (.t 104)), (.some (98, .false)), [23, 17, 10]⟩, ⟨(.some 106), (.load .false 1 (.t 105)), (.some (98, .false)), [23, 17, 10]⟩, ⟨(.some 107), (.eq (.cell (.i .i64)) .true (.t 101) (.t 106)), (.some (98, .false)), [34, 23, 17, 10]⟩, ⟨(.some 108), (.pick (.t 98) (.c (.bool .true)) (.t 107)), .none, [34, 23, 17, 10]⟩]) (.cond (.t 108) (.seq (.reg [⟨(.some 6), (.move (.c (.bool .false))), .none, []⟩]) .ret) .skip))))) (.reg [⟨(.some 47), (.move (.t 10)), .none, []⟩, ⟨(.some 48), (.bin .add (.t 47) (.c (.int .i64 1))), .none, []⟩, ⟨(.some 10), (.move (.t 48)), .none, []⟩])))
noncomputable def L11 : LFunc := ⟨110, (.seq (.reg [⟨(.some 3), (.box (.t 0)), .none, []⟩, ⟨(.some 6), (.move (.c (.bool .false))), .none, []⟩]) (.seq (.seq (.reg [⟨(.some 15), (.load .true 4 (.t 3)), .none, []⟩, ⟨(.some 16), (.call (.c (.func 25 [] [])) [(.t 15)]), .none, []⟩, ⟨(.some 17), (.un .not (.t 16)), .none, []⟩]) (.cond (.t 17) (.seq (.reg [⟨(.some 18), (.call (.c (.func 19 [] [])) []), .none, []⟩, ⟨(.some 6), (.move (.t 18)), .none, []⟩]) .ret) .skip)) (.seq (.draw 4 [⟨(.some 19), (.load .true 4 (.t 3)), .none, []⟩, ⟨(.some 20), (.load .true 4 (.t 3)), .none, []⟩, ⟨(.some 21), (.move (.t 1)), .none, []⟩, ⟨(.some 22), (.call (.c (.func 53 [] [])) [(.t 20), (.t 21)]), .none, []⟩, ⟨(.some 23), (.move (.t 2)), .none, []⟩, ⟨(.some 24), (.call (.c (.func 54 [] [])) [(.t 19), (.t 22), (.t 23)]), .none, [3]⟩, ⟨(.some 7), (.move (.t 24)), .none, [5, 3]⟩]) (.seq (.reg [⟨(.some 26), (.load .true 4 (.t 3)), .none, []⟩, ⟨(.some 27), (.call (.c (.func 21 [] [])) [(.t 26)]), .none, []⟩, ⟨(.some 28), (.move (.t 7)), .none, []⟩, ⟨(.some 29), (.call (.c (.func 23 [] [])) [(.t 28)]), .none, []⟩, ⟨(.some 30), (.call (.c (.func 29 [] [])) [(.t 27), (.t 29)]), .none, []⟩, ⟨(.some 25), (.move (.t 30)), .none, []⟩, ⟨(.some 31), (.extract (.t 25) 0), .none, []⟩, ⟨(.some 32), (.extract (.t 25) 1), .none, []⟩, ⟨(.some 8), (.move (.t 31)), .none, []⟩, ⟨(.some 9), (.move (.t 32)), .none, []⟩]) (.seq (.seq (.reg [⟨(.some 33), (.move (.t 9)), .none, []⟩, ⟨(.some 34), (.eq (.cell (.i .i64)) .true (.t 33) (.c (.int .i64 0))), .none, []⟩, ⟨(.some 35), (.move (.t 34)), .none, []⟩, ⟨(.some 36), (.move (.t 8)), (.some (35, .false)), []⟩, ⟨(.some 37), (.len .slice (.t 36)), (.some (35, .false)), []⟩, ⟨(.some 38), (.fieldAddr 0 (.t 3)), (.some (35, .false)), []⟩, ⟨(.some 39), (.load .false 1 (.t 38)), (.some (35, .false)), []⟩, ⟨(.some 40), (.bin .add (.t 39) (.c (.int .i64 1))), (.some (35, .false)), []⟩, ⟨(.some 41), (.eq (.cell (.i .i64)) .true (.t 37) (.t 40)), (.some (35, .false)), []⟩, ⟨(.some 42), (.pick (.t 35) (.c (.bool .true)) (.t 41)), .none, []⟩]) (.cond (.t 42) (.seq (.reg [⟨(.some 6), (.move (.c (.bool .false))), .none, []⟩]) .ret) .skip)) (.seq (.seq (.reg [⟨(.some 10), (.move (.c (.int .i64 0))), .none, []⟩]) (.block 0 (.loop L11w0))) (.seq (.reg [⟨(.some 109), (.call (.c (.func 19 [] [])) []), .none, []⟩, ⟨(.some 6), (.move (.t 109)), .none, []⟩]) .ret))))))), [(.t 6)], .false, .none⟩
theorem lp11 : LP 11 = some L11 := by kernel_rfl
noncomputable def L53w0 : LCode := (.seq (.seq (.reg [⟨(.some 14), (.move (.t 7)), .none, []⟩, ⟨(.some 15), (.fieldAddr 0 (.t 2)), .none, []⟩, ⟨(.some 16), (.load .false 1 (.t 15)), .none, []⟩, ⟨(.some 17), (.bin .lss (.t 14) (.t 16)), .none, []⟩]) (.cond (.t 17) .skip (.exit 0))) (.seq (.block 1 (.seq (.reg [⟨(.some 20), (.fieldAddr 0 (.t 2)), .none, []⟩, ⟨(.some 21), (.load .false 1 (.t 20)), .none, []⟩, ⟨(.some 22), (.bin .sub (.t 21) (.c (.int .i64 1))), .none, []⟩, ⟨(.some 23), (.move (.t 7)), .none, []⟩, ⟨(.some 24), (.bin .sub (.t 22) (.t 23)), .none, []⟩, ⟨(.some 8), (.move (.t 24)), .none, []⟩]) (.seq (.draw 22 [⟨(.some 25), (.fieldAddr 2 (.t 2)), .none, []⟩, ⟨(.some 26), (.fieldAddr 0 (.t 25)), .none, []⟩, ⟨(.some 27), (.load .false 1 (.t 26)), .none, []⟩, ⟨(.some 28), (.move (.t 6)), .none, []⟩, ⟨(.some 29), (.move (.t 8)), .none, []⟩, ⟨(.some 30), (.fieldAddr 2 (.t 2)), .none, []⟩, ⟨(.some 31), (.fieldAddr 1 (.t 30)), .none, []⟩, ⟨(.some 32), (.load .false 1 (.t 31)), .none, []⟩, ⟨(.some 33), (.bin .mul (.t 29) (.t 32)), .none, []⟩, ⟨(.some 34), (.bin .sub (.t 28) (.t 33)), .none, []⟩, ⟨(.some 35), (.max [(.t 27), (.t 34)]), .none, []⟩, ⟨(.some 36), (.fieldAddr 2 (.t 2)), .none, []⟩, ⟨(.some 37), (.fieldAddr 1 (.t 36)), .none, []⟩, ⟨(.some 38), (.load .false 1 (.t 37)), .none, []⟩, ⟨(.some 39), (.move (.t 6)), .none, []⟩, ⟨(.some 40), (.move (.t 8)), .none, []⟩, ⟨(.some 41), (.fieldAddr 2 (.t 2)), .none, []⟩, ⟨(.some 42), (.fieldAddr 0 (.t 41)), .none, []⟩, ⟨(.some 43), (.load .false 1 (.t 42)), .none, []⟩, ⟨(.some 44), (.bin .mul (.t 40) (.t 43)), .none, []⟩, ⟨(.some 45), (.bin .sub (.t 39) (.t 44)), .none, []⟩, ⟨(.some 46), (.min [(.t 38), (.t 45)]), .none, []⟩, ⟨(.some 9), (.move (.t 35)), .none, []⟩, ⟨(.some 10), (.move (.t 46)), .none, []⟩]) (.seq (.reg [⟨(.some 47), (.move (.t 9)), .none, []⟩, ⟨(.some 48), (.move (.t 1)), .none, []⟩, ⟨(.some 49), (.move (.t 7)), .none, []⟩, ⟨(.some 50), (.call (.c (.func 62 [] [])) [(.t 48), (.t 49)]), .none, []⟩, ⟨(.some 51), (.move (.t 10)), .none, []⟩, ⟨(.some 52), (.move (.t 9)), .none, []⟩, ⟨(.some 53), (.bin .sub (.t 51) (.t 52)), .none, []⟩, ⟨(.some 54), (.bin .add (.t 53) (.c (.int .i64 1))), .none, []⟩, ⟨(.some 55), (.bin .rem (.t 50) (.t 54)), .none, []⟩, ⟨(.some 56), (.bin .add (.t 47) (.t 55)), .none, []⟩, ⟨(.some 11), (.move (.t 56)), .none, []⟩]) (.seq (.reg [⟨(.some 57), (.move (.t 5)), .none, []⟩, ⟨(.some 58), (.move (.t 11)), .none, []⟩, ⟨(.some 59), (.buildSlice 1 [(.int .i64 0)] [(0, (1, (.t 58)))]), .none, []⟩, ⟨(.some 60), (.append 1 8 (.t 57) (.t 59)), .none, []⟩, ⟨(.some 5), (.move (.t 60)), .none, []⟩]) (.reg [⟨(.some 61), (.move (.t 6)), .none, []⟩, ⟨(.some 62), (.move (.t 11)), .none, []⟩, ⟨(.some 63), (.bin .sub (.t 61) (.t 62)), .none, []⟩, ⟨(.some 6), (.move (.t 63)), .none, []⟩])))))) (.reg [⟨(.some 18), (.move (.t 7)), .none, []⟩, ⟨(.some 19), (.bin .add (.t 18) (.c (.int .i64 1))), .none, []⟩, ⟨(.some 7), (.move (.t 19)), .none, []⟩])))
noncomputable def L53 : LFunc := ⟨65, (.seq (.reg [⟨(.some 2), (.box (.t 0)), .none, []⟩, ⟨(.some 4), (.move (.c (.slice .none 0 0))), .none, []⟩]) (.seq (.reg [⟨(.some 5), (.move (.c (.slice .none 0 0))), .none, []⟩]) (.seq (.reg [⟨(.some 12), (.fieldAddr 1 (.t 2)), .none, []⟩, ⟨(.some 13), (.load .false 1 (.t 12)), .none, []⟩, ⟨(.some 6), (.move (.t 13)), .none, []⟩]) (.seq (.seq (.reg [⟨(.some 7), (.move (.c (.int .i64 0))), .none, []⟩]) (.block 0 (.loop L53w0))) (.seq (.reg [⟨(.some 64), (.move (.t 5)), .none, []⟩, ⟨(.some 4), (.move (.t 64)), .none, []⟩]) .ret))))), [(.t 4)], .false, .none⟩
theorem lp53 : LP 53 = some L53 := by kernel_rfl
noncomputable def L54w0 : LCode := (.seq (.seq (.reg [⟨(.some 45), (.move (.t 12)), .none, []⟩, ⟨(.some 46), (.fieldAddr 0 (.t 3)), .none, []⟩, ⟨(.some 47), (.load .false 1 (.t 46)), .none, []⟩, ⟨(.some 48), (.bin .lss (.t 45) (.t 47)), .none, []⟩, ⟨(.some 49), (.move (.t 48)), .none, []⟩, ⟨(.some 50), (.move (.t 1)), (.some (49, .true)), []⟩, ⟨(.some 51), (.move (.t 12)), (.some (49, .true)), []⟩, ⟨(.some 52), (.bin .add (.t 51) (.c (.int .i64 1))), (.some (49, .true)), []⟩, ⟨(.some 53), (.call (.c (.func 38 [] [])) [(.t 50), (.t 52)]), (.some (49, .true)), []⟩, ⟨(.some 54), (.move (.t 1)), (.some (49, .true)), []⟩, ⟨(.some 55), (.move (.t 10)), (.some (49, .true)), []⟩, ⟨(.some 56), (.call (.c (.func 38 [] [])) [(.t 54), (.t 55)]), (.some (49, .true)), []⟩, ⟨(.some 57), (.bin .sub (.t 53) (.t 56)), (.some (49, .true)), []⟩, ⟨(.some 58), (.move (.t 11)), (.some (49, .true)), []⟩, ⟨(.some 59), (.bin .leq (.t 57) (.t 58)), (.some (49, .true)), []⟩, ⟨(.some 60), (.pick (.t 49) (.t 59) (.c (.bool .false))), .none, []⟩]) (.cond (.t 60) .skip (.exit 2))) (.block 3 (.reg [⟨(.some 61), (.move (.t 12)), .none, []⟩, ⟨(.some 62), (.bin .add (.t 61) (.c (.int .i64 1))), .none, []⟩, ⟨(.some 12), (.move (.t 62)), .none, []⟩])))
noncomputable def L54w1 : LCode := (.seq (.seq (.reg [⟨(.some 13), (.move (.t 8)), .none, []⟩, ⟨(.some 14), (.move (.t 2)), .none, []⟩, ⟨(.some 15), (.len .slice (.t 14)), .none, []⟩, ⟨(.some 16), (.bin .lss (.t 13) (.t 15)), .none, []⟩, ⟨(.some 17), (.move (.t 16)), .none, []⟩, ⟨(.some 18), (.move (.t 8)), (.some (17, .true)), []⟩, ⟨(.some 19), (.bin .lss (.t 18) (.c (.int .i64 12))), (.some (17, .true)), []⟩, ⟨(.some 20), (.pick (.t 17) (.t 19) (.c (.bool .false))), .none, []⟩]) (.cond (.t 20) .skip (.exit 0))) (.seq (.block 1 (.seq (.reg [⟨(.some 23), (.move (.t 2)), .none, []⟩, ⟨(.some 24), (.move (.t 8)), .none, []⟩, ⟨(.some 25), (.indexAddrS 1 (.t 23) (.t 24)), .none, []⟩, ⟨(.some 26), (.load .false 1 (.t 25)), .none, []⟩, ⟨(.some 27), (.convInt .i64 (.t 26)), .none, []⟩, ⟨(.some 9), (.move (.t 27)), .none, []⟩]) (.seq (.reg [⟨(.some 28), (.move (.t 9)), .none, []⟩, ⟨(.some 29), (.fieldAddr 0 (.t 3)), .none, []⟩, ⟨(.some 30), (.load .false 1 (.t 29)), .none, []⟩, ⟨(.some 31), (.bin .rem (.t 28) (.t 30)), .none, []⟩, ⟨(.some 10), (.move (.t 31)), .none, []⟩]) (.seq (.draw 8 [⟨(.some 32), (.move (.t 9)), .none, []⟩, ⟨(.some 33), (.bin .quo (.t 32) (.c (.int .i64 16))), .none, []⟩, ⟨(.some 34), (.bin .rem (.t 33) (.c (.int .i64 256))), .none, []⟩, ⟨(.some 35), (.fieldAddr 1 (.t 3)), .none, []⟩, ⟨(.some 36), (.load .false 1 (.t 35)), .none, []⟩, ⟨(.some 37), (.move (.t 1)), .none, []⟩, ⟨(.some 38), (.move (.t 10)), .none, []⟩, ⟨(.some 39), (.call (.c (.func 38 [] [])) [(.t 37), (.t 38)]), .none, []⟩, ⟨(.some 40), (.bin .sub (.t 36) (.t 39)), .none, [7]⟩, ⟨(.some 41), (.bin .add (.t 40) (.c (.int .i64 5))), .none, [7]⟩, ⟨(.some 42), (.bin .mul (.t 34) (.t 41)), .none, [7]⟩, ⟨(.some 43), (.bin .quo (.t 42) (.c (.int .i64 256))), .none, [7]⟩, ⟨(.some 11), (.move (.t 43)), .none, [7]⟩]) (.seq (.reg [⟨(.some 44), (.move (.t 10)), .none, []⟩, ⟨(.some 12), (.move (.t 44)), .none, []⟩]) (.seq (.block 2 (.loop L54w0)) (.reg [⟨(.some 63), (.move (.t 7)), .none, []⟩, ⟨(.some 64), (.move (.t 10)), .none, []⟩, ⟨(.some 65), (.move (.t 12)), .none, []⟩, ⟨(.some 66), (.move (.t 11)), .none, []⟩, ⟨(.some 67), (.move (.t 9)), .none, []⟩, ⟨(.some 68), (.bin .quo (.t 67) (.c (.int .i64 4096))), .none, []⟩, ⟨(.some 69), (.bin .rem (.t 68) (.c (.int .i64 4))), .none, []⟩, ⟨(.some 70), (.bin .sub (.t 66) (.t 69)), .none, []⟩, ⟨(.some 71), (.max [(.c (.int .i64 0)), (.t 70)]), .none, []⟩, ⟨(.some 72), (.move (.t 11)), .none, []⟩, ⟨(.some 73), (.move (.t 9)), .none, []⟩, ⟨(.some 74), (.bin .quo (.t 73) (.c (.int .i64 8192))), .none, []⟩, ⟨(.some 75), (.bin .rem (.t 74) (.c (.int .i64 3))), .none, []⟩, ⟨(.some 76), (.bin .add (.t 72) (.t 75)), .none, []⟩, ⟨(.some 77), (.min [(.c (.int .i64 2000)), (.t 76)]), .none, []⟩, ⟨(.some 78), (.build [(.int .i64 0), (.int .i64 0)] [(0, (1, (.t 71))), (1, (1, (.t 77)))]), .none, []⟩, ⟨(.some 79), (.build [(.int .i64 0), (.int .i64 0), (.int .i64 0), (.int .i64 0)] [(0, (1, (.t 64))), (1, (1, (.t 65))), (2, (2, (.t 78)))]), .none, []⟩, ⟨(.some 80), (.buildSlice 1 [(.int .i64 0), (.int .i64 0), (.int .i64 0), (.int .i64 0)] [(0, (4, (.t 79)))]), .none, []⟩, ⟨(.some 81), (.append 4 32 (.t 63) (.t 80)), .none, []⟩, ⟨(.some 7), (.move (.t 81)), .none, []⟩]))))))) (.reg [⟨(.some 21), (.move (.t 8)), .none, []⟩, ⟨(.some 22), (.bin .add (.t 21) (.c (.int .i64 1))), .none, []⟩, ⟨(.some 8), (.move (.t 22)), .none, []⟩])))
noncomputable def L54 : LFunc := ⟨83, (.seq (.reg [⟨(.some 3), (.box (.t 0)), .none, []⟩, ⟨(.some 6), (.move (.c (.slice .none 0 0))), .none, []⟩]) (.seq (.reg [⟨(.some 7), (.move (.c (.slice .none 0 0))), .none, []⟩]) (.seq (.seq (.reg [⟨(.some 8), (.move (.c (.int .i64 0))), .none, []⟩]) (.block 0 (.loop L54w1))) (.seq (.reg [⟨(.some 82), (.move (.t 7)), .none, []⟩, ⟨(.some 6), (.move (.t 82)), .none, []⟩]) .ret)))), [(.t 6)], .false, .none⟩
theorem lp54 : LP 54 = some L54 := by kernel_rfl
noncomputable def L62 : LFunc := ⟨16, (.seq (.reg [⟨(.some 4), (.move (.c (.int .i64 0))), .none, []⟩]) (.seq (.seq (.reg [⟨(.some 5), (.move (.t 0)), .none, []⟩, ⟨(.some 6), (.len .slice (.t 5)), .none, []⟩, ⟨(.some 7), (.eq (.cell (.i .i64)) .false (.t 6) (.c (.int .i64 0))), .none, []⟩]) (.cond (.t 7) (.seq (.reg [⟨(.some 4), (.move (.c (.int .i64 0))), .none, []⟩]) .ret) .skip)) (.seq (.reg [⟨(.some 8), (.move (.t 0)), .none, []⟩, ⟨(.some 9), (.move (.t 1)), .none, []⟩, ⟨(.some 10), (.move (.t 0)), .none, []⟩, ⟨(.some 11), (.len .slice (.t 10)), .none, []⟩, ⟨(.some 12), (.bin .rem (.t 9) (.t 11)), .none, []⟩, ⟨(.some 13), (.indexAddrS 1 (.t 8) (.t 12)), .none, []⟩, ⟨(.some 14), (.load .false 1 (.t 13)), .none, []⟩, ⟨(.some 15), (.convInt .i64 (.t 14)), .none, []⟩, ⟨(.some 4), (.move (.t 15)), .none, []⟩]) .ret))), [(.t 4)], .false, .none⟩
theorem lp62 : LP 62 = some L62 := by kernel_rfl
theorem lw11 : LW 11 = some L11 := lw_of rfl lp11
theorem lw53 : LW 53 = some L53 := lw_of rfl lp53
theorem lw54 : LW 54 = some L54 := lw_of rfl lp54
theorem lw62 : LW 62 = some L62 := lw_of rfl lp62
end Go.Hx

/- Walks of the plain machine: maps. -/
namespace Go.Hx
variable {lp : Nat → Option LFunc} {fl : Nat} {N : HAct → HS → Prop} {a : HAct} {h : Tr HBlk} {nx : Nat} {os : List LOper} {dst : Option Nat} {anc : List Nat}
theorem r_mm (hn : R lp fl os N (a.put dst (.map (some nx))) ⟨h.set nx (some (.map [])), nx + 1⟩) : R lp fl (⟨dst, .makeMap, none, anc⟩ :: os) N a ⟨h, nx⟩ := r_go rfl hn
theorem r_lku {d : ED} {zero kv : HV} {m k : Lo} {r : Nat} {es : List (HV × HV)} {o : Option HV} (hm : a.ev m = .map (some r)) (hk : a.ev k = kv) (hok : keyOk d kv = true) (hg : h.get r = some (.map es)) (hf : findH d kv es = some o) (hn : R lp fl os N (a.put dst (o.getD zero)) ⟨h, nx⟩) : R lp fl (⟨dst, .lookup d zero false m k, none, anc⟩ :: os) N a ⟨h, nx⟩ :=
  r_go (by
    show oLookup d zero false m k a _ = _
    unfold oLookup
    rw [hk, hm]
    simp only [hok, cond_true, hg, hf]
    cases o <;> rfl) hn
theorem r_mup {d : ED} {kv : HV} {m k v : Lo} {vv : HV} {r : Nat} {es es' : List (HV × HV)} (hm : a.ev m = .map (some r)) (hk : a.ev k = kv) (hv : a.ev v = vv) (hok : keyOk d kv = true) (hg : h.get r = some (.map es)) (hfl : fl ≤ r) (hu : updH d kv vv es = some es') (hn : R lp fl os N (a.put dst .undef) ⟨h.set r (some (.map es')), nx⟩) : R lp fl (⟨dst, .mapUpdate d m k v, none, anc⟩ :: os) N a ⟨h, nx⟩ :=
  r_go (by
    show oMapUpdate fl d m k v a _ = _
    unfold oMapUpdate
    rw [hk, hm, hv]
    simp only [hok, cond_true, hg, ble_t' hfl, hu]
    rfl) hn
theorem r_rem {x y : Lo} {m n : Int} {σ : HS} (hx : a.ev x = i64 m) (hy : a.ev y = i64 n) (h0 : 0 ≤ m) (h1 : 0 < n) (hn : R lp fl os N (a.put dst (i64 (m % n))) σ) : R lp fl (⟨dst, .bin .rem x y, none, anc⟩ :: os) N a σ :=
  r_go (by
    show keep σ (binH .rem _ _) = _
    rw [hx, hy]
    simp only [binH, i64, isShift, cond_false, sameK, cond_true, intFast, intArith, if_neg (show n ≠ 0 by omega)]
    rw [Int.tmod_eq_emod_of_nonneg h0]; rfl) hn
theorem r_quop {x y : Lo} {m n : Int} {σ : HS} (hx : a.ev x = i64 m) (hy : a.ev y = i64 n) (h0 : 0 ≤ m) (hb : m < 9223372036854775808) (h1 : 0 < n) (hn : R lp fl os N (a.put dst (i64 (m / n))) σ) : R lp fl (⟨dst, .bin .quo x y, none, anc⟩ :: os) N a σ :=
  r_go (by
    show keep σ (binH .quo _ _) = _
    rw [hx, hy]
    simp only [binH, i64, isShift, cond_false, sameK, cond_true, intFast, intArith, if_neg (show n ≠ 0 by omega)]
    have e := Int.tdiv_eq_ediv_of_nonneg (b := n) h0
    have d1 : 0 ≤ m / n := Int.ediv_nonneg h0 (by omega)
    have d2 : m / n ≤ m := Int.ediv_le_self n h0
    rw [e, wrap_small _ (by omega) (by omega)]; rfl) hn
theorem r_conv {x : Lo} {k : IntKind} {m : Int} {σ : HS} (hx : a.ev x = .int k m) (h1 : -9223372036854775808 ≤ m) (h2 : m < 9223372036854775808) (hn : R lp fl os N (a.put dst (i64 m)) σ) : R lp fl (⟨dst, .convInt .i64 x, none, anc⟩ :: os) N a σ :=
  r_go (by show oConvInt .i64 x a σ = _; unfold oConvInt; rw [hx]; simp only [wrap_small _ h1 h2]) hn
end Go.Hx

namespace Go.Hx
set_option linter.unusedSimpArgs false
set_option linter.unusedVariables false
set_option maxRecDepth 20000
set_option maxHeartbeats 4000000
attribute [local irreducible] W R C thenH inBlockH
/-- A word as a cell. -/
def wenc (n : Int) : List HV := [.int .u16 n]
/-- One of some words. -/
def wordAt (l : List Int) (k : Nat) : Int := l.getD (k % l.length) 0
def Words (l : List Int) : Prop := l.length < 9223372036854775808 ∧ ∀ x ∈ l, 0 ≤ x ∧ x < 65536
theorem wordAt_bd {l : List Int} (hw : Words l) (k : Nat) : 0 ≤ wordAt l k ∧ wordAt l k < 65536 := by
  unfold wordAt
  rw [List.getD_eq_getElem?_getD]
  cases e : l[k % l.length]? with
  | none => simp
  | some x => exact hw.2 x (List.mem_of_getElem? e)
/- 62 -/
theorem c_word {fl : Nat} {h : Tr HBlk} {nx : Nat} {p : Option (Nat × Nat)} {l : List Int} {n cp k : Nat} (hn : n = l.length) (hw : Words l) (hrow : Row wenc 1 h nx p l) :
    C LW fl 62 [.slice p n cp, i64 k] ⟨h, nx⟩ (Sc (· = i64 (wordAt l k)) ⟨h, nx⟩) := by
  subst hn
  have hlen := hw.1
  refine c_in lw62 rfl rfl rfl ?_
  dsimp only [L62]
  cases hl : l with
  | nil =>
    repeat' first
     | refine r_nil ?_
     | refine th_n ?_
     | refine th_r ?_
     | refine w_seq ?_
     | refine w_reg ?_
     | refine w_ret ?_
     | refine w_skip ?_
     | refine w_t (by simp (disch:=first|decide|(simp only[zF,zG];decide)) only [zA,zB,zC,zD,zE,zF,zG,zH,zI,zJ,zK,HV.cells]; first|done|exact rfl) ?_
     | refine w_f (by simp (disch:=first|decide|(simp only[zF,zG];decide)) only [zA,zB,zC,zD,zE,zF,zG,zH,zI,zJ,zK,HV.cells]; first|done|exact rfl) ?_
     | refine r_move (by simp (disch:=first|decide|(simp only[zF,zG];decide)) only [zA,zB,zC,zD,zE,zF,zG,zH,zI,zJ,zK,HV.cells]; try exact rfl) ?_
     | refine r_eq (by simp (disch:=first|decide|(simp only[zF,zG];decide)) only [zA,zB,zC,zD,zE,zF,zG,zH,zI,zJ,zK,HV.cells]; try exact rfl) (by simp (disch:=first|decide|(simp only[zF,zG];decide)) only [zA,zB,zC,zD,zE,zF,zG,zH,zI,zJ,zK,HV.cells]; try exact rfl) (fun hc => ?_) (fun hc => ?_) <;> (try (exfalso; omega))
     | refine r_len (by simp (disch:=first|decide|(simp only[zF,zG];decide)) only [zA,zB,zC,zD,zE,zF,zG,zH,zI,zJ,zK,HV.cells]; try exact rfl) ?_
     | refine r_rem (by simp (disch:=first|decide|(simp only[zF,zG];decide)) only [zA,zB,zC,zD,zE,zF,zG,zH,zI,zJ,zK,HV.cells]; try exact rfl) (by simp (disch:=first|decide|(simp only[zF,zG];decide)) only [zA,zB,zC,zD,zE,zF,zG,zH,zI,zJ,zK,HV.cells]; try exact rfl) (by omega) (by omega) ?_
     | fail
    · refine fin_r (by simp only [zL,zM]) (by simp (disch:=first|decide|(simp only[zF,zG];decide)) only [zA,zB,zC,zD,zE,zF,zG,zH,zI,zJ,zK,HV.cells]; try exact rfl) (sc_flat rfl (by dsimp only; omega) ?_)
      rfl
    · exact absurd rfl hc
  | cons x0 l0 =>
    rw [← hl]
    have hpos : 0 < l.length := by rw [hl]; simp
    have hk : k % l.length < l.length := Nat.mod_lt _ hpos
    obtain ⟨b, o, cs, bk, rfl, hb, hg, hcs⟩ := hrow (by rw [hl]; simp)
    have hy : l[k % l.length]? = some l[k % l.length] := by simp [hk]
    have e0 := take_at (hcs _ _ hy) (j := 0) (v := HV.int .u16 l[k % l.length]) rfl
    have ej : (k : Int) % (l.length : Int) = ((k % l.length : Nat) : Int) := rfl
    have bd := hw.2 _ (List.mem_of_getElem? hy)
    have ew : wordAt l k = l[k % l.length] := by unfold wordAt; rw [List.getD_eq_getElem?_getD, hy]; rfl
    repeat' first
     | refine r_nil ?_
     | refine th_n ?_
     | refine w_seq ?_
     | refine w_reg ?_
     | refine w_ret ?_
     | refine w_skip ?_
     | refine w_f (by simp (disch:=first|decide|(simp only[zF,zG,ej];decide)) only [zA,zB,zC,zD,zE,zF,zG,zH,zI,zJ,zK,HV.cells,ej]; first|done|exact rfl) ?_
     | refine r_move (by simp (disch:=first|decide|(simp only[zF,zG,ej];decide)) only [zA,zB,zC,zD,zE,zF,zG,zH,zI,zJ,zK,HV.cells,ej]; try exact rfl) ?_
     | refine r_ld1 (by simp (disch:=first|decide|(simp only[zF,zG,ej];decide)) only [zA,zB,zC,zD,zE,zF,zG,zH,zI,zJ,zK,HV.cells,ej]; try exact rfl) (by first|assumption|(simp (disch:=omega) only [get_same,get_other,ej]; first|done|exact rfl)) (by first|assumption|rfl|(simp only [zI,zJ,HV.cells,ej]; exact rfl)) ?_
     | refine r_eq (by simp (disch:=first|decide|(simp only[zF,zG,ej];decide)) only [zA,zB,zC,zD,zE,zF,zG,zH,zI,zJ,zK,HV.cells,ej]; try exact rfl) (by simp (disch:=first|decide|(simp only[zF,zG,ej];decide)) only [zA,zB,zC,zD,zE,zF,zG,zH,zI,zJ,zK,HV.cells,ej]; try exact rfl) (fun hc => ?_) (fun hc => ?_) <;> (try (exfalso; omega))
     | refine r_len (by simp (disch:=first|decide|(simp only[zF,zG,ej];decide)) only [zA,zB,zC,zD,zE,zF,zG,zH,zI,zJ,zK,HV.cells,ej]; try exact rfl) ?_
     | refine r_ixs (by simp (disch:=first|decide|(simp only[zF,zG,ej];decide)) only [zA,zB,zC,zD,zE,zF,zG,zH,zI,zJ,zK,HV.cells,ej]; try exact rfl) (by simp (disch:=first|decide|(simp only[zF,zG,ej];decide)) only [zA,zB,zC,zD,zE,zF,zG,zH,zI,zJ,zK,HV.cells,ej]; try exact rfl) (by omega) ?_
     | refine r_rem (by simp (disch:=first|decide|(simp only[zF,zG,ej];decide)) only [zA,zB,zC,zD,zE,zF,zG,zH,zI,zJ,zK,HV.cells,ej]; try exact rfl) (by simp (disch:=first|decide|(simp only[zF,zG,ej];decide)) only [zA,zB,zC,zD,zE,zF,zG,zH,zI,zJ,zK,HV.cells,ej]; try exact rfl) (by omega) (by omega) ?_
     | refine r_conv (by simp (disch:=first|decide|(simp only[zF,zG,ej];decide)) only [zA,zB,zC,zD,zE,zF,zG,zH,zI,zJ,zK,HV.cells,ej]; try exact rfl) (by omega) (by omega) ?_
     | fail
    refine fin_r (by simp only [zL,zM]) (by simp (disch:=first|decide|(simp only[zF,zG];decide)) only [zA,zB,zC,zD,zE,zF,zG,zH,zI,zJ,zK,HV.cells]; try exact rfl) (sc_flat rfl (by dsimp only; omega) ?_)
    rw [ew]
def TrulyOk (t : Tb) (n : Nat) (l : List Int) : Prop := l.length = n ∧ (∀ x ∈ l, t.a ≤ x ∧ x ≤ t.b) ∧ hgt l n = t.t
theorem hgt_snoc (l : List Int) (x : Int) {n : Nat} (hn : n = l.length) : hgt (l ++ [x]) (n + 1) = hgt l n + x := by
  subst hn
  rw [hgt_succ (l ++ [x]) l.length x (by simp)]
  congr 1
  unfold hgt
  simp
theorem Out.less {α : Type} {enc : α → List HV} {sz n0 n1 nx : Nat} {h : Tr HBlk} {v : HV} {l : List α} (o : Out enc sz n0 h nx v l) (hn : n1 ≤ n0) : Out enc sz n1 h nx v l := by
  rcases o with e | ⟨b, h1, h2⟩
  · exact .inl e
  · exact .inr ⟨b, by omega, h2⟩
/- 53 -/
theorem loop53 {fl : Nat} {h0 : Tr HBlk} {n0 tb : Nat} {Q : HExit → HAct → HS → Prop} {p : Option (Nat × Nat)} {w : List Int} {cp n : Nat} {t : Tb} (hcn : t.c = n) (hT : TubeOk t.c t.t t.a t.b) (hw : Words w) (hfl : fl ≤ n0) (htb : tb < n0) (htg : h0.get tb = some (.cells t.cells .exact)) (hrow : Row wenc 1 h0 n0 p w) :
    ∀ (m i : Nat) (a : HAct) (h : Tr HBlk) (nx : Nat) (v : HV) (l : List Int), m + i = n → Ext h0 n0 h nx → Out ienc 1 n0 h nx v l → l.length = i → (∀ x ∈ l, t.a ≤ x ∧ x ≤ t.b) → (m : Int) * t.a ≤ t.t - hgt l i → t.t - hgt l i ≤ (m : Int) * t.b →
      a.nt = 65 → a.defers = [] → a.tmp 1 = .slice p w.length cp → a.tmp 2 = .ptr (some (tb, 0)) → a.tmp 5 = v → a.tmp 6 = i64 (t.t - hgt l i) → a.tmp 7 = i64 i →
      (∀ a' h' n' v' l', Ext h0 n0 h' n' → a'.nt = 65 → a'.defers = [] → a'.tmp 5 = v' → Out ienc 1 n0 h' n' v' l' → TrulyOk t n l' → Q .normal a' ⟨h', n'⟩) → W LW fl none (.loop L53w0) (inBlockH 0 Q) a ⟨h, nx⟩
  | 0, i, a, h, nx, v, l, hm, he, ho, hl, hab, h1l, h2l, hnt, hds, h1, h2, h5, h6, h7, hq => by
    have hd := he.d
    have hle := he.le
    have hg : h.get tb = some (.cells t.cells .exact) := by rw [he.same _ htb]; exact htg
    have ec : t.cells[0 + 0]? = some (i64 t.c) := rfl
    refine w_it (show L53w0 = _ by unfold L53w0; exact rfl) ?_
    repeat' first
     | refine r_nil ?_
     | refine th_n ?_
     | refine th_e ?_
     | refine ib_e ?_
     | refine w_exit ?_
     | refine w_seq ?_
     | refine w_reg ?_
     | refine w_f (by simp (disch:=first|decide|(simp only[zF,zG,hnt, h1, h2, h5, h6, h7, hcn];decide)) only [zA,zB,zC,zD,zE,zF,zG,zH,zI,zJ,zK,HV.cells,hnt, h1, h2, h5, h6, h7, hcn]; first|done|exact rfl) ?_
     | refine r_move (by simp (disch:=first|decide|(simp only[zF,zG,hnt, h1, h2, h5, h6, h7, hcn];decide)) only [zA,zB,zC,zD,zE,zF,zG,zH,zI,zJ,zK,HV.cells,hnt, h1, h2, h5, h6, h7, hcn]; try exact rfl) ?_
     | refine r_fa (by simp (disch:=first|decide|(simp only[zF,zG,hnt, h1, h2, h5, h6, h7, hcn];decide)) only [zA,zB,zC,zD,zE,zF,zG,zH,zI,zJ,zK,HV.cells,hnt, h1, h2, h5, h6, h7, hcn]; try exact rfl) ?_
     | refine r_ld1 (by simp (disch:=first|decide|(simp only[zF,zG,hnt, h1, h2, h5, h6, h7, hcn];decide)) only [zA,zB,zC,zD,zE,zF,zG,zH,zI,zJ,zK,HV.cells,hnt, h1, h2, h5, h6, h7, hcn]; try exact rfl) (by first|assumption|(simp (disch:=omega) only [get_same,get_other,hnt, h1, h2, h5, h6, h7, hcn]; first|done|exact rfl)) (by first|assumption|rfl|(simp only [zI,zJ,HV.cells,hnt, h1, h2, h5, h6, h7, hcn]; exact rfl)) ?_
     | refine r_lss (by simp (disch:=first|decide|(simp only[zF,zG,hnt, h1, h2, h5, h6, h7, hcn];decide)) only [zA,zB,zC,zD,zE,zF,zG,zH,zI,zJ,zK,HV.cells,hnt, h1, h2, h5, h6, h7, hcn]; try exact rfl) (by simp (disch:=first|decide|(simp only[zF,zG,hnt, h1, h2, h5, h6, h7, hcn];decide)) only [zA,zB,zC,zD,zE,zF,zG,zH,zI,zJ,zK,HV.cells,hnt, h1, h2, h5, h6, h7, hcn]; try exact rfl) (fun hc => ?_) (fun hc => ?_) <;> (try (exfalso; omega))
     | fail
    refine hq _ _ _ v l he ?_ ?_ ?_ ho ⟨by omega, hab, ?_⟩
    all_goals first | (rw [show n = i by omega]; omega) | first|(simp only [zL,zM,zF,zG,hnt, hds, h5];done)|(simp (disch:=first|decide|(simp only[zF,zG,hnt, hds, h5];decide)) only [zA,zB,zC,zD,zE,zF,zG,zH,zI,zJ,zK,HV.cells,hnt, hds, h5];first|done|exact rfl)|assumption
  | m + 1, i, a, h, nx, v, l, hm, he, ho, hl, hab, h1l, h2l, hnt, hds, h1, h2, h5, h6, h7, hq => by
    have hd := he.d
    have hle := he.le
    have hg : h.get tb = some (.cells t.cells .exact) := by rw [he.same _ htb]; exact htg
    have ec : t.cells[0 + 0]? = some (i64 t.c) := rfl
    have ea : t.cells[0 + 2 + 0]? = some (i64 t.a) := rfl
    have eb : t.cells[0 + 2 + 1]? = some (i64 t.b) := rfl
    have hTo := hT
    unfold TubeOk at hTo
    have x1 : ((m + 1 : Nat) : Int) * t.a = m * t.a + t.a := by rw [Int.natCast_add, Int.add_mul]; omega
    have x2 : ((m + 1 : Nat) : Int) * t.b = m * t.b + t.b := by rw [Int.natCast_add, Int.add_mul]; omega
    rw [x1] at h1l
    rw [x2] at h2l
    have q1 := Int.mul_nonneg (show (0 : Int) ≤ m by omega) (show 0 ≤ t.a by omega)
    have q2 := Int.mul_le_mul_of_nonneg_left (show t.a ≤ t.b by omega) (show (0 : Int) ≤ m by omega)
    have q3 := Int.mul_le_mul_of_nonneg_left (show t.b ≤ 200 by omega) (show (0 : Int) ≤ m by omega)
    have hR : t.c - 1 - (i : Int) = m := by omega
    have hR2 : (n : Int) - 1 - (i : Int) = m := by omega
    obtain ⟨lf, hlf⟩ : ∃ x, x = t.t - hgt l i := ⟨_, rfl⟩
    rw [← hlf] at h1l h2l h6
    obtain ⟨lo, hlo⟩ : ∃ x, x = max t.a (lf - m * t.b) := ⟨_, rfl⟩
    obtain ⟨hi, hhi⟩ : ∃ x, x = min t.b (lf - m * t.a) := ⟨_, rfl⟩
    have b1 := wordAt_bd hw i
    have hdd : 0 < hi - lo + 1 := by omega
    have b2 := Int.emod_nonneg (wordAt w i) (show hi - lo + 1 ≠ 0 by omega)
    have b3 := Int.emod_lt_of_pos (wordAt w i) hdd
    obtain ⟨x, hx⟩ : ∃ x, x = lo + wordAt w i % (hi - lo + 1) := ⟨_, rfl⟩
    have fr : fillH (repl 1 [i64 0]) [(0, 1, i64 x)] = some (ienc x) := rfl
    have cw : ∀ fl h' n', Ext h nx h' n' → C LW fl 62 [.slice p w.length cp, i64 i] ⟨h', n'⟩ (Sc (· = i64 (wordAt w i)) ⟨h', n'⟩) := fun fl h' n' e => c_word rfl hw (hrow.ext (he.trans e))
    refine w_it (show L53w0 = _ by unfold L53w0; exact rfl) ?_
    repeat' first
     | refine r_nil ?_
     | refine th_n ?_
     | refine w_seq ?_
     | refine w_reg ?_
     | refine w_skip ?_
     | refine w_block ?_
     | refine w_t (by simp (disch:=first|decide|(simp only[zF,zG,hnt, h1, h2, h5, h6, h7, hcn, hR2, ← hlo, ← hhi, ← hx, fr];decide)) only [zA,zB,zC,zD,zE,zF,zG,zH,zI,zJ,zK,HV.cells,hnt, h1, h2, h5, h6, h7, hcn, hR2, ← hlo, ← hhi, ← hx, fr]; first|done|exact rfl) ?_
     | refine r_move (by simp (disch:=first|decide|(simp only[zF,zG,hnt, h1, h2, h5, h6, h7, hcn, hR2, ← hlo, ← hhi, ← hx, fr];decide)) only [zA,zB,zC,zD,zE,zF,zG,zH,zI,zJ,zK,HV.cells,hnt, h1, h2, h5, h6, h7, hcn, hR2, ← hlo, ← hhi, ← hx, fr]; try exact rfl) ?_
     | refine r_fa (by simp (disch:=first|decide|(simp only[zF,zG,hnt, h1, h2, h5, h6, h7, hcn, hR2, ← hlo, ← hhi, ← hx, fr];decide)) only [zA,zB,zC,zD,zE,zF,zG,zH,zI,zJ,zK,HV.cells,hnt, h1, h2, h5, h6, h7, hcn, hR2, ← hlo, ← hhi, ← hx, fr]; try exact rfl) ?_
     | refine r_ld1 (by simp (disch:=first|decide|(simp only[zF,zG,hnt, h1, h2, h5, h6, h7, hcn, hR2, ← hlo, ← hhi, ← hx, fr];decide)) only [zA,zB,zC,zD,zE,zF,zG,zH,zI,zJ,zK,HV.cells,hnt, h1, h2, h5, h6, h7, hcn, hR2, ← hlo, ← hhi, ← hx, fr]; try exact rfl) (by first|assumption|(simp (disch:=omega) only [get_same,get_other,hnt, h1, h2, h5, h6, h7, hcn, hR2, ← hlo, ← hhi, ← hx, fr]; first|done|exact rfl)) (by first|assumption|rfl|(simp only [zI,zJ,HV.cells,hnt, h1, h2, h5, h6, h7, hcn, hR2, ← hlo, ← hhi, ← hx, fr]; exact rfl)) ?_
     | refine r_add (by simp (disch:=first|decide|(simp only[zF,zG,hnt, h1, h2, h5, h6, h7, hcn, hR2, ← hlo, ← hhi, ← hx, fr];decide)) only [zA,zB,zC,zD,zE,zF,zG,zH,zI,zJ,zK,HV.cells,hnt, h1, h2, h5, h6, h7, hcn, hR2, ← hlo, ← hhi, ← hx, fr]; try exact rfl) (by simp (disch:=first|decide|(simp only[zF,zG,hnt, h1, h2, h5, h6, h7, hcn, hR2, ← hlo, ← hhi, ← hx, fr];decide)) only [zA,zB,zC,zD,zE,zF,zG,zH,zI,zJ,zK,HV.cells,hnt, h1, h2, h5, h6, h7, hcn, hR2, ← hlo, ← hhi, ← hx, fr]; try exact rfl) (by omega) (by omega) ?_
     | refine r_sub (by simp (disch:=first|decide|(simp only[zF,zG,hnt, h1, h2, h5, h6, h7, hcn, hR2, ← hlo, ← hhi, ← hx, fr];decide)) only [zA,zB,zC,zD,zE,zF,zG,zH,zI,zJ,zK,HV.cells,hnt, h1, h2, h5, h6, h7, hcn, hR2, ← hlo, ← hhi, ← hx, fr]; try exact rfl) (by simp (disch:=first|decide|(simp only[zF,zG,hnt, h1, h2, h5, h6, h7, hcn, hR2, ← hlo, ← hhi, ← hx, fr];decide)) only [zA,zB,zC,zD,zE,zF,zG,zH,zI,zJ,zK,HV.cells,hnt, h1, h2, h5, h6, h7, hcn, hR2, ← hlo, ← hhi, ← hx, fr]; try exact rfl) (by omega) (by omega) ?_
     | refine r_mul (by simp (disch:=first|decide|(simp only[zF,zG,hnt, h1, h2, h5, h6, h7, hcn, hR2, ← hlo, ← hhi, ← hx, fr];decide)) only [zA,zB,zC,zD,zE,zF,zG,zH,zI,zJ,zK,HV.cells,hnt, h1, h2, h5, h6, h7, hcn, hR2, ← hlo, ← hhi, ← hx, fr]; try exact rfl) (by simp (disch:=first|decide|(simp only[zF,zG,hnt, h1, h2, h5, h6, h7, hcn, hR2, ← hlo, ← hhi, ← hx, fr];decide)) only [zA,zB,zC,zD,zE,zF,zG,zH,zI,zJ,zK,HV.cells,hnt, h1, h2, h5, h6, h7, hcn, hR2, ← hlo, ← hhi, ← hx, fr]; try exact rfl) (by omega) (by omega) ?_
     | refine r_max2 (by simp (disch:=first|decide|(simp only[zF,zG,hnt, h1, h2, h5, h6, h7, hcn, hR2, ← hlo, ← hhi, ← hx, fr];decide)) only [zA,zB,zC,zD,zE,zF,zG,zH,zI,zJ,zK,HV.cells,hnt, h1, h2, h5, h6, h7, hcn, hR2, ← hlo, ← hhi, ← hx, fr]; try exact rfl) (by simp (disch:=first|decide|(simp only[zF,zG,hnt, h1, h2, h5, h6, h7, hcn, hR2, ← hlo, ← hhi, ← hx, fr];decide)) only [zA,zB,zC,zD,zE,zF,zG,zH,zI,zJ,zK,HV.cells,hnt, h1, h2, h5, h6, h7, hcn, hR2, ← hlo, ← hhi, ← hx, fr]; try exact rfl) ?_
     | refine r_min2 (by simp (disch:=first|decide|(simp only[zF,zG,hnt, h1, h2, h5, h6, h7, hcn, hR2, ← hlo, ← hhi, ← hx, fr];decide)) only [zA,zB,zC,zD,zE,zF,zG,zH,zI,zJ,zK,HV.cells,hnt, h1, h2, h5, h6, h7, hcn, hR2, ← hlo, ← hhi, ← hx, fr]; try exact rfl) (by simp (disch:=first|decide|(simp only[zF,zG,hnt, h1, h2, h5, h6, h7, hcn, hR2, ← hlo, ← hhi, ← hx, fr];decide)) only [zA,zB,zC,zD,zE,zF,zG,zH,zI,zJ,zK,HV.cells,hnt, h1, h2, h5, h6, h7, hcn, hR2, ← hlo, ← hhi, ← hx, fr]; try exact rfl) ?_
     | refine r_lss (by simp (disch:=first|decide|(simp only[zF,zG,hnt, h1, h2, h5, h6, h7, hcn, hR2, ← hlo, ← hhi, ← hx, fr];decide)) only [zA,zB,zC,zD,zE,zF,zG,zH,zI,zJ,zK,HV.cells,hnt, h1, h2, h5, h6, h7, hcn, hR2, ← hlo, ← hhi, ← hx, fr]; try exact rfl) (by simp (disch:=first|decide|(simp only[zF,zG,hnt, h1, h2, h5, h6, h7, hcn, hR2, ← hlo, ← hhi, ← hx, fr];decide)) only [zA,zB,zC,zD,zE,zF,zG,zH,zI,zJ,zK,HV.cells,hnt, h1, h2, h5, h6, h7, hcn, hR2, ← hlo, ← hhi, ← hx, fr]; try exact rfl) (fun hc => ?_) (fun hc => ?_) <;> (try (exfalso; omega))
     | refine r_bs (by simp (disch:=first|decide|(simp only[zF,zG,hnt, h1, h2, h5, h6, h7, hcn, hR2, ← hlo, ← hhi, ← hx, fr];decide)) only [evParts,List.map_cons,List.map_nil,List.nil_append,List.cons_append,List.append_nil,zA,zB,zC,zD,zE,zF,zG,zH,zI,zJ,zK,HV.cells,hnt, h1, h2, h5, h6, h7, hcn, hR2, ← hlo, ← hhi, ← hx, fr]; try exact rfl) ?_
     | refine r_rem (by simp (disch:=first|decide|(simp only[zF,zG,hnt, h1, h2, h5, h6, h7, hcn, hR2, ← hlo, ← hhi, ← hx, fr];decide)) only [zA,zB,zC,zD,zE,zF,zG,zH,zI,zJ,zK,HV.cells,hnt, h1, h2, h5, h6, h7, hcn, hR2, ← hlo, ← hhi, ← hx, fr]; try exact rfl) (by simp (disch:=first|decide|(simp only[zF,zG,hnt, h1, h2, h5, h6, h7, hcn, hR2, ← hlo, ← hhi, ← hx, fr];decide)) only [zA,zB,zC,zD,zE,zF,zG,zH,zI,zJ,zK,HV.cells,hnt, h1, h2, h5, h6, h7, hcn, hR2, ← hlo, ← hhi, ← hx, fr]; try exact rfl) (by omega) (by omega) ?_
     | refine r_calls (by simp (disch:=first|decide|(simp only[zF,zG,hnt, h1, h2, h5, h6, h7, hcn, hR2, ← hlo, ← hhi, ← hx, fr];decide)) only [zA,zB,zC,zD,zE,zF,zG,zH,zI,zJ,zK,HV.cells,hnt, h1, h2, h5, h6, h7, hcn, hR2, ← hlo, ← hhi, ← hx, fr]; try exact rfl) (by simp (disch:=first|decide|(simp only[zF,zG,hnt, h1, h2, h5, h6, h7, hcn, hR2, ← hlo, ← hhi, ← hx, fr];decide)) only [List.map_cons,List.map_nil,List.nil_append,List.cons_append,List.append_nil,zA,zB,zC,zD,zE,zF,zG,zH,zI,zJ,zK,HV.cells,hnt, h1, h2, h5, h6, h7, hcn, hR2, ← hlo, ← hhi, ← hx, fr]; try exact rfl) (cw _ _ _ (by repeat' first|assumption|refine Ext.put ?_ (by omega) (by omega)|exact Ext.up (by assumption) (by omega)|exact Ext.nx (by assumption) (by omega))) (fun n' hn' => ?_)
     | refine w_draw (by omega) (by repeat' first|assumption|refine D.upd ?_ (by omega)|exact D.mono (by assumption) (by omega)) ?_
     | refine d_rest rfl ?_
     | refine d_one rfl ?_
     | refine d_next (by omega) ?_
     | fail
    case refine_1 =>
      obtain ⟨v', h', ha, ho', hs', hd'⟩ := Out.app (x := x) (bytes := 8) (fl := fl) ienc_len (ienc_one _) (by omega) hfl (hd.mono hn') (ho.keep hn' (fun _ _ => rfl)) (by omega) (by omega) (by omega)
      refine r_app (by simp (disch:=first|decide|(simp only[zF,zG,hnt, h5];decide)) only [zA,zB,zC,zD,zE,zF,zG,zH,zI,zJ,zK,HV.cells,hnt, h5]; try exact rfl) (by simp (disch:=first|decide|(simp only[zF,zG,hnt];decide)) only [zA,zB,zC,zD,zE,zF,zG,zH,zI,zJ,zK,HV.cells,hnt]; try exact rfl) ha ?_
      repeat' first
       | refine r_nil ?_
       | refine th_n ?_
       | refine ib_n ?_
       | refine w_reg ?_
       | refine r_move (by simp (disch:=first|decide|(simp only[zF,zG,hnt, h1, h2, h6, h7, ← hx];decide)) only [zA,zB,zC,zD,zE,zF,zG,zH,zI,zJ,zK,HV.cells,hnt, h1, h2, h6, h7, ← hx]; try exact rfl) ?_
       | refine r_add (by simp (disch:=first|decide|(simp only[zF,zG,hnt, h1, h2, h6, h7, ← hx];decide)) only [zA,zB,zC,zD,zE,zF,zG,zH,zI,zJ,zK,HV.cells,hnt, h1, h2, h6, h7, ← hx]; try exact rfl) (by simp (disch:=first|decide|(simp only[zF,zG,hnt, h1, h2, h6, h7, ← hx];decide)) only [zA,zB,zC,zD,zE,zF,zG,zH,zI,zJ,zK,HV.cells,hnt, h1, h2, h6, h7, ← hx]; try exact rfl) (by omega) (by omega) ?_
       | refine r_sub (by simp (disch:=first|decide|(simp only[zF,zG,hnt, h1, h2, h6, h7, ← hx];decide)) only [zA,zB,zC,zD,zE,zF,zG,zH,zI,zJ,zK,HV.cells,hnt, h1, h2, h6, h7, ← hx]; try exact rfl) (by simp (disch:=first|decide|(simp only[zF,zG,hnt, h1, h2, h6, h7, ← hx];decide)) only [zA,zB,zC,zD,zE,zF,zG,zH,zI,zJ,zK,HV.cells,hnt, h1, h2, h6, h7, ← hx]; try exact rfl) (by omega) (by omega) ?_
       | fail
      have e2 : Ext h0 n0 h' (n' + 2) := ⟨by omega, hd', fun b hb => (hs' b hb).trans (he.same b hb)⟩
      have hs2 := hgt_snoc l x hl.symm
      have e3 : lf - x = t.t - hgt (l ++ [x]) (i + 1) := by rw [hs2]; omega
      refine loop53 (cp := cp) hcn hT hw hfl htb htg hrow m (i + 1) _ _ _ v' (l ++ [x]) (by omega) e2 ho' (by simp; omega) (fun y hy => ?_) (by rw [← e3]; omega) (by rw [← e3]; omega) ?_ ?_ ?_ ?_ ?_ (by rw [← e3]; first|(simp only [zL,zM,zF,zG,hnt, hds, h1, h2, h6, h7];done)|(simp (disch:=first|decide|(simp only[zF,zG,hnt, hds, h1, h2, h6, h7];decide)) only [zA,zB,zC,zD,zE,zF,zG,zH,zI,zJ,zK,HV.cells,hnt, hds, h1, h2, h6, h7];first|done|exact rfl)|assumption) ?_ hq
      · rcases List.mem_append.1 hy with e | e
        · exact hab y e
        · rw [List.mem_singleton.1 e]; omega
      all_goals first|(simp only [zL,zM,zF,zG,hnt, hds, h1, h2, h7];done)|(simp (disch:=first|decide|(simp only[zF,zG,hnt, hds, h1, h2, h7];decide)) only [zA,zB,zC,zD,zE,zF,zG,zH,zI,zJ,zK,HV.cells,hnt, hds, h1, h2, h7];first|done|exact rfl)|assumption
theorem c_Truly {fl : Nat} {h : Tr HBlk} {nx : Nat} (hd : D h nx) {p : Option (Nat × Nat)} {w : List Int} {k cp n : Nat} {t : Tb} (hcn : t.c = n) (hT : TubeOk t.c t.t t.a t.b) (hk : k = w.length) (hw : Words w) (hrow : Row wenc 1 h nx p w) :
    C LW fl 53 [.agg t.cells, .slice p k cp] ⟨h, nx⟩ (fun v σ' => ∃ l, TrulyOk t n l ∧ ScL ienc 1 l ⟨h, nx⟩ v σ') := by
  subst hk
  have hTo := hT
  unfold TubeOk at hTo
  refine c_in lw53 rfl rfl rfl ?_
  dsimp only [L53]
  repeat' first
   | refine r_nil ?_
   | refine th_n ?_
   | refine w_seq ?_
   | refine w_reg ?_
   | refine w_block ?_
   | refine r_move (by simp (disch:=first|decide|(simp only[zF,zG];decide)) only [zA,zB,zC,zD,zE,zF,zG,zH,zI,zJ,zK,HV.cells]; try exact rfl) ?_
   | refine r_fa (by simp (disch:=first|decide|(simp only[zF,zG];decide)) only [zA,zB,zC,zD,zE,zF,zG,zH,zI,zJ,zK,HV.cells]; try exact rfl) ?_
   | refine r_ld1 (by simp (disch:=first|decide|(simp only[zF,zG];decide)) only [zA,zB,zC,zD,zE,zF,zG,zH,zI,zJ,zK,HV.cells]; try exact rfl) (by first|assumption|(simp (disch:=omega) only [get_same,get_other]; first|done|exact rfl)) (by first|assumption|rfl|(simp only [zI,zJ,HV.cells]; exact rfl)) ?_
   | refine r_box (by simp (disch:=first|decide|(simp only[zF,zG];decide)) only [zA,zB,zC,zD,zE,zF,zG,zH,zI,zJ,zK,HV.cells]; try exact rfl) ?_
   | fail
  refine loop53 (n0 := nx + 1) (tb := nx) (cp := cp) (n := n) (t := t) hcn hT hw (by omega) (by omega) (by first|assumption|(simp (disch:=omega) only [get_same,get_other]; first|done|exact rfl)) (hrow.ext (by repeat' first|assumption|refine Ext.put ?_ (by omega) (by omega)|exact Ext.up (by assumption) (by omega)|exact Ext.nx (by assumption) (by omega))) n 0 _ _ _ (.slice none 0 0) [] (by omega) (Ext.refl (by repeat' first|assumption|refine D.upd ?_ (by omega)|exact D.mono (by assumption) (by omega))) Out.nil rfl (by simp) (by rw [hgt_zero, ← hcn]; omega) (by rw [hgt_zero, ← hcn]; omega) ?_ ?_ ?_ ?_ ?_ (by rw [hgt_zero, Int.sub_zero]; first|(simp only [zL,zM,zF,zG];done)|(simp (disch:=first|decide|(simp only[zF,zG];decide)) only [zA,zB,zC,zD,zE,zF,zG,zH,zI,zJ,zK,HV.cells];first|done|exact rfl)|assumption) ?_ (fun a' h' n' v' l' e1 g1 g2 g3 g4 g5 => ?_)
  all_goals try first|(simp only [zL,zM,zF,zG];done)|(simp (disch:=first|decide|(simp only[zF,zG];decide)) only [zA,zB,zC,zD,zE,zF,zG,zH,zI,zJ,zK,HV.cells];first|done|exact rfl)|assumption
  have hle := e1.le
  repeat' first
   | refine r_nil ?_
   | refine th_n ?_
   | refine w_seq ?_
   | refine w_reg ?_
   | refine w_ret ?_
   | refine r_move (by simp (disch:=first|decide|(simp only[zF,zG,g1, g3];decide)) only [zA,zB,zC,zD,zE,zF,zG,zH,zI,zJ,zK,HV.cells,g1, g3]; try exact rfl) ?_
   | fail
  refine fin_r (by simp only [zL, g2]) (by simp (disch:=first|decide|(simp only[zF,zG,g1, g3];decide)) only [zA,zB,zC,zD,zE,zF,zG,zH,zI,zJ,zK,HV.cells,g1, g3]; try exact rfl) ⟨l', g5, scl_out ienc_len ienc_flat hd (by omega) (g4.less (by omega))⟩
end Go.Hx

namespace Go.Hx
set_option linter.unusedSimpArgs false
set_option linter.unusedVariables false
set_option maxRecDepth 20000
set_option maxHeartbeats 4000000
attribute [local irreducible] W R C thenH inBlockH
theorem hgt_mono {v : List Int} (hv : ∀ x ∈ v, 0 ≤ x) : ∀ (j i : Nat), i + j ≤ v.length → hgt v i ≤ hgt v (i + j)
  | 0, i, _ => Int.le_refl _
  | j + 1, i, h => by
    have h1 := hgt_mono hv j i (by omega)
    have hy : v[i + j]? = some v[i + j] := List.getElem?_eq_getElem (by omega)
    have h2 := hgt_succ v (i + j) _ hy
    have h3 := hv _ (List.mem_of_getElem? hy)
    rw [show i + (j + 1) = i + j + 1 by omega, h2]
    omega
theorem hgt_in {t : Tb} {n : Nat} {v : List Int} (hT : TubeOk t.c t.t t.a t.b) (hv : TrulyOk t n v) {k : Nat} (hk : k ≤ n) : 0 ≤ hgt v k ∧ hgt v k ≤ t.t := by
  unfold TubeOk at hT
  obtain ⟨h1, h2, h3⟩ := hv
  have p : ∀ x ∈ v, 0 ≤ x := fun x hx => by have := h2 x hx; omega
  have a := hgt_mono p k 0 (by omega)
  have b := hgt_mono p (n - k) k (by omega)
  rw [Nat.zero_add, hgt_zero] at a
  rw [show k + (n - k) = n by omega, h3] at b
  exact ⟨a, b⟩
/- 54 -/
theorem loop54w0 {fl : Nat} {h : Tr HBlk} {tb : Nat} {Q : HExit → HAct → HS → Prop} {p : Option (Nat × Nat)} {v : List Int} {cp n f : Nat} {th w8 w9 : Int} {t2 t7 : HV} {t : Tb} (hcn : t.c = n) (hT : TubeOk t.c t.t t.a t.b) (hv : TrulyOk t n v) (htg : h.get tb = some (.cells t.cells .exact)) (hf : f ≤ n) (hth : 0 ≤ th ∧ th ≤ 100000) :
    ∀ (m i : Nat) (a : HAct) (nx : Nat), m + i = n → f ≤ i → hgt v i - hgt v f ≤ th → fl ≤ nx → D h nx → Row ienc 1 h nx p v → a.nt = 83 → a.defers = [] → a.tmp 1 = .slice p n cp → a.tmp 2 = t2 → a.tmp 3 = .ptr (some (tb, 0)) → a.tmp 7 = t7 → a.tmp 8 = i64 w8 → a.tmp 9 = i64 w9 → a.tmp 10 = i64 f → a.tmp 11 = i64 th → a.tmp 12 = i64 i →
      (∀ a' n' (i' : Nat), nx ≤ n' → a'.nt = 83 → a'.defers = [] → a'.tmp 1 = .slice p n cp → a'.tmp 2 = t2 → a'.tmp 3 = .ptr (some (tb, 0)) → a'.tmp 7 = t7 → a'.tmp 8 = i64 w8 → a'.tmp 9 = i64 w9 → a'.tmp 10 = i64 f → a'.tmp 11 = i64 th → a'.tmp 12 = i64 i' → f ≤ i' → i' ≤ n → hgt v i' - hgt v f ≤ th → (i' < n → th < hgt v (i' + 1) - hgt v f) → Q .normal a' ⟨h, n'⟩) →
      W LW fl none (.loop L54w0) (inBlockH 2 Q) a ⟨h, nx⟩
  | 0, i, a, nx, hm, hfi, hle, hfl, hd, hrow, hnt, hds, h1, h2, h3, h7, h8, h9, h10, h11, h12, hq => by
    have ec : t.cells[0 + 0]? = some (i64 t.c) := rfl
    refine w_it (show L54w0 = _ by unfold L54w0; exact rfl) ?_
    repeat' first
     | refine r_nil ?_
     | refine th_n ?_
     | refine th_e ?_
     | refine ib_e ?_
     | refine w_exit ?_
     | refine w_seq ?_
     | refine w_reg ?_
     | refine w_f (by simp (disch:=first|decide|(simp only[zF,zG,hnt, h1, h3, h10, h11, h12, hcn];decide)) only [zA,zB,zC,zD,zE,zF,zG,zH,zI,zJ,zK,HV.cells,hnt, h1, h3, h10, h11, h12, hcn]; first|done|exact rfl) ?_
     | refine r_drop (by simp (disch:=first|decide|(simp only[zF,zG,Bool.not_true,Bool.not_false,hnt, h1, h3, h10, h11, h12, hcn];decide)) only [zA,zB,zC,zD,zE,zF,zG,zH,zI,zJ,zK,HV.cells,Bool.not_true,Bool.not_false,hnt, h1, h3, h10, h11, h12, hcn]; first|done|exact rfl) ?_
     | refine r_move (by simp (disch:=first|decide|(simp only[zF,zG,hnt, h1, h3, h10, h11, h12, hcn];decide)) only [zA,zB,zC,zD,zE,zF,zG,zH,zI,zJ,zK,HV.cells,hnt, h1, h3, h10, h11, h12, hcn]; try exact rfl) ?_
     | refine r_fa (by simp (disch:=first|decide|(simp only[zF,zG,hnt, h1, h3, h10, h11, h12, hcn];decide)) only [zA,zB,zC,zD,zE,zF,zG,zH,zI,zJ,zK,HV.cells,hnt, h1, h3, h10, h11, h12, hcn]; try exact rfl) ?_
     | refine r_ld1 (by simp (disch:=first|decide|(simp only[zF,zG,hnt, h1, h3, h10, h11, h12, hcn];decide)) only [zA,zB,zC,zD,zE,zF,zG,zH,zI,zJ,zK,HV.cells,hnt, h1, h3, h10, h11, h12, hcn]; try exact rfl) (by first|assumption|(simp (disch:=omega) only [get_same,get_other,hnt, h1, h3, h10, h11, h12, hcn]; first|done|exact rfl)) (by first|assumption|rfl|(simp only [zI,zJ,HV.cells,hnt, h1, h3, h10, h11, h12, hcn]; exact rfl)) ?_
     | refine r_lss (by simp (disch:=first|decide|(simp only[zF,zG,hnt, h1, h3, h10, h11, h12, hcn];decide)) only [zA,zB,zC,zD,zE,zF,zG,zH,zI,zJ,zK,HV.cells,hnt, h1, h3, h10, h11, h12, hcn]; try exact rfl) (by simp (disch:=first|decide|(simp only[zF,zG,hnt, h1, h3, h10, h11, h12, hcn];decide)) only [zA,zB,zC,zD,zE,zF,zG,zH,zI,zJ,zK,HV.cells,hnt, h1, h3, h10, h11, h12, hcn]; try exact rfl) (fun hc => ?_) (fun hc => ?_) <;> (try (exfalso; omega))
     | refine r_pf (by simp (disch:=first|decide|(simp only[zF,zG,hnt, h1, h3, h10, h11, h12, hcn];decide)) only [zA,zB,zC,zD,zE,zF,zG,zH,zI,zJ,zK,HV.cells,hnt, h1, h3, h10, h11, h12, hcn]; first|done|exact rfl) (by simp (disch:=first|decide|(simp only[zF,zG,hnt, h1, h3, h10, h11, h12, hcn];decide)) only [zA,zB,zC,zD,zE,zF,zG,zH,zI,zJ,zK,HV.cells,hnt, h1, h3, h10, h11, h12, hcn]; try exact rfl) ?_
     | fail
    refine hq _ _ i (Nat.le_refl _) ?_ ?_ ?_ ?_ ?_ ?_ ?_ ?_ ?_ ?_ ?_ hfi (by omega) hle (fun e => by omega)
    all_goals first|(simp only [zL,zM,zF,zG,hnt, hds, h1, h2, h3, h7, h8, h9, h10, h11, h12];done)|(simp (disch:=first|decide|(simp only[zF,zG,hnt, hds, h1, h2, h3, h7, h8, h9, h10, h11, h12];decide)) only [zA,zB,zC,zD,zE,zF,zG,zH,zI,zJ,zK,HV.cells,hnt, hds, h1, h2, h3, h7, h8, h9, h10, h11, h12];first|done|exact rfl)|assumption
  | m + 1, i, a, nx, hm, hfi, hle, hfl, hd, hrow, hnt, hds, h1, h2, h3, h7, h8, h9, h10, h11, h12, hq => by
    have hTo := hT
    unfold TubeOk at hTo
    have ec : t.cells[0 + 0]? = some (i64 t.c) := rfl
    have i1 := hgt_in hT hv (show i + 1 ≤ n by omega)
    have i2 := hgt_in hT hv hf
    have hvb : ∀ x ∈ v, -1000000 ≤ x ∧ x ≤ 1000000 := fun x hx => by have := hv.2.1 x hx; omega
    have cH : ∀ (k : Nat) fl n', k ≤ n → nx ≤ n' → C LW fl 38 [.slice p n cp, i64 k] ⟨h, n'⟩ (Sc (· = i64 (hgt v k)) ⟨h, n'⟩) := fun k fl n' hk hn => c_Height hv.1.symm (by rw [hv.1]; exact hk) (by rw [hv.1]; omega) (hrow.ext (Ext.nx hd hn)) hvb
    have ei : (i : Int) + 1 = ((i + 1 : Nat) : Int) := rfl
    refine w_it (show L54w0 = _ by unfold L54w0; exact rfl) ?_
    repeat' first
     | refine r_nil ?_
     | refine th_n ?_
     | refine th_e ?_
     | refine ib_n ?_
     | refine ib_e ?_
     | refine w_exit ?_
     | refine w_seq ?_
     | refine w_reg ?_
     | refine w_skip ?_
     | refine w_block ?_
     | refine w_t (by simp (disch:=first|decide|(simp only[zF,zG,hnt, h1, h3, h10, h11, h12, hcn, ei];decide)) only [zA,zB,zC,zD,zE,zF,zG,zH,zI,zJ,zK,HV.cells,hnt, h1, h3, h10, h11, h12, hcn, ei]; first|done|exact rfl) ?_
     | refine w_f (by simp (disch:=first|decide|(simp only[zF,zG,hnt, h1, h3, h10, h11, h12, hcn, ei];decide)) only [zA,zB,zC,zD,zE,zF,zG,zH,zI,zJ,zK,HV.cells,hnt, h1, h3, h10, h11, h12, hcn, ei]; first|done|exact rfl) ?_
     | refine r_take (by simp (disch:=first|decide|(simp only[zF,zG,hnt, h1, h3, h10, h11, h12, hcn, ei];decide)) only [zA,zB,zC,zD,zE,zF,zG,zH,zI,zJ,zK,HV.cells,hnt, h1, h3, h10, h11, h12, hcn, ei]; first|done|exact rfl) ?_
     | refine r_move (by simp (disch:=first|decide|(simp only[zF,zG,hnt, h1, h3, h10, h11, h12, hcn, ei];decide)) only [zA,zB,zC,zD,zE,zF,zG,zH,zI,zJ,zK,HV.cells,hnt, h1, h3, h10, h11, h12, hcn, ei]; try exact rfl) ?_
     | refine r_fa (by simp (disch:=first|decide|(simp only[zF,zG,hnt, h1, h3, h10, h11, h12, hcn, ei];decide)) only [zA,zB,zC,zD,zE,zF,zG,zH,zI,zJ,zK,HV.cells,hnt, h1, h3, h10, h11, h12, hcn, ei]; try exact rfl) ?_
     | refine r_ld1 (by simp (disch:=first|decide|(simp only[zF,zG,hnt, h1, h3, h10, h11, h12, hcn, ei];decide)) only [zA,zB,zC,zD,zE,zF,zG,zH,zI,zJ,zK,HV.cells,hnt, h1, h3, h10, h11, h12, hcn, ei]; try exact rfl) (by first|assumption|(simp (disch:=omega) only [get_same,get_other,hnt, h1, h3, h10, h11, h12, hcn, ei]; first|done|exact rfl)) (by first|assumption|rfl|(simp only [zI,zJ,HV.cells,hnt, h1, h3, h10, h11, h12, hcn, ei]; exact rfl)) ?_
     | refine r_add (by simp (disch:=first|decide|(simp only[zF,zG,hnt, h1, h3, h10, h11, h12, hcn, ei];decide)) only [zA,zB,zC,zD,zE,zF,zG,zH,zI,zJ,zK,HV.cells,hnt, h1, h3, h10, h11, h12, hcn, ei]; try exact rfl) (by simp (disch:=first|decide|(simp only[zF,zG,hnt, h1, h3, h10, h11, h12, hcn, ei];decide)) only [zA,zB,zC,zD,zE,zF,zG,zH,zI,zJ,zK,HV.cells,hnt, h1, h3, h10, h11, h12, hcn, ei]; try exact rfl) (by omega) (by omega) ?_
     | refine r_sub (by simp (disch:=first|decide|(simp only[zF,zG,hnt, h1, h3, h10, h11, h12, hcn, ei];decide)) only [zA,zB,zC,zD,zE,zF,zG,zH,zI,zJ,zK,HV.cells,hnt, h1, h3, h10, h11, h12, hcn, ei]; try exact rfl) (by simp (disch:=first|decide|(simp only[zF,zG,hnt, h1, h3, h10, h11, h12, hcn, ei];decide)) only [zA,zB,zC,zD,zE,zF,zG,zH,zI,zJ,zK,HV.cells,hnt, h1, h3, h10, h11, h12, hcn, ei]; try exact rfl) (by omega) (by omega) ?_
     | refine r_lss (by simp (disch:=first|decide|(simp only[zF,zG,hnt, h1, h3, h10, h11, h12, hcn, ei];decide)) only [zA,zB,zC,zD,zE,zF,zG,zH,zI,zJ,zK,HV.cells,hnt, h1, h3, h10, h11, h12, hcn, ei]; try exact rfl) (by simp (disch:=first|decide|(simp only[zF,zG,hnt, h1, h3, h10, h11, h12, hcn, ei];decide)) only [zA,zB,zC,zD,zE,zF,zG,zH,zI,zJ,zK,HV.cells,hnt, h1, h3, h10, h11, h12, hcn, ei]; try exact rfl) (fun hc => ?_) (fun hc => ?_) <;> (try (exfalso; omega))
     | refine r_leq (by simp (disch:=first|decide|(simp only[zF,zG,hnt, h1, h3, h10, h11, h12, hcn, ei];decide)) only [zA,zB,zC,zD,zE,zF,zG,zH,zI,zJ,zK,HV.cells,hnt, h1, h3, h10, h11, h12, hcn, ei]; try exact rfl) (by simp (disch:=first|decide|(simp only[zF,zG,hnt, h1, h3, h10, h11, h12, hcn, ei];decide)) only [zA,zB,zC,zD,zE,zF,zG,zH,zI,zJ,zK,HV.cells,hnt, h1, h3, h10, h11, h12, hcn, ei]; try exact rfl) (fun hc => ?_) (fun hc => ?_) <;> (try (exfalso; omega))
     | refine r_pt (by simp (disch:=first|decide|(simp only[zF,zG,hnt, h1, h3, h10, h11, h12, hcn, ei];decide)) only [zA,zB,zC,zD,zE,zF,zG,zH,zI,zJ,zK,HV.cells,hnt, h1, h3, h10, h11, h12, hcn, ei]; first|done|exact rfl) (by simp (disch:=first|decide|(simp only[zF,zG,hnt, h1, h3, h10, h11, h12, hcn, ei];decide)) only [zA,zB,zC,zD,zE,zF,zG,zH,zI,zJ,zK,HV.cells,hnt, h1, h3, h10, h11, h12, hcn, ei]; try exact rfl) ?_
     | refine r_calls (by simp (disch:=first|decide|(simp only[zF,zG,hnt, h1, h3, h10, h11, h12, hcn, ei];decide)) only [zA,zB,zC,zD,zE,zF,zG,zH,zI,zJ,zK,HV.cells,hnt, h1, h3, h10, h11, h12, hcn, ei]; try exact rfl) (by simp (disch:=first|decide|(simp only[zF,zG,hnt, h1, h3, h10, h11, h12, hcn, ei];decide)) only [List.map_cons,List.map_nil,List.nil_append,List.cons_append,List.append_nil,zA,zB,zC,zD,zE,zF,zG,zH,zI,zJ,zK,HV.cells,hnt, h1, h3, h10, h11, h12, hcn, ei]; try exact rfl) (cH _ _ _ (by omega) (by omega)) (fun n' hn' => ?_)
     | fail
    case refine_1.refine_1 =>
      refine loop54w0 (cp := cp) hcn hT hv htg hf hth m (i + 1) _ _ (by omega) (by omega) (by omega) (by omega) (by repeat' first|assumption|refine D.upd ?_ (by omega)|exact D.mono (by assumption) (by omega)) (hrow.ext (by repeat' first|assumption|refine Ext.put ?_ (by omega) (by omega)|exact Ext.up (by assumption) (by omega)|exact Ext.nx (by assumption) (by omega))) ?_ ?_ ?_ ?_ ?_ ?_ ?_ ?_ ?_ ?_ ?_ (fun a' n2 i2 g0 g1 g2 g3 g4 g5 g6 g7 g8 g9 g10 g11 g12 g13 g14 g15 => hq a' n2 i2 (by omega) g1 g2 g3 g4 g5 g6 g7 g8 g9 g10 g11 g12 g13 g14 g15)
      all_goals first|(simp only [zL,zM,zF,zG,hnt, hds, h1, h2, h3, h7, h8, h9, h10, h11, h12];done)|(simp (disch:=first|decide|(simp only[zF,zG,hnt, hds, h1, h2, h3, h7, h8, h9, h10, h11, h12];decide)) only [zA,zB,zC,zD,zE,zF,zG,zH,zI,zJ,zK,HV.cells,hnt, hds, h1, h2, h3, h7, h8, h9, h10, h11, h12];first|done|exact rfl)|assumption
    case refine_1.refine_2 =>
      refine hq _ _ i (by omega) ?_ ?_ ?_ ?_ ?_ ?_ ?_ ?_ ?_ ?_ ?_ hfi (by omega) hle (fun e => by omega)
      all_goals first|(simp only [zL,zM,zF,zG,hnt, hds, h1, h2, h3, h7, h8, h9, h10, h11, h12];done)|(simp (disch:=first|decide|(simp only[zF,zG,hnt, hds, h1, h2, h3, h7, h8, h9, h10, h11, h12];decide)) only [zA,zB,zC,zD,zE,zF,zG,zH,zI,zJ,zK,HV.cells,hnt, hds, h1, h2, h3, h7, h8, h9, h10, h11, h12];first|done|exact rfl)|assumption
theorem mul_bd {p q A B : Int} (h0 : 0 ≤ p) (h1 : p ≤ A) (h2 : 0 ≤ q) (h3 : q ≤ B) : 0 ≤ p * q ∧ p * q ≤ A * B :=
  ⟨Int.mul_nonneg h0 h2, Int.mul_le_mul h1 h3 h2 (by omega)⟩
/-- What is read of volumes: valid, and right for them. -/
def SeenOk (t : Tb) (n : Nat) (v : List Int) (l : List Rd) : Prop := ∀ r ∈ l, RdOk2 t.c r ∧ RightV n r v
theorem loop54 {fl : Nat} {h0 : Tr HBlk} {n0 tb : Nat} {Q : HExit → HAct → HS → Prop} {p pw : Option (Nat × Nat)} {v w : List Int} {cp cw n : Nat} {t : Tb} (hcn : t.c = n) (hT : TubeOk t.c t.t t.a t.b) (hv : TrulyOk t n v) (hw : Words w) (hfl : fl ≤ n0) (htb : tb < n0) (htg : h0.get tb = some (.cells t.cells .exact)) (hrow : Row ienc 1 h0 n0 p v) (hrw : Row wenc 1 h0 n0 pw w) {K : Nat} (hK : K ≤ w.length ∧ K ≤ 12 ∧ (K = w.length ∨ K = 12)) :
    ∀ (m i : Nat) (a : HAct) (h : Tr HBlk) (nx : Nat) (vv : HV) (l : List Rd), m + i = K → Ext h0 n0 h nx → Out Rd.enc 4 n0 h nx vv l → l.length = i → SeenOk t n v l →
      a.nt = 83 → a.defers = [] → a.tmp 1 = .slice p n cp → a.tmp 2 = .slice pw w.length cw → a.tmp 3 = .ptr (some (tb, 0)) → a.tmp 7 = vv → a.tmp 8 = i64 i →
      (∀ a' h' n' v' l', Ext h0 n0 h' n' → a'.nt = 83 → a'.defers = [] → a'.tmp 7 = v' → Out Rd.enc 4 n0 h' n' v' l' → l'.length = K → SeenOk t n v l' → Q .normal a' ⟨h', n'⟩) → W LW fl none (.loop L54w1) (inBlockH 0 Q) a ⟨h, nx⟩
  | 0, i, a, h, nx, vv, l, hm, he, ho, hl, hs, hnt, hds, h1, h2, h3, h7, h8, hq => by
    have hd := he.d
    have hle := he.le
    have hwl := hw.1
    refine w_it (show L54w1 = _ by unfold L54w1; exact rfl) ?_
    repeat' first
     | refine r_nil ?_
     | refine th_n ?_
     | refine th_e ?_
     | refine ib_e ?_
     | refine w_exit ?_
     | refine w_seq ?_
     | refine w_reg ?_
     | refine w_f (by simp (disch:=first|decide|(simp only[zF,zG,hnt, h1, h2, h3, h7, h8];decide)) only [zA,zB,zC,zD,zE,zF,zG,zH,zI,zJ,zK,HV.cells,hnt, h1, h2, h3, h7, h8]; first|done|exact rfl) ?_
     | refine r_take (by simp (disch:=first|decide|(simp only[zF,zG,hnt, h1, h2, h3, h7, h8];decide)) only [zA,zB,zC,zD,zE,zF,zG,zH,zI,zJ,zK,HV.cells,hnt, h1, h2, h3, h7, h8]; first|done|exact rfl) ?_
     | refine r_drop (by simp (disch:=first|decide|(simp only[zF,zG,Bool.not_true,Bool.not_false,hnt, h1, h2, h3, h7, h8];decide)) only [zA,zB,zC,zD,zE,zF,zG,zH,zI,zJ,zK,HV.cells,Bool.not_true,Bool.not_false,hnt, h1, h2, h3, h7, h8]; first|done|exact rfl) ?_
     | refine r_move (by simp (disch:=first|decide|(simp only[zF,zG,hnt, h1, h2, h3, h7, h8];decide)) only [zA,zB,zC,zD,zE,zF,zG,zH,zI,zJ,zK,HV.cells,hnt, h1, h2, h3, h7, h8]; try exact rfl) ?_
     | refine r_lss (by simp (disch:=first|decide|(simp only[zF,zG,hnt, h1, h2, h3, h7, h8];decide)) only [zA,zB,zC,zD,zE,zF,zG,zH,zI,zJ,zK,HV.cells,hnt, h1, h2, h3, h7, h8]; try exact rfl) (by simp (disch:=first|decide|(simp only[zF,zG,hnt, h1, h2, h3, h7, h8];decide)) only [zA,zB,zC,zD,zE,zF,zG,zH,zI,zJ,zK,HV.cells,hnt, h1, h2, h3, h7, h8]; try exact rfl) (fun hc => ?_) (fun hc => ?_) <;> (try (exfalso; omega))
     | refine r_pt (by simp (disch:=first|decide|(simp only[zF,zG,hnt, h1, h2, h3, h7, h8];decide)) only [zA,zB,zC,zD,zE,zF,zG,zH,zI,zJ,zK,HV.cells,hnt, h1, h2, h3, h7, h8]; first|done|exact rfl) (by simp (disch:=first|decide|(simp only[zF,zG,hnt, h1, h2, h3, h7, h8];decide)) only [zA,zB,zC,zD,zE,zF,zG,zH,zI,zJ,zK,HV.cells,hnt, h1, h2, h3, h7, h8]; try exact rfl) ?_
     | refine r_pf (by simp (disch:=first|decide|(simp only[zF,zG,hnt, h1, h2, h3, h7, h8];decide)) only [zA,zB,zC,zD,zE,zF,zG,zH,zI,zJ,zK,HV.cells,hnt, h1, h2, h3, h7, h8]; first|done|exact rfl) (by simp (disch:=first|decide|(simp only[zF,zG,hnt, h1, h2, h3, h7, h8];decide)) only [zA,zB,zC,zD,zE,zF,zG,zH,zI,zJ,zK,HV.cells,hnt, h1, h2, h3, h7, h8]; try exact rfl) ?_
     | refine r_len (by simp (disch:=first|decide|(simp only[zF,zG,hnt, h1, h2, h3, h7, h8];decide)) only [zA,zB,zC,zD,zE,zF,zG,zH,zI,zJ,zK,HV.cells,hnt, h1, h2, h3, h7, h8]; try exact rfl) ?_
     | fail
    all_goals refine hq _ _ _ vv l he ?_ ?_ ?_ ho (by omega) hs
    all_goals first|(simp only [zL,zM,zF,zG,hnt, hds, h7];done)|(simp (disch:=first|decide|(simp only[zF,zG,hnt, hds, h7];decide)) only [zA,zB,zC,zD,zE,zF,zG,zH,zI,zJ,zK,HV.cells,hnt, hds, h7];first|done|exact rfl)|assumption
  | m + 1, i, a, h, nx, vv, l, hm, he, ho, hl, hs, hnt, hds, h1, h2, h3, h7, h8, hq => by
    have hd := he.d
    have hle := he.le
    have hwl := hw.1
    have hTo := hT
    unfold TubeOk at hTo
    have hg : h.get tb = some (.cells t.cells .exact) := by rw [he.same _ htb]; exact htg
    have ec : t.cells[0 + 0]? = some (i64 t.c) := rfl
    have et : t.cells[0 + 1]? = some (i64 t.t) := rfl
    have hi : i < w.length := by omega
    obtain ⟨b, o, cs, bk, rfl, hb, hgw, hcs⟩ := (hrw.ext he) (by intro e; rw [e] at hi; simp at hi)
    have hy : w[i]? = some w[i] := by simp [hi]
    have e0 := take_at (hcs i _ hy) (j := 0) (v := HV.int .u16 w[i]) rfl
    have bd := hw.2 _ (List.getElem_mem hi)
    obtain ⟨wi, hwi⟩ : ∃ x, x = w[i] := ⟨_, rfl⟩
    rw [← hwi] at bd e0
    obtain ⟨f, hf⟩ : ∃ k : Nat, wi % t.c = k := ⟨(wi % t.c).toNat, by have := Int.emod_nonneg wi (show t.c ≠ 0 by omega); omega⟩
    have hfn : f < n := by have := Int.emod_lt_of_pos wi (show 0 < t.c by omega); omega
    rw [hcn] at hf
    have i2 := hgt_in hT hv (show f ≤ n by omega)
    have hvb : ∀ x ∈ v, -1000000 ≤ x ∧ x ≤ 1000000 := fun x hx => by have := hv.2.1 x hx; omega
    have cH : ∀ fl h' n', Ext h nx h' n' → C LW fl 38 [.slice p n cp, i64 f] ⟨h', n'⟩ (Sc (· = i64 (hgt v f)) ⟨h', n'⟩) := fun fl h' n' e => c_Height hv.1.symm (by rw [hv.1]; omega) (by rw [hv.1]; omega) (hrow.ext (he.trans e)) hvb
    obtain ⟨P, hP⟩ : ∃ x, x = wi / 16 % 256 := ⟨_, rfl⟩
    obtain ⟨Z, hZ⟩ : ∃ x, x = t.t - hgt v f + 5 := ⟨_, rfl⟩
    have bPZ := mul_bd (p := P) (q := Z) (A := 255) (B := 2005) (by omega) (by omega) (by omega) (by omega)
    obtain ⟨th, hth⟩ : ∃ x, x = P * Z / 256 := ⟨_, rfl⟩
    have bth : 0 ≤ th ∧ th ≤ 1997 := by omega
    refine w_it (show L54w1 = _ by unfold L54w1; exact rfl) ?_
    repeat' first
     | refine r_nil ?_
     | refine th_n ?_
     | refine w_seq ?_
     | refine w_reg ?_
     | refine w_skip ?_
     | refine w_block ?_
     | refine w_t (by simp (disch:=first|decide|(simp only[zF,zG,hnt, h1, h2, h3, h7, h8, hcn, hf, ← hP, ← hZ, ← hth];decide)) only [zA,zB,zC,zD,zE,zF,zG,zH,zI,zJ,zK,HV.cells,hnt, h1, h2, h3, h7, h8, hcn, hf, ← hP, ← hZ, ← hth]; first|done|exact rfl) ?_
     | refine r_take (by simp (disch:=first|decide|(simp only[zF,zG,hnt, h1, h2, h3, h7, h8, hcn, hf, ← hP, ← hZ, ← hth];decide)) only [zA,zB,zC,zD,zE,zF,zG,zH,zI,zJ,zK,HV.cells,hnt, h1, h2, h3, h7, h8, hcn, hf, ← hP, ← hZ, ← hth]; first|done|exact rfl) ?_
     | refine r_move (by simp (disch:=first|decide|(simp only[zF,zG,hnt, h1, h2, h3, h7, h8, hcn, hf, ← hP, ← hZ, ← hth];decide)) only [zA,zB,zC,zD,zE,zF,zG,zH,zI,zJ,zK,HV.cells,hnt, h1, h2, h3, h7, h8, hcn, hf, ← hP, ← hZ, ← hth]; try exact rfl) ?_
     | refine r_fa (by simp (disch:=first|decide|(simp only[zF,zG,hnt, h1, h2, h3, h7, h8, hcn, hf, ← hP, ← hZ, ← hth];decide)) only [zA,zB,zC,zD,zE,zF,zG,zH,zI,zJ,zK,HV.cells,hnt, h1, h2, h3, h7, h8, hcn, hf, ← hP, ← hZ, ← hth]; try exact rfl) ?_
     | refine r_ld1 (by simp (disch:=first|decide|(simp only[zF,zG,hnt, h1, h2, h3, h7, h8, hcn, hf, ← hP, ← hZ, ← hth];decide)) only [zA,zB,zC,zD,zE,zF,zG,zH,zI,zJ,zK,HV.cells,hnt, h1, h2, h3, h7, h8, hcn, hf, ← hP, ← hZ, ← hth]; try exact rfl) (by first|assumption|(simp (disch:=omega) only [get_same,get_other,hnt, h1, h2, h3, h7, h8, hcn, hf, ← hP, ← hZ, ← hth]; first|done|exact rfl)) (by first|assumption|rfl|(simp only [zI,zJ,HV.cells,hnt, h1, h2, h3, h7, h8, hcn, hf, ← hP, ← hZ, ← hth]; exact rfl)) ?_
     | refine r_add (by simp (disch:=first|decide|(simp only[zF,zG,hnt, h1, h2, h3, h7, h8, hcn, hf, ← hP, ← hZ, ← hth];decide)) only [zA,zB,zC,zD,zE,zF,zG,zH,zI,zJ,zK,HV.cells,hnt, h1, h2, h3, h7, h8, hcn, hf, ← hP, ← hZ, ← hth]; try exact rfl) (by simp (disch:=first|decide|(simp only[zF,zG,hnt, h1, h2, h3, h7, h8, hcn, hf, ← hP, ← hZ, ← hth];decide)) only [zA,zB,zC,zD,zE,zF,zG,zH,zI,zJ,zK,HV.cells,hnt, h1, h2, h3, h7, h8, hcn, hf, ← hP, ← hZ, ← hth]; try exact rfl) (by omega) (by omega) ?_
     | refine r_sub (by simp (disch:=first|decide|(simp only[zF,zG,hnt, h1, h2, h3, h7, h8, hcn, hf, ← hP, ← hZ, ← hth];decide)) only [zA,zB,zC,zD,zE,zF,zG,zH,zI,zJ,zK,HV.cells,hnt, h1, h2, h3, h7, h8, hcn, hf, ← hP, ← hZ, ← hth]; try exact rfl) (by simp (disch:=first|decide|(simp only[zF,zG,hnt, h1, h2, h3, h7, h8, hcn, hf, ← hP, ← hZ, ← hth];decide)) only [zA,zB,zC,zD,zE,zF,zG,zH,zI,zJ,zK,HV.cells,hnt, h1, h2, h3, h7, h8, hcn, hf, ← hP, ← hZ, ← hth]; try exact rfl) (by omega) (by omega) ?_
     | refine r_mul (by simp (disch:=first|decide|(simp only[zF,zG,hnt, h1, h2, h3, h7, h8, hcn, hf, ← hP, ← hZ, ← hth];decide)) only [zA,zB,zC,zD,zE,zF,zG,zH,zI,zJ,zK,HV.cells,hnt, h1, h2, h3, h7, h8, hcn, hf, ← hP, ← hZ, ← hth]; try exact rfl) (by simp (disch:=first|decide|(simp only[zF,zG,hnt, h1, h2, h3, h7, h8, hcn, hf, ← hP, ← hZ, ← hth];decide)) only [zA,zB,zC,zD,zE,zF,zG,zH,zI,zJ,zK,HV.cells,hnt, h1, h2, h3, h7, h8, hcn, hf, ← hP, ← hZ, ← hth]; try exact rfl) (by omega) (by omega) ?_
     | refine r_lss (by simp (disch:=first|decide|(simp only[zF,zG,hnt, h1, h2, h3, h7, h8, hcn, hf, ← hP, ← hZ, ← hth];decide)) only [zA,zB,zC,zD,zE,zF,zG,zH,zI,zJ,zK,HV.cells,hnt, h1, h2, h3, h7, h8, hcn, hf, ← hP, ← hZ, ← hth]; try exact rfl) (by simp (disch:=first|decide|(simp only[zF,zG,hnt, h1, h2, h3, h7, h8, hcn, hf, ← hP, ← hZ, ← hth];decide)) only [zA,zB,zC,zD,zE,zF,zG,zH,zI,zJ,zK,HV.cells,hnt, h1, h2, h3, h7, h8, hcn, hf, ← hP, ← hZ, ← hth]; try exact rfl) (fun hc => ?_) (fun hc => ?_) <;> (try (exfalso; omega))
     | refine r_pt (by simp (disch:=first|decide|(simp only[zF,zG,hnt, h1, h2, h3, h7, h8, hcn, hf, ← hP, ← hZ, ← hth];decide)) only [zA,zB,zC,zD,zE,zF,zG,zH,zI,zJ,zK,HV.cells,hnt, h1, h2, h3, h7, h8, hcn, hf, ← hP, ← hZ, ← hth]; first|done|exact rfl) (by simp (disch:=first|decide|(simp only[zF,zG,hnt, h1, h2, h3, h7, h8, hcn, hf, ← hP, ← hZ, ← hth];decide)) only [zA,zB,zC,zD,zE,zF,zG,zH,zI,zJ,zK,HV.cells,hnt, h1, h2, h3, h7, h8, hcn, hf, ← hP, ← hZ, ← hth]; try exact rfl) ?_
     | refine r_len (by simp (disch:=first|decide|(simp only[zF,zG,hnt, h1, h2, h3, h7, h8, hcn, hf, ← hP, ← hZ, ← hth];decide)) only [zA,zB,zC,zD,zE,zF,zG,zH,zI,zJ,zK,HV.cells,hnt, h1, h2, h3, h7, h8, hcn, hf, ← hP, ← hZ, ← hth]; try exact rfl) ?_
     | refine r_ixs (by simp (disch:=first|decide|(simp only[zF,zG,hnt, h1, h2, h3, h7, h8, hcn, hf, ← hP, ← hZ, ← hth];decide)) only [zA,zB,zC,zD,zE,zF,zG,zH,zI,zJ,zK,HV.cells,hnt, h1, h2, h3, h7, h8, hcn, hf, ← hP, ← hZ, ← hth]; try exact rfl) (by simp (disch:=first|decide|(simp only[zF,zG,hnt, h1, h2, h3, h7, h8, hcn, hf, ← hP, ← hZ, ← hth];decide)) only [zA,zB,zC,zD,zE,zF,zG,zH,zI,zJ,zK,HV.cells,hnt, h1, h2, h3, h7, h8, hcn, hf, ← hP, ← hZ, ← hth]; try exact rfl) (by omega) ?_
     | refine r_rem (by simp (disch:=first|decide|(simp only[zF,zG,hnt, h1, h2, h3, h7, h8, hcn, hf, ← hP, ← hZ, ← hth];decide)) only [zA,zB,zC,zD,zE,zF,zG,zH,zI,zJ,zK,HV.cells,hnt, h1, h2, h3, h7, h8, hcn, hf, ← hP, ← hZ, ← hth]; try exact rfl) (by simp (disch:=first|decide|(simp only[zF,zG,hnt, h1, h2, h3, h7, h8, hcn, hf, ← hP, ← hZ, ← hth];decide)) only [zA,zB,zC,zD,zE,zF,zG,zH,zI,zJ,zK,HV.cells,hnt, h1, h2, h3, h7, h8, hcn, hf, ← hP, ← hZ, ← hth]; try exact rfl) (by omega) (by omega) ?_
     | refine r_quop (by simp (disch:=first|decide|(simp only[zF,zG,hnt, h1, h2, h3, h7, h8, hcn, hf, ← hP, ← hZ, ← hth];decide)) only [zA,zB,zC,zD,zE,zF,zG,zH,zI,zJ,zK,HV.cells,hnt, h1, h2, h3, h7, h8, hcn, hf, ← hP, ← hZ, ← hth]; try exact rfl) (by simp (disch:=first|decide|(simp only[zF,zG,hnt, h1, h2, h3, h7, h8, hcn, hf, ← hP, ← hZ, ← hth];decide)) only [zA,zB,zC,zD,zE,zF,zG,zH,zI,zJ,zK,HV.cells,hnt, h1, h2, h3, h7, h8, hcn, hf, ← hP, ← hZ, ← hth]; try exact rfl) (by omega) (by omega) (by omega) ?_
     | refine r_conv (by simp (disch:=first|decide|(simp only[zF,zG,hnt, h1, h2, h3, h7, h8, hcn, hf, ← hP, ← hZ, ← hth];decide)) only [zA,zB,zC,zD,zE,zF,zG,zH,zI,zJ,zK,HV.cells,hnt, h1, h2, h3, h7, h8, hcn, hf, ← hP, ← hZ, ← hth]; try exact rfl) (by omega) (by omega) ?_
     | refine r_calls (by simp (disch:=first|decide|(simp only[zF,zG,hnt, h1, h2, h3, h7, h8, hcn, hf, ← hP, ← hZ, ← hth];decide)) only [zA,zB,zC,zD,zE,zF,zG,zH,zI,zJ,zK,HV.cells,hnt, h1, h2, h3, h7, h8, hcn, hf, ← hP, ← hZ, ← hth]; try exact rfl) (by simp (disch:=first|decide|(simp only[zF,zG,hnt, h1, h2, h3, h7, h8, hcn, hf, ← hP, ← hZ, ← hth];decide)) only [List.map_cons,List.map_nil,List.nil_append,List.cons_append,List.append_nil,zA,zB,zC,zD,zE,zF,zG,zH,zI,zJ,zK,HV.cells,hnt, h1, h2, h3, h7, h8, hcn, hf, ← hP, ← hZ, ← hth]; try exact rfl) (cH _ _ _ (by repeat' first|assumption|refine Ext.put ?_ (by omega) (by omega)|exact Ext.up (by assumption) (by omega)|exact Ext.nx (by assumption) (by omega))) (fun n' hn' => ?_)
     | refine w_draw (by omega) (by repeat' first|assumption|refine D.upd ?_ (by omega)|exact D.mono (by assumption) (by omega)) ?_
     | refine d_rest rfl ?_
     | refine d_one rfl ?_
     | refine d_next (by omega) ?_
     | fail
    case refine_1.refine_1 =>
      refine loop54w0 (cp := cp) (n := n) (f := f) (th := th) (w8 := i) (w9 := wi) (t2 := .slice (some (b, o)) w.length cw) (t7 := vv) (tb := tb) hcn hT hv hg (by omega) (by omega) (n - f) f _ _ (by omega) (Nat.le_refl _) (by omega) (by omega) (by repeat' first|assumption|refine D.upd ?_ (by omega)|exact D.mono (by assumption) (by omega)) (hrow.ext (he.trans (by repeat' first|assumption|refine Ext.put ?_ (by omega) (by omega)|exact Ext.up (by assumption) (by omega)|exact Ext.nx (by assumption) (by omega)))) ?_ ?_ ?_ ?_ ?_ ?_ ?_ ?_ ?_ ?_ ?_ (fun a' n2 k g0 g1 g2 g3 g4 g5 g6 g7 g8 g9 g10 g11 g12 g13 g14 g15 => ?_)
      all_goals try first|(simp only [zL,zM,zF,zG,hnt, hds, h1, h2, h3, h7, h8];done)|(simp (disch:=first|decide|(simp only[zF,zG,hnt, hds, h1, h2, h3, h7, h8];decide)) only [zA,zB,zC,zD,zE,zF,zG,zH,zI,zJ,zK,HV.cells,hnt, hds, h1, h2, h3, h7, h8];first|done|exact rfl)|assumption
      obtain ⟨lo, hlo⟩ : ∃ x, x = max 0 (th - wi / 4096 % 4) := ⟨_, rfl⟩
      obtain ⟨hi2, hhi⟩ : ∃ x, x = min 2000 (th + wi / 8192 % 3) := ⟨_, rfl⟩
      have fr1 : fillH [i64 0, i64 0] [(0, 1, i64 lo), (1, 1, i64 hi2)] = some [i64 lo, i64 hi2] := rfl
      have fr2 : fillH [i64 0, i64 0, i64 0, i64 0] [(0, 1, i64 f), (1, 1, i64 k), (2, 2, .agg [i64 lo, i64 hi2])] = some (Rd.enc ⟨f, k, lo, hi2⟩) := rfl
      have fr3 : fillH (repl 1 [i64 0, i64 0, i64 0, i64 0]) [(0, 4, .agg (Rd.enc ⟨f, k, lo, hi2⟩))] = some (Rd.enc ⟨f, k, lo, hi2⟩) := rfl
      repeat' first
       | refine th_n ?_
       | refine w_reg ?_
       | refine r_move (by simp (disch:=first|decide|(simp only[zF,zG,g1, g3, g4, g5, g6, g7, g8, g9, g10, g11, ← hlo, ← hhi, fr1, fr2, fr3];decide)) only [zA,zB,zC,zD,zE,zF,zG,zH,zI,zJ,zK,HV.cells,g1, g3, g4, g5, g6, g7, g8, g9, g10, g11, ← hlo, ← hhi, fr1, fr2, fr3]; try exact rfl) ?_
       | refine r_add (by simp (disch:=first|decide|(simp only[zF,zG,g1, g3, g4, g5, g6, g7, g8, g9, g10, g11, ← hlo, ← hhi, fr1, fr2, fr3];decide)) only [zA,zB,zC,zD,zE,zF,zG,zH,zI,zJ,zK,HV.cells,g1, g3, g4, g5, g6, g7, g8, g9, g10, g11, ← hlo, ← hhi, fr1, fr2, fr3]; try exact rfl) (by simp (disch:=first|decide|(simp only[zF,zG,g1, g3, g4, g5, g6, g7, g8, g9, g10, g11, ← hlo, ← hhi, fr1, fr2, fr3];decide)) only [zA,zB,zC,zD,zE,zF,zG,zH,zI,zJ,zK,HV.cells,g1, g3, g4, g5, g6, g7, g8, g9, g10, g11, ← hlo, ← hhi, fr1, fr2, fr3]; try exact rfl) (by omega) (by omega) ?_
       | refine r_sub (by simp (disch:=first|decide|(simp only[zF,zG,g1, g3, g4, g5, g6, g7, g8, g9, g10, g11, ← hlo, ← hhi, fr1, fr2, fr3];decide)) only [zA,zB,zC,zD,zE,zF,zG,zH,zI,zJ,zK,HV.cells,g1, g3, g4, g5, g6, g7, g8, g9, g10, g11, ← hlo, ← hhi, fr1, fr2, fr3]; try exact rfl) (by simp (disch:=first|decide|(simp only[zF,zG,g1, g3, g4, g5, g6, g7, g8, g9, g10, g11, ← hlo, ← hhi, fr1, fr2, fr3];decide)) only [zA,zB,zC,zD,zE,zF,zG,zH,zI,zJ,zK,HV.cells,g1, g3, g4, g5, g6, g7, g8, g9, g10, g11, ← hlo, ← hhi, fr1, fr2, fr3]; try exact rfl) (by omega) (by omega) ?_
       | refine r_max2 (by simp (disch:=first|decide|(simp only[zF,zG,g1, g3, g4, g5, g6, g7, g8, g9, g10, g11, ← hlo, ← hhi, fr1, fr2, fr3];decide)) only [zA,zB,zC,zD,zE,zF,zG,zH,zI,zJ,zK,HV.cells,g1, g3, g4, g5, g6, g7, g8, g9, g10, g11, ← hlo, ← hhi, fr1, fr2, fr3]; try exact rfl) (by simp (disch:=first|decide|(simp only[zF,zG,g1, g3, g4, g5, g6, g7, g8, g9, g10, g11, ← hlo, ← hhi, fr1, fr2, fr3];decide)) only [zA,zB,zC,zD,zE,zF,zG,zH,zI,zJ,zK,HV.cells,g1, g3, g4, g5, g6, g7, g8, g9, g10, g11, ← hlo, ← hhi, fr1, fr2, fr3]; try exact rfl) ?_
       | refine r_min2 (by simp (disch:=first|decide|(simp only[zF,zG,g1, g3, g4, g5, g6, g7, g8, g9, g10, g11, ← hlo, ← hhi, fr1, fr2, fr3];decide)) only [zA,zB,zC,zD,zE,zF,zG,zH,zI,zJ,zK,HV.cells,g1, g3, g4, g5, g6, g7, g8, g9, g10, g11, ← hlo, ← hhi, fr1, fr2, fr3]; try exact rfl) (by simp (disch:=first|decide|(simp only[zF,zG,g1, g3, g4, g5, g6, g7, g8, g9, g10, g11, ← hlo, ← hhi, fr1, fr2, fr3];decide)) only [zA,zB,zC,zD,zE,zF,zG,zH,zI,zJ,zK,HV.cells,g1, g3, g4, g5, g6, g7, g8, g9, g10, g11, ← hlo, ← hhi, fr1, fr2, fr3]; try exact rfl) ?_
       | refine r_build (by simp (disch:=first|decide|(simp only[zF,zG,g1, g3, g4, g5, g6, g7, g8, g9, g10, g11, ← hlo, ← hhi, fr1, fr2, fr3];decide)) only [evParts,List.map_cons,List.map_nil,List.nil_append,List.cons_append,List.append_nil,zA,zB,zC,zD,zE,zF,zG,zH,zI,zJ,zK,HV.cells,g1, g3, g4, g5, g6, g7, g8, g9, g10, g11, ← hlo, ← hhi, fr1, fr2, fr3]; try exact rfl) ?_
       | refine r_bs (by simp (disch:=first|decide|(simp only[zF,zG,g1, g3, g4, g5, g6, g7, g8, g9, g10, g11, ← hlo, ← hhi, fr1, fr2, fr3];decide)) only [evParts,List.map_cons,List.map_nil,List.nil_append,List.cons_append,List.append_nil,zA,zB,zC,zD,zE,zF,zG,zH,zI,zJ,zK,HV.cells,g1, g3, g4, g5, g6, g7, g8, g9, g10, g11, ← hlo, ← hhi, fr1, fr2, fr3]; try exact rfl) ?_
       | refine r_rem (by simp (disch:=first|decide|(simp only[zF,zG,g1, g3, g4, g5, g6, g7, g8, g9, g10, g11, ← hlo, ← hhi, fr1, fr2, fr3];decide)) only [zA,zB,zC,zD,zE,zF,zG,zH,zI,zJ,zK,HV.cells,g1, g3, g4, g5, g6, g7, g8, g9, g10, g11, ← hlo, ← hhi, fr1, fr2, fr3]; try exact rfl) (by simp (disch:=first|decide|(simp only[zF,zG,g1, g3, g4, g5, g6, g7, g8, g9, g10, g11, ← hlo, ← hhi, fr1, fr2, fr3];decide)) only [zA,zB,zC,zD,zE,zF,zG,zH,zI,zJ,zK,HV.cells,g1, g3, g4, g5, g6, g7, g8, g9, g10, g11, ← hlo, ← hhi, fr1, fr2, fr3]; try exact rfl) (by omega) (by omega) ?_
       | refine r_quop (by simp (disch:=first|decide|(simp only[zF,zG,g1, g3, g4, g5, g6, g7, g8, g9, g10, g11, ← hlo, ← hhi, fr1, fr2, fr3];decide)) only [zA,zB,zC,zD,zE,zF,zG,zH,zI,zJ,zK,HV.cells,g1, g3, g4, g5, g6, g7, g8, g9, g10, g11, ← hlo, ← hhi, fr1, fr2, fr3]; try exact rfl) (by simp (disch:=first|decide|(simp only[zF,zG,g1, g3, g4, g5, g6, g7, g8, g9, g10, g11, ← hlo, ← hhi, fr1, fr2, fr3];decide)) only [zA,zB,zC,zD,zE,zF,zG,zH,zI,zJ,zK,HV.cells,g1, g3, g4, g5, g6, g7, g8, g9, g10, g11, ← hlo, ← hhi, fr1, fr2, fr3]; try exact rfl) (by omega) (by omega) (by omega) ?_
       | fail
      have hn2 : nx ≤ n2 := by omega
      obtain ⟨v', h', ha, ho', hs', hd'⟩ := Out.app (x := ⟨f, k, lo, hi2⟩) (bytes := 32) (fl := fl) Rd.enc_len (Rd.enc_one _) (by omega) hfl (hd.mono hn2) (ho.keep hn2 (fun _ _ => rfl)) (by omega) (by omega) (by omega)
      refine r_app (by simp (disch:=first|decide|(simp only[zF,zG,g1, g6];decide)) only [zA,zB,zC,zD,zE,zF,zG,zH,zI,zJ,zK,HV.cells,g1, g6]; try exact rfl) (by simp (disch:=first|decide|(simp only[zF,zG,g1];decide)) only [zA,zB,zC,zD,zE,zF,zG,zH,zI,zJ,zK,HV.cells,g1]; try exact rfl) ha ?_
      repeat' first
       | refine r_nil ?_
       | refine th_n ?_
       | refine ib_n ?_
       | refine w_reg ?_
       | refine r_move (by simp (disch:=first|decide|(simp only[zF,zG,g1, g3, g4, g5, g7];decide)) only [zA,zB,zC,zD,zE,zF,zG,zH,zI,zJ,zK,HV.cells,g1, g3, g4, g5, g7]; try exact rfl) ?_
       | refine r_add (by simp (disch:=first|decide|(simp only[zF,zG,g1, g3, g4, g5, g7];decide)) only [zA,zB,zC,zD,zE,zF,zG,zH,zI,zJ,zK,HV.cells,g1, g3, g4, g5, g7]; try exact rfl) (by simp (disch:=first|decide|(simp only[zF,zG,g1, g3, g4, g5, g7];decide)) only [zA,zB,zC,zD,zE,zF,zG,zH,zI,zJ,zK,HV.cells,g1, g3, g4, g5, g7]; try exact rfl) (by omega) (by omega) ?_
       | fail
      have e2 : Ext h0 n0 h' (n2 + 2) := ⟨by omega, hd', fun b hb => (hs' b hb).trans (he.same b hb)⟩
      refine loop54 (cp := cp) (cw := cw) hcn hT hv hw hfl htb htg hrow hrw hK m (i + 1) _ _ _ v' (l ++ [⟨f, k, lo, hi2⟩]) (by omega) e2 ho' (by simp; omega) (fun y hy => ?_) ?_ ?_ ?_ ?_ ?_ ?_ ?_ hq
      · rcases List.mem_append.1 hy with e | e
        · exact hs y e
        · rw [List.mem_singleton.1 e]
          refine ⟨by unfold RdOk2; dsimp only; omega, ?_⟩
          unfold RightV
          dsimp only
          rw [Int.toNat_natCast, Int.toNat_natCast]
          by_cases hkn : k < n
          · rw [if_pos (by omega)]
            have := g15 hkn
            omega
          · rw [if_neg (by omega)]
            omega
      all_goals first|(simp only [zL,zM,zF,zG,g1, g2, g3, g4, g5, g7];done)|(simp (disch:=first|decide|(simp only[zF,zG,g1, g2, g3, g4, g5, g7];decide)) only [zA,zB,zC,zD,zE,zF,zG,zH,zI,zJ,zK,HV.cells,g1, g2, g3, g4, g5, g7];first|done|exact rfl)|assumption
theorem c_Seen {fl : Nat} {h : Tr HBlk} {nx : Nat} (hd : D h nx) {p pw : Option (Nat × Nat)} {v w : List Int} {k kw cp cw n : Nat} {t : Tb} (hcn : t.c = n) (hT : TubeOk t.c t.t t.a t.b) (hv : TrulyOk t n v) (hk : k = n) (hkw : kw = w.length) (hw : Words w) (hrow : Row ienc 1 h nx p v) (hrw : Row wenc 1 h nx pw w) :
    C LW fl 54 [.agg t.cells, .slice p k cp, .slice pw kw cw] ⟨h, nx⟩ (fun x σ' => ∃ l, SeenOk t n v l ∧ l.length ≤ 12 ∧ l.length ≤ w.length ∧ ScL Rd.enc 4 l ⟨h, nx⟩ x σ') := by
  subst hk
  subst hkw
  refine c_in lw54 rfl rfl rfl ?_
  dsimp only [L54]
  repeat' first
   | refine r_nil ?_
   | refine th_n ?_
   | refine w_seq ?_
   | refine w_reg ?_
   | refine w_block ?_
   | refine r_move (by simp (disch:=first|decide|(simp only[zF,zG];decide)) only [zA,zB,zC,zD,zE,zF,zG,zH,zI,zJ,zK,HV.cells]; try exact rfl) ?_
   | refine r_box (by simp (disch:=first|decide|(simp only[zF,zG];decide)) only [zA,zB,zC,zD,zE,zF,zG,zH,zI,zJ,zK,HV.cells]; try exact rfl) ?_
   | fail
  have hK : min w.length 12 ≤ w.length ∧ min w.length 12 ≤ 12 ∧ (min w.length 12 = w.length ∨ min w.length 12 = 12) := by omega
  refine loop54 (n0 := nx + 1) (tb := nx) (cp := cp) (cw := cw) (n := k) (t := t) hcn hT hv hw (by omega) (by omega) (by first|assumption|(simp (disch:=omega) only [get_same,get_other]; first|done|exact rfl)) (hrow.ext (by repeat' first|assumption|refine Ext.put ?_ (by omega) (by omega)|exact Ext.up (by assumption) (by omega)|exact Ext.nx (by assumption) (by omega))) (hrw.ext (by repeat' first|assumption|refine Ext.put ?_ (by omega) (by omega)|exact Ext.up (by assumption) (by omega)|exact Ext.nx (by assumption) (by omega))) hK (min w.length 12) 0 _ _ _ (.slice none 0 0) [] (by omega) (Ext.refl (by repeat' first|assumption|refine D.upd ?_ (by omega)|exact D.mono (by assumption) (by omega))) Out.nil rfl (fun r hr => by cases hr) ?_ ?_ ?_ ?_ ?_ ?_ ?_ (fun a' h' n' v' l' e1 g1 g2 g3 g4 g5 g6 => ?_)
  all_goals try first|(simp only [zL,zM,zF,zG];done)|(simp (disch:=first|decide|(simp only[zF,zG];decide)) only [zA,zB,zC,zD,zE,zF,zG,zH,zI,zJ,zK,HV.cells];first|done|exact rfl)|assumption
  have hle := e1.le
  repeat' first
   | refine r_nil ?_
   | refine th_n ?_
   | refine w_seq ?_
   | refine w_reg ?_
   | refine w_ret ?_
   | refine r_move (by simp (disch:=first|decide|(simp only[zF,zG,g1, g3];decide)) only [zA,zB,zC,zD,zE,zF,zG,zH,zI,zJ,zK,HV.cells,g1, g3]; try exact rfl) ?_
   | fail
  refine fin_r (by simp only [zL, g2]) (by simp (disch:=first|decide|(simp only[zF,zG,g1, g3];decide)) only [zA,zB,zC,zD,zE,zF,zG,zH,zI,zJ,zK,HV.cells,g1, g3]; try exact rfl) ⟨l', g6, by omega, by omega, scl_out Rd.enc_len Rd.enc_flat hd (by omega) (g4.less (by omega))⟩
end Go.Hx

/- Layer 1: what may be said of how much higher one mark is than another: matrices that are closed. -/
namespace Go.Hx
/-- No way over another mark says more. -/
structure Good (n : Nat) (M : Mx) : Prop where
  tri : ∀ i j k, i ≤ n → j ≤ n → k ≤ n → M i k ≤ M i j + M j k
  dg : ∀ i, i ≤ n → M i i = 0
  ub : ∀ i j, i ≤ n → j ≤ n → M i j ≤ 2000
  out : ∀ i j, ¬ (i ≤ n ∧ j ≤ n) → M i j = 0
theorem Good.cyc {n : Nat} {M : Mx} (h : Good n M) {i j : Nat} (hi : i ≤ n) (hj : j ≤ n) : 0 ≤ M i j + M j i := by
  have := h.tri i j i hi hj hi
  have := h.dg i hi
  omega
theorem Good.bds {n : Nat} {M : Mx} (h : Good n M) : BdS M := fun i j => by
  by_cases hij : i ≤ n ∧ j ≤ n
  · have := h.ub i j hij.1 hij.2
    have := h.ub j i hij.2 hij.1
    have := h.cyc hij.1 hij.2
    omega
  · rw [h.out i j hij]; omega
theorem Good.lb {n : Nat} {M : Mx} (h : Good n M) {i j : Nat} (hi : i ≤ n) (hj : j ≤ n) : -2000 ≤ M i j := by
  have := h.ub j i hj hi
  have := h.cyc hi hj
  omega
theorem good_lim {n f g : Nat} {m : Int} {M : Mx} (h : Good n M) (hf : f ≤ n) (hg : g ≤ n) (hm : 0 ≤ m + M g f) : Good n (limM n f g m M) := by
  have e : ∀ i j, i ≤ n → j ≤ n → limM n f g m M i j = min (M i j) (M i f + m + M g j) := fun i j hi hj => by
    unfold limM; rw [if_pos ⟨hi, hj⟩]
  refine ⟨fun i j k hi hj hk => ?_, fun i hi => ?_, fun i j hi hj => ?_, fun i j hij => ?_⟩
  · rw [e i k hi hk, e i j hi hj, e j k hj hk]
    have := h.tri i j k hi hj hk
    have := h.tri i j f hi hj hf
    have := h.tri g j k hg hj hk
    have := h.tri g j f hg hj hf
    omega
  · rw [e i i hi hi, h.dg i hi]
    have := h.tri g i f hg hi hf
    omega
  · rw [e i j hi hj]
    have := h.ub i j hi hj
    omega
  · unfold limM
    rw [if_neg hij]
    exact h.out i j hij
theorem F_max {a b d : Int} (h : a ≤ b) : d * (if 0 ≤ d then b else a) = max (d * a) (d * b) := by
  by_cases hd : 0 ≤ d
  · rw [if_pos hd]
    have := Int.mul_le_mul_of_nonneg_left h hd
    omega
  · rw [if_neg hd]
    have := Int.mul_le_mul_of_nonneg_left h (show 0 ≤ -d by omega)
    rw [Int.neg_mul, Int.neg_mul] at this
    omega
theorem u0_at {n i j : Nat} {a b : Int} (h : a ≤ b) (hi : i ≤ n) (hj : j ≤ n) : u0 n a b i j = max (((j : Int) - i) * a) (((j : Int) - i) * b) := by
  unfold u0
  rw [if_pos ⟨hi, hj⟩, ← F_max h]
  congr 1
  by_cases e : i ≤ j
  · rw [if_pos e, if_pos (by omega)]
  · rw [if_neg e, if_neg (by omega)]
theorem mulb' {i j n : Nat} {a : Int} (hi : i ≤ n) (hj : j ≤ n) (hn : n ≤ 10) (ha : 0 ≤ a ∧ a ≤ 200) : ((j : Int) - i) * a ≤ 2000 := by
  by_cases h : (j : Int) - i ≤ 0
  · have := Int.mul_le_mul_of_nonneg_right h ha.1
    rw [Int.zero_mul] at this
    omega
  · have h1 : ((j : Int) - i) * a ≤ 10 * a := Int.mul_le_mul_of_nonneg_right (by omega) ha.1
    omega
theorem good_u0 {n : Nat} {a b : Int} (hn : n ≤ 10) (h1 : 1 ≤ a) (h2 : a ≤ b) (h3 : b ≤ 200) : Good n (u0 n a b) := by
  refine ⟨fun i j k hi hj hk => ?_, fun i hi => ?_, fun i j hi hj => ?_, fun i j hij => ?_⟩
  · rw [u0_at h2 hi hk, u0_at h2 hi hj, u0_at h2 hj hk]
    rw [show (k : Int) - i = ((j : Int) - i) + ((k : Int) - j) by omega, Int.add_mul, Int.add_mul]
    omega
  · rw [u0_at h2 hi hi, show (i : Int) - i = 0 by omega, Int.zero_mul, Int.zero_mul]; rfl
  · have e1 := mulb' (a := a) hi hj hn ⟨by omega, by omega⟩
    have e2 := mulb' (a := b) hi hj hn ⟨by omega, by omega⟩
    rw [u0_at h2 hi hj]; omega
  · unfold u0; rw [if_neg hij]
theorem unr_eq {n : Nat} {t : Tb} (hn1 : 1 ≤ n) (hn : n ≤ 10) (h1 : 1 ≤ t.a) (h2 : t.a ≤ t.b) (h3 : t.b ≤ 200) (h4 : n * t.a ≤ t.t) (h5 : t.t ≤ n * t.b) : unrM n t = limM n n 0 (-t.t) (limM n 0 n t.t (u0 n t.a t.b)) ∧ Good n (limM n 0 n t.t (u0 n t.a t.b)) ∧ Good n (unrM n t) := by
  have g0 := good_u0 hn h1 h2 h3
  have c1 : 0 ≤ t.t + u0 n t.a t.b n 0 := by
    rw [u0_at h2 (Nat.le_refl _) (Nat.zero_le _), show ((0 : Nat) : Int) - n = -n by omega, Int.neg_mul, Int.neg_mul]; omega
  have g1 := good_lim g0 (Nat.zero_le _) (Nat.le_refl _) c1
  have c2 : 0 ≤ -t.t + limM n 0 n t.t (u0 n t.a t.b) 0 n := by
    unfold limM
    rw [if_pos ⟨Nat.zero_le _, Nat.le_refl _⟩, g0.dg 0 (Nat.zero_le _), g0.dg n (Nat.le_refl _), u0_at h2 (Nat.zero_le _) (Nat.le_refl _), show (n : Int) - ((0 : Nat) : Int) = n by omega]; omega
  have e : unrM n t = limM n n 0 (-t.t) (limM n 0 n t.t (u0 n t.a t.b)) := by
    unfold unrM
    rw [if_pos c1]
    dsimp only
    rw [if_pos c2]
  exact ⟨e, g1, by rw [e]; exact good_lim g1 (Nat.le_refl _) (Nat.zero_le _) c2⟩
end Go.Hx

namespace Go.Hx
set_option linter.unusedSimpArgs false
set_option linter.unusedVariables false
set_option maxRecDepth 20000
set_option maxHeartbeats 4000000
attribute [local irreducible] W R C thenH inBlockH
/-- One reading more. -/
def withM (n : Nat) (r : Rd) (M : Mx) : Option Mx :=
  if 0 ≤ r.hi + M r.g.toNat r.f.toNat then
    if r.g.toNat < n then
      if 0 ≤ -r.lo - 1 + limM n r.f.toNat r.g.toNat r.hi M r.f.toNat (r.g.toNat + 1) then some (limM n (r.g.toNat + 1) r.f.toNat (-r.lo - 1) (limM n r.f.toNat r.g.toNat r.hi M)) else none
    else some (limM n r.f.toNat r.g.toNat r.hi M)
  else none
theorem withM_good {n : Nat} {r : Rd} {M M' : Mx} (h : Good n M) (hr : RdOk2 n r) (hw : withM n r M = some M') : Good n M' := by
  unfold RdOk2 at hr
  unfold withM at hw
  split at hw
  · rename_i h1
    have g1 := good_lim h (f := r.f.toNat) (g := r.g.toNat) (by omega) (by omega) h1
    split at hw
    · split at hw
      · rename_i h3
        cases hw
        exact good_lim g1 (by omega) (by omega) h3
      · cases hw
    · cases hw; exact g1
  · cases hw
noncomputable def withO (t : Tb) : Option Mx → HV
  | some M => .tuple [.agg (bcells t M), .bool true]
  | none => .tuple [.agg (Zr 125), .bool false]
theorem withV_eq {t : Tb} {n : Nat} {r : Rd} {M : Mx} : withV t n r.f.toNat r.g.toNat r.lo r.hi M = withO t (withM n r M) := by
  unfold withV withM
  split
  · split
    · split <;> rfl
    · rfl
  · rfl
theorem flat_withO (t : Tb) : ∀ o : Option Mx, flatV (withO t o) = true
  | some M => by show ((bcells t M).all flat1 && (true && true)) = true; rw [bc_flat]; rfl
  | none => by show ((Zr 125).all flat1 && (true && true)) = true; rw [zr_flat]; rfl
theorem c_withM {fl : Nat} {t : Tb} {n : Nat} {r : Rd} {M : Mx} (hn : n ≤ 10) (htc : t.c = n) (hB : Good n M) (hr : RdOk2 t.c r) {h : Tr HBlk} {nx : Nat} (hd : D h nx) :
    C LW fl 96 [.agg (bcells t M), .agg r.enc] ⟨h, nx⟩ (Sc (· = withO t (withM n r M)) ⟨h, nx⟩) := by
  unfold RdOk2 at hr
  have := c_with lw96 lw100 lw88 (fl := fl) (f := r.f.toNat) (g := r.g.toNat) (lo := r.lo) (hi := r.hi) hn (by omega) (by omega) htc hB.bds (by omega) (by omega) hd
  rw [withV_eq] at this
  have e : r.enc = [i64 (r.f.toNat : Int), i64 (r.g.toNat : Int), i64 r.lo, i64 r.hi] := by
    unfold Rd.enc; rw [show (r.f.toNat : Int) = r.f by omega, show (r.g.toNat : Int) = r.g by omega]
  rw [e]; exact this
/-- The readings, one by one; those that come twice say nothing more. -/
def readGo (n : Nat) : List Rd → List Rd → Mx → Option Mx
  | _, [], M => some M
  | seen, r :: rs, M => if r ∈ seen then readGo n seen rs M else match withM n r M with
    | some M' => readGo n (seen ++ [r]) rs M'
    | none => none
/-- Which readings have come, as a map. -/
def seenL (seen : List Rd) : List (HV × HV) := seen.map fun r => (.agg r.enc, .bool true)
abbrev rdEd : ED := .row [.i .i64, .i .i64, .i .i64, .i .i64]
theorem eq_rd (r s : Rd) : eqH rdEd (.agg r.enc) (.agg s.enc) = some (decide (r = s)) := by
  obtain ⟨a, b, c, d⟩ := r
  obtain ⟨a', b', c', d'⟩ := s
  show some (a == a' && (b == b' && (c == c' && (d == d' && true)))) = _
  congr 1
  rw [Bool.eq_iff_iff]
  simp
theorem key_rd (r : Rd) : keyOk rdEd (.agg r.enc) = true := by unfold keyOk; rw [eq_rd]; rfl
theorem find_seen (r : Rd) : ∀ seen : List Rd, findH rdEd (.agg r.enc) (seenL seen) = some (if r ∈ seen then some (.bool true) else none)
  | [] => rfl
  | s :: seen => by
    show (match eqH rdEd (.agg r.enc) (.agg s.enc) with | some true => _ | some false => _ | none => _) = _
    rw [eq_rd]
    by_cases e : r = s
    · rw [decide_eq_true e, if_pos (by rw [e]; exact List.mem_cons_self ..)]
    · rw [decide_eq_false e]
      show findH rdEd (.agg r.enc) (seenL seen) = _
      rw [find_seen r seen]
      by_cases h : r ∈ seen
      · rw [if_pos h, if_pos (List.mem_cons_of_mem _ h)]
      · rw [if_neg h, if_neg (by simp [e, h])]
theorem upd_seen (r : Rd) : ∀ seen : List Rd, r ∉ seen → updH rdEd (.agg r.enc) (.bool true) (seenL seen) = some (seenL (seen ++ [r]))
  | [], _ => rfl
  | s :: seen, hn => by
    show (match eqH rdEd (.agg r.enc) (.agg s.enc) with | some true => _ | some false => _ | none => _) = _
    rw [eq_rd, decide_eq_false (fun e => hn (by rw [e]; exact List.mem_cons_self ..))]
    show (updH rdEd (.agg r.enc) (.bool true) (seenL seen)).map _ = _
    rw [upd_seen r seen (fun e => hn (List.mem_cons_of_mem _ e))]
    rfl
/-- What 'read' hands back. -/
noncomputable def readO (t : Tb) (n : Nat) (l : List Rd) : Option Mx := readGo n [] l (unrM n t)
/- 89 -/
theorem loop89 {fl : Nat} {h0 : Tr HBlk} {n0 : Nat} {Q : HExit → HAct → HS → Prop} {p : Option (Nat × Nat)} {l : List Rd} {cp bk mp rb : Nat} {t : Tb} {n : Nat} (hn : n ≤ 10) (htc : t.c = n) (hlen : l.length < 1000000) (hl : ∀ r ∈ l, RdOk2 t.c r) (hflr : fl ≤ rb) (hbn : bk < n0) (hmn : mp < n0) (hrn : rb < n0) (h1 : rb < bk) (h2 : bk < mp) (hfb : n0 ≤ n0) (hrow : Row Rd.enc 4 h0 rb p l) :
    ∀ (m i : Nat) (a : HAct) (h : Tr HBlk) (nx : Nat) (M : Mx) (seen : List Rd), m + i = l.length → n0 ≤ nx → D h nx → (∀ b, b < n0 → b ≠ bk → b ≠ mp → h.get b = h0.get b) → h.get rb = some (.cells (Zr 125) .exact) → h.get bk = some (.cells (bcells t M) .exact) → h.get mp = some (.map (seenL seen)) → Good n M →
      a.nt = 36 → a.defers = [] → a.tmp 4 = .ptr (some (rb, 0)) → a.tmp 6 = .ptr (some (bk, 0)) → a.tmp 8 = .map (some mp) → a.tmp 14 = .slice p l.length cp → a.tmp 15 = i64 l.length → a.tmp 16 = i64 i →
      (∀ a' h' n' M', n0 ≤ n' → readGo n seen (l.drop i) M = some M' → h'.get rb = some (.cells (Zr 125) .exact) → h'.get bk = some (.cells (bcells t M') .exact) → a'.nt = 36 → a'.defers = [] → a'.tmp 4 = .ptr (some (rb, 0)) → a'.tmp 6 = .ptr (some (bk, 0)) → Q .normal a' ⟨h', n'⟩) →
      (∀ a' h' n', n0 ≤ n' → readGo n seen (l.drop i) M = none → h'.get rb = some (.cells (Zr 125) .exact) → a'.nt = 36 → a'.defers = [] → a'.tmp 4 = .ptr (some (rb, 0)) → a'.tmp 5 = .bool false → Q .ret a' ⟨h', n'⟩) →
      W LW fl none (.loop L89w0) (inBlockH 0 Q) a ⟨h, nx⟩
  | 0, i, a, h, nx, M, seen, hm, hnx, hd, hs, hgr, hgb, hgm, hG, hnt, hds, h4, h6, h8, h14, h15, h16, hq, hr => by
    have hi : i = l.length := by omega
    subst hi
    refine w_it (show L89w0 = _ by unfold L89w0; exact rfl) ?_
    repeat' first
     | refine r_nil ?_
     | refine th_n ?_
     | refine th_e ?_
     | refine ib_e ?_
     | refine w_exit ?_
     | refine w_seq ?_
     | refine w_reg ?_
     | refine w_f (by simp (disch:=first|decide|(simp only[zF,zG,hnt, h4, h6, h8, h14, h15, h16];decide)) only [zA,zB,zC,zD,zE,zF,zG,zH,zI,zJ,zK,HV.cells,hnt, h4, h6, h8, h14, h15, h16]; first|done|exact rfl) ?_
     | refine r_lss (by simp (disch:=first|decide|(simp only[zF,zG,hnt, h4, h6, h8, h14, h15, h16];decide)) only [zA,zB,zC,zD,zE,zF,zG,zH,zI,zJ,zK,HV.cells,hnt, h4, h6, h8, h14, h15, h16]; try exact rfl) (by simp (disch:=first|decide|(simp only[zF,zG,hnt, h4, h6, h8, h14, h15, h16];decide)) only [zA,zB,zC,zD,zE,zF,zG,zH,zI,zJ,zK,HV.cells,hnt, h4, h6, h8, h14, h15, h16]; try exact rfl) (fun hc => ?_) (fun hc => ?_) <;> (try (exfalso; omega))
     | fail
    refine hq _ _ _ M hnx (by rw [List.drop_of_length_le (Nat.le_refl _)]; rfl) hgr hgb ?_ ?_ ?_ ?_
    all_goals first|(simp only [zL,zM,zF,zG,hnt, hds, h4, h6];done)|(simp (disch:=first|decide|(simp only[zF,zG,hnt, hds, h4, h6];decide)) only [zA,zB,zC,zD,zE,zF,zG,zH,zI,zJ,zK,HV.cells,hnt, hds, h4, h6];first|done|exact rfl)|assumption
  | m + 1, i, a, h, nx, M, seen, hm, hnx, hd, hs, hgr, hgb, hgm, hG, hnt, hds, h4, h6, h8, h14, h15, h16, hq, hr => by
    have hi : i < l.length := by omega
    have hrow0 := hrow
    obtain ⟨b, o, cs, kk, rfl, hb, hg0, hcs⟩ := hrow (by intro e; rw [e] at hi; simp at hi)
    have hg : h.get b = some (.cells cs kk) := by rw [hs b (by omega) (by omega) (by omega)]; exact hg0
    have hy : l[i]? = some l[i] := by simp [hi]
    have e0 := hcs i _ hy
    have hdrop := List.drop_eq_getElem_cons hi
    have ow : overwrite [i64 0, i64 0, i64 0, i64 0] 0 (HV.agg l[i].enc).cells = some l[i].enc := rfl
    have tk : takeN 4 (l[i].enc.drop 0) = some l[i].enc := rfl
    have hfs := find_seen l[i] seen
    have hkey := key_rd l[i]
    refine w_it (show L89w0 = _ by unfold L89w0; exact rfl) ?_
    by_cases hin : l[i] ∈ seen
    · rw [if_pos hin] at hfs
      repeat' first
       | refine r_nil ?_
       | refine th_n ?_
       | refine th_e ?_
       | refine ib_e ?_
       | refine w_exit ?_
       | refine w_seq ?_
       | refine w_reg ?_
       | refine w_skip ?_
       | refine w_block ?_
       | refine w_t (by simp (disch:=first|decide|(simp only[zF,zG,hnt, h4, h6, h8, h14, h15, h16, hgm];decide)) only [zA,zB,zC,zD,zE,zF,zG,zH,zI,zJ,zK,HV.cells,hnt, h4, h6, h8, h14, h15, h16, hgm]; first|done|exact rfl) ?_
       | refine r_move (by simp (disch:=first|decide|(simp only[zF,zG,hnt, h4, h6, h8, h14, h15, h16, hgm];decide)) only [zA,zB,zC,zD,zE,zF,zG,zH,zI,zJ,zK,HV.cells,hnt, h4, h6, h8, h14, h15, h16, hgm]; try exact rfl) ?_
       | refine r_ldn (by simp (disch:=first|decide|(simp only[zF,zG,hnt, h4, h6, h8, h14, h15, h16, hgm];decide)) only [zA,zB,zC,zD,zE,zF,zG,zH,zI,zJ,zK,HV.cells,hnt, h4, h6, h8, h14, h15, h16, hgm]; try exact rfl) (by first|assumption|(simp (disch:=omega) only [get_same,get_other,hnt, h4, h6, h8, h14, h15, h16, hgm]; first|done|exact rfl)) (by first|assumption|rfl|(simp only [zI,zJ,HV.cells,hnt, h4, h6, h8, h14, h15, h16, hgm]; exact rfl)) ?_
       | refine r_alloc ?_
       | refine r_st (cs' := _) (by simp (disch:=first|decide|(simp only[zF,zG,hnt, h4, h6, h8, h14, h15, h16, hgm];decide)) only [zA,zB,zC,zD,zE,zF,zG,zH,zI,zJ,zK,HV.cells,hnt, h4, h6, h8, h14, h15, h16, hgm]; try exact rfl) (by simp (disch:=first|decide|(simp only[zF,zG,hnt, h4, h6, h8, h14, h15, h16, hgm];decide)) only [zA,zB,zC,zD,zE,zF,zG,zH,zI,zJ,zK,HV.cells,hnt, h4, h6, h8, h14, h15, h16, hgm]; try exact rfl) (by first|assumption|(simp (disch:=omega) only [get_same,get_other,hnt, h4, h6, h8, h14, h15, h16, hgm]; first|done|exact rfl)) (by exact True.intro) (by rfl) (by rfl) (by first|assumption|rfl|(simp only [zI,zJ,HV.cells,hnt, h4, h6, h8, h14, h15, h16, hgm]; exact rfl)) (by omega) ?_
       | refine r_add (by simp (disch:=first|decide|(simp only[zF,zG,hnt, h4, h6, h8, h14, h15, h16, hgm];decide)) only [zA,zB,zC,zD,zE,zF,zG,zH,zI,zJ,zK,HV.cells,hnt, h4, h6, h8, h14, h15, h16, hgm]; try exact rfl) (by simp (disch:=first|decide|(simp only[zF,zG,hnt, h4, h6, h8, h14, h15, h16, hgm];decide)) only [zA,zB,zC,zD,zE,zF,zG,zH,zI,zJ,zK,HV.cells,hnt, h4, h6, h8, h14, h15, h16, hgm]; try exact rfl) (by omega) (by omega) ?_
       | refine r_lss (by simp (disch:=first|decide|(simp only[zF,zG,hnt, h4, h6, h8, h14, h15, h16, hgm];decide)) only [zA,zB,zC,zD,zE,zF,zG,zH,zI,zJ,zK,HV.cells,hnt, h4, h6, h8, h14, h15, h16, hgm]; try exact rfl) (by simp (disch:=first|decide|(simp only[zF,zG,hnt, h4, h6, h8, h14, h15, h16, hgm];decide)) only [zA,zB,zC,zD,zE,zF,zG,zH,zI,zJ,zK,HV.cells,hnt, h4, h6, h8, h14, h15, h16, hgm]; try exact rfl) (fun hc => ?_) (fun hc => ?_) <;> (try (exfalso; omega))
       | refine r_ixs (by simp (disch:=first|decide|(simp only[zF,zG,hnt, h4, h6, h8, h14, h15, h16, hgm];decide)) only [zA,zB,zC,zD,zE,zF,zG,zH,zI,zJ,zK,HV.cells,hnt, h4, h6, h8, h14, h15, h16, hgm]; try exact rfl) (by simp (disch:=first|decide|(simp only[zF,zG,hnt, h4, h6, h8, h14, h15, h16, hgm];decide)) only [zA,zB,zC,zD,zE,zF,zG,zH,zI,zJ,zK,HV.cells,hnt, h4, h6, h8, h14, h15, h16, hgm]; try exact rfl) (by omega) ?_
       | refine r_lku (o := some (.bool true)) (kv := .agg l[i].enc) (r := mp) (es := seenL seen) (by simp (disch:=first|decide|(simp only[zF,zG,hnt, h4, h6, h8, h14, h15, h16, hgm];decide)) only [zA,zB,zC,zD,zE,zF,zG,zH,zI,zJ,zK,HV.cells,hnt, h4, h6, h8, h14, h15, h16, hgm]; try exact rfl) (by simp (disch:=first|decide|(simp only[zF,zG,hnt, h4, h6, h8, h14, h15, h16, hgm];decide)) only [zA,zB,zC,zD,zE,zF,zG,zH,zI,zJ,zK,HV.cells,hnt, h4, h6, h8, h14, h15, h16, hgm]; try exact rfl) hkey (by first|assumption|(simp (disch:=omega) only [get_same,get_other,hnt, h4, h6, h8, h14, h15, h16, hgm]; first|done|exact rfl)) hfs ?_
       | fail
      have e5 : readGo n seen (l.drop i) M = readGo n seen (l.drop (i + 1)) M := by rw [hdrop]; show (if _ then _ else _) = _; rw [if_pos hin]
      refine loop89 (cp := cp) (bk := bk) (mp := mp) (rb := rb) (t := t) hn htc hlen hl hflr hbn hmn hrn h1 h2 hfb hrow0 m (i + 1) _ _ (nx + 1) M seen (by omega) (by omega) (by repeat' first|assumption|refine D.upd ?_ (by omega)|exact D.mono (by assumption) (by omega)) (fun b hb hb1 hb2 => ?_) (by first|assumption|(simp (disch:=omega) only [get_same,get_other,hgr]; first|done|exact rfl)) (by first|assumption|(simp (disch:=omega) only [get_same,get_other,hgb]; first|done|exact rfl)) (by first|assumption|(simp (disch:=omega) only [get_same,get_other,hgm]; first|done|exact rfl)) hG ?_ ?_ ?_ ?_ ?_ ?_ ?_ ?_ (fun a' h' n' M' g0 g1 => hq a' h' n' M' g0 (by rw [e5]; exact g1)) (fun a' h' n' g0 g1 => hr a' h' n' g0 (by rw [e5]; exact g1))
      all_goals try first|(simp only [zL,zM,zF,zG,hnt, hds, h4, h6, h8, h14, h15, h16];done)|(simp (disch:=first|decide|(simp only[zF,zG,hnt, hds, h4, h6, h8, h14, h15, h16];decide)) only [zA,zB,zC,zD,zE,zF,zG,zH,zI,zJ,zK,HV.cells,hnt, hds, h4, h6, h8, h14, h15, h16];first|done|exact rfl)|assumption
      rw [get_other _ _ (by omega), get_other _ _ (by omega)]; exact hs b hb hb1 hb2
    · rw [if_neg hin] at hfs
      have hus := upd_seen l[i] seen hin
      have hmo : mp ≠ nx := by omega
      have e5 : readGo n seen (l.drop i) M = (match withM n l[i] M with | some M' => readGo n (seen ++ [l[i]]) (l.drop (i + 1)) M' | none => none) := by rw [hdrop]; show (if _ then _ else _) = _; rw [if_neg hin]
      have tkb := take_bc t M
      have ow2 : overwrite (Zr 125) 0 (HV.agg (Zr 125)).cells = some (Zr 125) := ow_all _ _ rfl
      cases hW : withM n l[i] M with
      | none =>
        rw [hW] at e5
        have cW : ∀ fl h' n', D h' n' → C LW fl 96 [.agg (bcells t M), .agg l[i].enc] ⟨h', n'⟩ (Sc (· = .tuple [.agg (Zr 125), .bool false]) ⟨h', n'⟩) := fun fl h' n' hd' => by
          have := c_withM (fl := fl) (M := M) hn htc hG (hl _ (List.getElem_mem hi)) hd'
          rw [hW] at this; exact this
        have ow1 : overwrite (bcells t M) 0 (HV.agg (Zr 125)).cells = some (Zr 125) := ow_all _ _ (by show (bcells t M).length = (Zr 125).length; rw [bc_len, zr_len])
        repeat' first
         | refine r_nil ?_
         | refine th_n ?_
         | refine th_r ?_
         | refine ib_r ?_
         | refine w_seq ?_
         | refine w_reg ?_
         | refine w_ret ?_
         | refine w_skip ?_
         | refine w_block ?_
         | refine w_t (by simp (disch:=first|decide|(simp only[zF,zG,hnt, h4, h6, h8, h14, h15, h16, hgm, hgb, hgr];decide)) only [zA,zB,zC,zD,zE,zF,zG,zH,zI,zJ,zK,HV.cells,hnt, h4, h6, h8, h14, h15, h16, hgm, hgb, hgr]; first|done|exact rfl) ?_
         | refine w_f (by simp (disch:=first|decide|(simp only[zF,zG,hnt, h4, h6, h8, h14, h15, h16, hgm, hgb, hgr];decide)) only [zA,zB,zC,zD,zE,zF,zG,zH,zI,zJ,zK,HV.cells,hnt, h4, h6, h8, h14, h15, h16, hgm, hgb, hgr]; first|done|exact rfl) ?_
         | refine r_move (by simp (disch:=first|decide|(simp only[zF,zG,hnt, h4, h6, h8, h14, h15, h16, hgm, hgb, hgr];decide)) only [zA,zB,zC,zD,zE,zF,zG,zH,zI,zJ,zK,HV.cells,hnt, h4, h6, h8, h14, h15, h16, hgm, hgb, hgr]; try exact rfl) ?_
         | refine r_ldn (by simp (disch:=first|decide|(simp only[zF,zG,hnt, h4, h6, h8, h14, h15, h16, hgm, hgb, hgr];decide)) only [zA,zB,zC,zD,zE,zF,zG,zH,zI,zJ,zK,HV.cells,hnt, h4, h6, h8, h14, h15, h16, hgm, hgb, hgr]; try exact rfl) (by first|assumption|(simp (disch:=omega) only [get_same,get_other,hnt, h4, h6, h8, h14, h15, h16, hgm, hgb, hgr]; first|done|exact rfl)) (by first|assumption|rfl|(simp only [zI,zJ,HV.cells,hnt, h4, h6, h8, h14, h15, h16, hgm, hgb, hgr]; exact rfl)) ?_
         | refine r_alloc ?_
         | refine r_st (cs' := _) (by simp (disch:=first|decide|(simp only[zF,zG,hnt, h4, h6, h8, h14, h15, h16, hgm, hgb, hgr];decide)) only [zA,zB,zC,zD,zE,zF,zG,zH,zI,zJ,zK,HV.cells,hnt, h4, h6, h8, h14, h15, h16, hgm, hgb, hgr]; try exact rfl) (by simp (disch:=first|decide|(simp only[zF,zG,hnt, h4, h6, h8, h14, h15, h16, hgm, hgb, hgr];decide)) only [zA,zB,zC,zD,zE,zF,zG,zH,zI,zJ,zK,HV.cells,hnt, h4, h6, h8, h14, h15, h16, hgm, hgb, hgr]; try exact rfl) (by first|assumption|(simp (disch:=omega) only [get_same,get_other,hnt, h4, h6, h8, h14, h15, h16, hgm, hgb, hgr]; first|done|exact rfl)) (by exact True.intro) (by rfl) (by rfl) (by first|assumption|rfl|(simp only [zI,zJ,HV.cells,hnt, h4, h6, h8, h14, h15, h16, hgm, hgb, hgr]; exact rfl)) (by omega) ?_
         | refine r_lss (by simp (disch:=first|decide|(simp only[zF,zG,hnt, h4, h6, h8, h14, h15, h16, hgm, hgb, hgr];decide)) only [zA,zB,zC,zD,zE,zF,zG,zH,zI,zJ,zK,HV.cells,hnt, h4, h6, h8, h14, h15, h16, hgm, hgb, hgr]; try exact rfl) (by simp (disch:=first|decide|(simp only[zF,zG,hnt, h4, h6, h8, h14, h15, h16, hgm, hgb, hgr];decide)) only [zA,zB,zC,zD,zE,zF,zG,zH,zI,zJ,zK,HV.cells,hnt, h4, h6, h8, h14, h15, h16, hgm, hgb, hgr]; try exact rfl) (fun hc => ?_) (fun hc => ?_) <;> (try (exfalso; omega))
         | refine r_not1 (by simp (disch:=first|decide|(simp only[zF,zG,hnt, h4, h6, h8, h14, h15, h16, hgm, hgb, hgr];decide)) only [zA,zB,zC,zD,zE,zF,zG,zH,zI,zJ,zK,HV.cells,hnt, h4, h6, h8, h14, h15, h16, hgm, hgb, hgr]; try exact rfl) ?_
         | refine r_ixs (by simp (disch:=first|decide|(simp only[zF,zG,hnt, h4, h6, h8, h14, h15, h16, hgm, hgb, hgr];decide)) only [zA,zB,zC,zD,zE,zF,zG,zH,zI,zJ,zK,HV.cells,hnt, h4, h6, h8, h14, h15, h16, hgm, hgb, hgr]; try exact rfl) (by simp (disch:=first|decide|(simp only[zF,zG,hnt, h4, h6, h8, h14, h15, h16, hgm, hgb, hgr];decide)) only [zA,zB,zC,zD,zE,zF,zG,zH,zI,zJ,zK,HV.cells,hnt, h4, h6, h8, h14, h15, h16, hgm, hgb, hgr]; try exact rfl) (by omega) ?_
         | refine r_ext (by simp (disch:=first|decide|(simp only[zF,zG,hnt, h4, h6, h8, h14, h15, h16, hgm, hgb, hgr];decide)) only [zA,zB,zC,zD,zE,zF,zG,zH,zI,zJ,zK,HV.cells,hnt, h4, h6, h8, h14, h15, h16, hgm, hgb, hgr]; try exact rfl) (by first|assumption|rfl|(simp only [zI,zJ,HV.cells,hnt, h4, h6, h8, h14, h15, h16, hgm, hgb, hgr]; exact rfl)) ?_
         | refine r_build (by simp (disch:=first|decide|(simp only[zF,zG,hnt, h4, h6, h8, h14, h15, h16, hgm, hgb, hgr];decide)) only [evParts,List.map_cons,List.map_nil,List.nil_append,List.cons_append,List.append_nil,zA,zB,zC,zD,zE,zF,zG,zH,zI,zJ,zK,HV.cells,hnt, h4, h6, h8, h14, h15, h16, hgm, hgb, hgr]; try exact rfl) ?_
         | refine r_lku (o := none) (kv := .agg l[i].enc) (r := mp) (es := seenL seen) (by simp (disch:=first|decide|(simp only[zF,zG,hnt, h4, h6, h8, h14, h15, h16, hgm, hgb, hgr];decide)) only [zA,zB,zC,zD,zE,zF,zG,zH,zI,zJ,zK,HV.cells,hnt, h4, h6, h8, h14, h15, h16, hgm, hgb, hgr]; try exact rfl) (by simp (disch:=first|decide|(simp only[zF,zG,hnt, h4, h6, h8, h14, h15, h16, hgm, hgb, hgr];decide)) only [zA,zB,zC,zD,zE,zF,zG,zH,zI,zJ,zK,HV.cells,hnt, h4, h6, h8, h14, h15, h16, hgm, hgb, hgr]; try exact rfl) hkey (by first|assumption|(simp (disch:=omega) only [get_same,get_other,hnt, h4, h6, h8, h14, h15, h16, hgm, hgb, hgr]; first|done|exact rfl)) hfs ?_
         | refine r_mup (kv := .agg l[i].enc) (vv := .bool true) (r := mp) (es := seenL seen) (by simp (disch:=first|decide|(simp only[zF,zG,hnt, h4, h6, h8, h14, h15, h16, hgm, hgb, hgr];decide)) only [zA,zB,zC,zD,zE,zF,zG,zH,zI,zJ,zK,HV.cells,hnt, h4, h6, h8, h14, h15, h16, hgm, hgb, hgr]; try exact rfl) (by simp (disch:=first|decide|(simp only[zF,zG,hnt, h4, h6, h8, h14, h15, h16, hgm, hgb, hgr];decide)) only [zA,zB,zC,zD,zE,zF,zG,zH,zI,zJ,zK,HV.cells,hnt, h4, h6, h8, h14, h15, h16, hgm, hgb, hgr]; try exact rfl) (by simp (disch:=first|decide|(simp only[zF,zG,hnt, h4, h6, h8, h14, h15, h16, hgm, hgb, hgr];decide)) only [zA,zB,zC,zD,zE,zF,zG,zH,zI,zJ,zK,HV.cells,hnt, h4, h6, h8, h14, h15, h16, hgm, hgb, hgr]; try exact rfl) hkey (by first|assumption|(simp (disch:=omega) only [get_same,get_other,hnt, h4, h6, h8, h14, h15, h16, hgm, hgb, hgr]; first|done|exact rfl)) (by omega) hus ?_
         | refine r_calls (by simp (disch:=first|decide|(simp only[zF,zG,hnt, h4, h6, h8, h14, h15, h16, hgm, hgb, hgr];decide)) only [zA,zB,zC,zD,zE,zF,zG,zH,zI,zJ,zK,HV.cells,hnt, h4, h6, h8, h14, h15, h16, hgm, hgb, hgr]; try exact rfl) (by simp (disch:=first|decide|(simp only[zF,zG,hnt, h4, h6, h8, h14, h15, h16, hgm, hgb, hgr];decide)) only [List.map_cons,List.map_nil,List.nil_append,List.cons_append,List.append_nil,zA,zB,zC,zD,zE,zF,zG,zH,zI,zJ,zK,HV.cells,hnt, h4, h6, h8, h14, h15, h16, hgm, hgb, hgr]; try exact rfl) (cW _ _ _ (by repeat' first|assumption|refine D.upd ?_ (by omega)|exact D.mono (by assumption) (by omega))) (fun n' hn' => ?_)
         | fail
        refine hr _ _ n' (by omega) e5 (get_same _ _ _) ?_ ?_ ?_ ?_
        all_goals first|(simp only [zL,zM,zF,zG,hnt, hds, h4];done)|(simp (disch:=first|decide|(simp only[zF,zG,hnt, hds, h4];decide)) only [zA,zB,zC,zD,zE,zF,zG,zH,zI,zJ,zK,HV.cells,hnt, hds, h4];first|done|exact rfl)|assumption
      | some M1 =>
        rw [hW] at e5
        have cW : ∀ fl h' n', D h' n' → C LW fl 96 [.agg (bcells t M), .agg l[i].enc] ⟨h', n'⟩ (Sc (· = .tuple [.agg (bcells t M1), .bool true]) ⟨h', n'⟩) := fun fl h' n' hd' => by
          have := c_withM (fl := fl) (M := M) hn htc hG (hl _ (List.getElem_mem hi)) hd'
          rw [hW] at this; exact this
        have ow1 : overwrite (bcells t M) 0 (HV.agg (bcells t M1)).cells = some (bcells t M1) := ow_all _ _ (by show (bcells t M).length = (bcells t M1).length; rw [bc_len, bc_len])
        have hr1 := hl _ (List.getElem_mem hi)
        rw [htc] at hr1
        have hG1 := withM_good hG hr1 hW
        repeat' first
         | refine r_nil ?_
         | refine th_n ?_
         | refine ib_n ?_
         | refine w_seq ?_
         | refine w_reg ?_
         | refine w_skip ?_
         | refine w_block ?_
         | refine w_t (by simp (disch:=first|decide|(simp only[zF,zG,hnt, h4, h6, h8, h14, h15, h16, hgm, hgb, hgr];decide)) only [zA,zB,zC,zD,zE,zF,zG,zH,zI,zJ,zK,HV.cells,hnt, h4, h6, h8, h14, h15, h16, hgm, hgb, hgr]; first|done|exact rfl) ?_
         | refine w_f (by simp (disch:=first|decide|(simp only[zF,zG,hnt, h4, h6, h8, h14, h15, h16, hgm, hgb, hgr];decide)) only [zA,zB,zC,zD,zE,zF,zG,zH,zI,zJ,zK,HV.cells,hnt, h4, h6, h8, h14, h15, h16, hgm, hgb, hgr]; first|done|exact rfl) ?_
         | refine r_move (by simp (disch:=first|decide|(simp only[zF,zG,hnt, h4, h6, h8, h14, h15, h16, hgm, hgb, hgr];decide)) only [zA,zB,zC,zD,zE,zF,zG,zH,zI,zJ,zK,HV.cells,hnt, h4, h6, h8, h14, h15, h16, hgm, hgb, hgr]; try exact rfl) ?_
         | refine r_ldn (by simp (disch:=first|decide|(simp only[zF,zG,hnt, h4, h6, h8, h14, h15, h16, hgm, hgb, hgr];decide)) only [zA,zB,zC,zD,zE,zF,zG,zH,zI,zJ,zK,HV.cells,hnt, h4, h6, h8, h14, h15, h16, hgm, hgb, hgr]; try exact rfl) (by first|assumption|(simp (disch:=omega) only [get_same,get_other,hnt, h4, h6, h8, h14, h15, h16, hgm, hgb, hgr]; first|done|exact rfl)) (by first|assumption|rfl|(simp only [zI,zJ,HV.cells,hnt, h4, h6, h8, h14, h15, h16, hgm, hgb, hgr]; exact rfl)) ?_
         | refine r_alloc ?_
         | refine r_st (cs' := _) (by simp (disch:=first|decide|(simp only[zF,zG,hnt, h4, h6, h8, h14, h15, h16, hgm, hgb, hgr];decide)) only [zA,zB,zC,zD,zE,zF,zG,zH,zI,zJ,zK,HV.cells,hnt, h4, h6, h8, h14, h15, h16, hgm, hgb, hgr]; try exact rfl) (by simp (disch:=first|decide|(simp only[zF,zG,hnt, h4, h6, h8, h14, h15, h16, hgm, hgb, hgr];decide)) only [zA,zB,zC,zD,zE,zF,zG,zH,zI,zJ,zK,HV.cells,hnt, h4, h6, h8, h14, h15, h16, hgm, hgb, hgr]; try exact rfl) (by first|assumption|(simp (disch:=omega) only [get_same,get_other,hnt, h4, h6, h8, h14, h15, h16, hgm, hgb, hgr]; first|done|exact rfl)) (by exact True.intro) (by rfl) (by rfl) (by first|assumption|rfl|(simp only [zI,zJ,HV.cells,hnt, h4, h6, h8, h14, h15, h16, hgm, hgb, hgr]; exact rfl)) (by omega) ?_
         | refine r_add (by simp (disch:=first|decide|(simp only[zF,zG,hnt, h4, h6, h8, h14, h15, h16, hgm, hgb, hgr];decide)) only [zA,zB,zC,zD,zE,zF,zG,zH,zI,zJ,zK,HV.cells,hnt, h4, h6, h8, h14, h15, h16, hgm, hgb, hgr]; try exact rfl) (by simp (disch:=first|decide|(simp only[zF,zG,hnt, h4, h6, h8, h14, h15, h16, hgm, hgb, hgr];decide)) only [zA,zB,zC,zD,zE,zF,zG,zH,zI,zJ,zK,HV.cells,hnt, h4, h6, h8, h14, h15, h16, hgm, hgb, hgr]; try exact rfl) (by omega) (by omega) ?_
         | refine r_lss (by simp (disch:=first|decide|(simp only[zF,zG,hnt, h4, h6, h8, h14, h15, h16, hgm, hgb, hgr];decide)) only [zA,zB,zC,zD,zE,zF,zG,zH,zI,zJ,zK,HV.cells,hnt, h4, h6, h8, h14, h15, h16, hgm, hgb, hgr]; try exact rfl) (by simp (disch:=first|decide|(simp only[zF,zG,hnt, h4, h6, h8, h14, h15, h16, hgm, hgb, hgr];decide)) only [zA,zB,zC,zD,zE,zF,zG,zH,zI,zJ,zK,HV.cells,hnt, h4, h6, h8, h14, h15, h16, hgm, hgb, hgr]; try exact rfl) (fun hc => ?_) (fun hc => ?_) <;> (try (exfalso; omega))
         | refine r_not1 (by simp (disch:=first|decide|(simp only[zF,zG,hnt, h4, h6, h8, h14, h15, h16, hgm, hgb, hgr];decide)) only [zA,zB,zC,zD,zE,zF,zG,zH,zI,zJ,zK,HV.cells,hnt, h4, h6, h8, h14, h15, h16, hgm, hgb, hgr]; try exact rfl) ?_
         | refine r_ixs (by simp (disch:=first|decide|(simp only[zF,zG,hnt, h4, h6, h8, h14, h15, h16, hgm, hgb, hgr];decide)) only [zA,zB,zC,zD,zE,zF,zG,zH,zI,zJ,zK,HV.cells,hnt, h4, h6, h8, h14, h15, h16, hgm, hgb, hgr]; try exact rfl) (by simp (disch:=first|decide|(simp only[zF,zG,hnt, h4, h6, h8, h14, h15, h16, hgm, hgb, hgr];decide)) only [zA,zB,zC,zD,zE,zF,zG,zH,zI,zJ,zK,HV.cells,hnt, h4, h6, h8, h14, h15, h16, hgm, hgb, hgr]; try exact rfl) (by omega) ?_
         | refine r_ext (by simp (disch:=first|decide|(simp only[zF,zG,hnt, h4, h6, h8, h14, h15, h16, hgm, hgb, hgr];decide)) only [zA,zB,zC,zD,zE,zF,zG,zH,zI,zJ,zK,HV.cells,hnt, h4, h6, h8, h14, h15, h16, hgm, hgb, hgr]; try exact rfl) (by first|assumption|rfl|(simp only [zI,zJ,HV.cells,hnt, h4, h6, h8, h14, h15, h16, hgm, hgb, hgr]; exact rfl)) ?_
         | refine r_lku (o := none) (kv := .agg l[i].enc) (r := mp) (es := seenL seen) (by simp (disch:=first|decide|(simp only[zF,zG,hnt, h4, h6, h8, h14, h15, h16, hgm, hgb, hgr];decide)) only [zA,zB,zC,zD,zE,zF,zG,zH,zI,zJ,zK,HV.cells,hnt, h4, h6, h8, h14, h15, h16, hgm, hgb, hgr]; try exact rfl) (by simp (disch:=first|decide|(simp only[zF,zG,hnt, h4, h6, h8, h14, h15, h16, hgm, hgb, hgr];decide)) only [zA,zB,zC,zD,zE,zF,zG,zH,zI,zJ,zK,HV.cells,hnt, h4, h6, h8, h14, h15, h16, hgm, hgb, hgr]; try exact rfl) hkey (by first|assumption|(simp (disch:=omega) only [get_same,get_other,hnt, h4, h6, h8, h14, h15, h16, hgm, hgb, hgr]; first|done|exact rfl)) hfs ?_
         | refine r_mup (kv := .agg l[i].enc) (vv := .bool true) (r := mp) (es := seenL seen) (by simp (disch:=first|decide|(simp only[zF,zG,hnt, h4, h6, h8, h14, h15, h16, hgm, hgb, hgr];decide)) only [zA,zB,zC,zD,zE,zF,zG,zH,zI,zJ,zK,HV.cells,hnt, h4, h6, h8, h14, h15, h16, hgm, hgb, hgr]; try exact rfl) (by simp (disch:=first|decide|(simp only[zF,zG,hnt, h4, h6, h8, h14, h15, h16, hgm, hgb, hgr];decide)) only [zA,zB,zC,zD,zE,zF,zG,zH,zI,zJ,zK,HV.cells,hnt, h4, h6, h8, h14, h15, h16, hgm, hgb, hgr]; try exact rfl) (by simp (disch:=first|decide|(simp only[zF,zG,hnt, h4, h6, h8, h14, h15, h16, hgm, hgb, hgr];decide)) only [zA,zB,zC,zD,zE,zF,zG,zH,zI,zJ,zK,HV.cells,hnt, h4, h6, h8, h14, h15, h16, hgm, hgb, hgr]; try exact rfl) hkey (by first|assumption|(simp (disch:=omega) only [get_same,get_other,hnt, h4, h6, h8, h14, h15, h16, hgm, hgb, hgr]; first|done|exact rfl)) (by omega) hus ?_
         | refine r_calls (by simp (disch:=first|decide|(simp only[zF,zG,hnt, h4, h6, h8, h14, h15, h16, hgm, hgb, hgr];decide)) only [zA,zB,zC,zD,zE,zF,zG,zH,zI,zJ,zK,HV.cells,hnt, h4, h6, h8, h14, h15, h16, hgm, hgb, hgr]; try exact rfl) (by simp (disch:=first|decide|(simp only[zF,zG,hnt, h4, h6, h8, h14, h15, h16, hgm, hgb, hgr];decide)) only [List.map_cons,List.map_nil,List.nil_append,List.cons_append,List.append_nil,zA,zB,zC,zD,zE,zF,zG,zH,zI,zJ,zK,HV.cells,hnt, h4, h6, h8, h14, h15, h16, hgm, hgb, hgr]; try exact rfl) (cW _ _ _ (by repeat' first|assumption|refine D.upd ?_ (by omega)|exact D.mono (by assumption) (by omega))) (fun n' hn' => ?_)
         | fail
        refine loop89 (cp := cp) (bk := bk) (mp := mp) (rb := rb) (t := t) hn htc hlen hl hflr hbn hmn hrn h1 h2 hfb hrow0 m (i + 1) _ _ n' M1 (seen ++ [l[i]]) (by omega) (by omega) (by repeat' first|assumption|refine D.upd ?_ (by omega)|exact D.mono (by assumption) (by omega)) (fun b hb hb1 hb2 => ?_) (by first|assumption|(simp (disch:=omega) only [get_same,get_other,hgr]; first|done|exact rfl)) (by first|assumption|(simp (disch:=omega) only [get_same,get_other]; first|done|exact rfl)) (by first|assumption|(simp (disch:=omega) only [get_same,get_other]; first|done|exact rfl)) hG1 ?_ ?_ ?_ ?_ ?_ ?_ ?_ ?_ (fun a' h' n' M' g0 g1 => hq a' h' n' M' g0 (by rw [e5]; exact g1)) (fun a' h' n' g0 g1 => hr a' h' n' g0 (by rw [e5]; exact g1))
        all_goals try first|(simp only [zL,zM,zF,zG,hnt, hds, h4, h6, h8, h14, h15, h16];done)|(simp (disch:=first|decide|(simp only[zF,zG,hnt, hds, h4, h6, h8, h14, h15, h16];decide)) only [zA,zB,zC,zD,zE,zF,zG,zH,zI,zJ,zK,HV.cells,hnt, hds, h4, h6, h8, h14, h15, h16];first|done|exact rfl)|assumption
        rw [get_other _ _ (by omega), get_other _ _ (by omega), get_other _ _ (by omega), get_other _ _ (by omega)]; exact hs b hb hb1 hb2
theorem unr_ok {n : Nat} {t : Tb} (htc : t.c = n) (ht : TubeOk t.c t.t t.a t.b) : 1 ≤ n ∧ n ≤ 10 ∧ Good n (unrM n t) := by
  unfold TubeOk at ht
  rw [htc] at ht
  exact ⟨by omega, by omega, (unr_eq (by omega) (by omega) (by omega) (by omega) (by omega) (by omega) (by omega)).2.2⟩
theorem c_read {fl : Nat} {h : Tr HBlk} {nx : Nat} (hd : D h nx) {t : Tb} {n : Nat} {p : Option (Nat × Nat)} {l : List Rd} {m cp : Nat} (htc : t.c = n) (ht : TubeOk t.c t.t t.a t.b) (hm : m = l.length) (hlen : l.length < 1000000) (hl : ∀ r ∈ l, RdOk2 t.c r) (hrow : Row Rd.enc 4 h nx p l) :
    C LW fl 89 [.agg t.cells, .slice p m cp] ⟨h, nx⟩ (Sc (· = withO t (readO t n l)) ⟨h, nx⟩) := by
  subst hm
  obtain ⟨hn1, hn, hG⟩ := unr_ok htc ht
  have hT := ht
  unfold TubeOk at hT
  have m1 := mulr (c := t.c) (b := t.a) (by omega) (by omega)
  have tk : takeN 4 (t.cells.drop 0) = some t.cells := rfl
  have ow0 : overwrite (Zr 125) 0 (HV.agg (bcells t (unrM n t))).cells = some (bcells t (unrM n t)) := ow_bc t (unrM n t)
  have cU : ∀ fl h' n', D h' n' → C LW fl 97 [.agg t.cells] ⟨h', n'⟩ (Sc (· = .agg (bcells t (unrM n t))) ⟨h', n'⟩) := fun fl h' n' hd' => c_unread lw97 lw100 lw88 hn htc (by omega) (by omega) (by omega) hd'
  refine c_in lw89 rfl rfl rfl ?_
  dsimp only [L89]
  repeat' first
   | refine r_nil ?_
   | refine th_n ?_
   | refine w_seq ?_
   | refine w_reg ?_
   | refine w_block ?_
   | refine r_move (by simp (disch:=first|decide|(simp only[zF,zG];decide)) only [zA,zB,zC,zD,zE,zF,zG,zH,zI,zJ,zK,HV.cells]; try exact rfl) ?_
   | refine r_ldn (by simp (disch:=first|decide|(simp only[zF,zG];decide)) only [zA,zB,zC,zD,zE,zF,zG,zH,zI,zJ,zK,HV.cells]; try exact rfl) (by first|assumption|(simp (disch:=omega) only [get_same,get_other]; first|done|exact rfl)) (by first|assumption|rfl|(simp only [zI,zJ,HV.cells]; exact rfl)) ?_
   | refine r_box (by simp (disch:=first|decide|(simp only[zF,zG];decide)) only [zA,zB,zC,zD,zE,zF,zG,zH,zI,zJ,zK,HV.cells]; try exact rfl) ?_
   | refine r_alloc ?_
   | refine r_st (cs' := _) (by simp (disch:=first|decide|(simp only[zF,zG];decide)) only [zA,zB,zC,zD,zE,zF,zG,zH,zI,zJ,zK,HV.cells]; try exact rfl) (by simp (disch:=first|decide|(simp only[zF,zG];decide)) only [zA,zB,zC,zD,zE,zF,zG,zH,zI,zJ,zK,HV.cells]; try exact rfl) (by first|assumption|(simp (disch:=omega) only [get_same,get_other]; first|done|exact rfl)) (by exact True.intro) (by rfl) (by rfl) (by first|assumption|rfl|(simp only [zI,zJ,HV.cells]; exact rfl)) (by omega) ?_
   | refine r_len (by simp (disch:=first|decide|(simp only[zF,zG];decide)) only [zA,zB,zC,zD,zE,zF,zG,zH,zI,zJ,zK,HV.cells]; try exact rfl) ?_
   | refine r_mm ?_
   | refine r_calls (by simp (disch:=first|decide|(simp only[zF,zG];decide)) only [zA,zB,zC,zD,zE,zF,zG,zH,zI,zJ,zK,HV.cells]; try exact rfl) (by simp (disch:=first|decide|(simp only[zF,zG];decide)) only [List.map_cons,List.map_nil,List.nil_append,List.cons_append,List.append_nil,zA,zB,zC,zD,zE,zF,zG,zH,zI,zJ,zK,HV.cells]; try exact rfl) (cU _ _ _ (by repeat' first|assumption|refine D.upd ?_ (by omega)|exact D.mono (by assumption) (by omega))) (fun n' hn' => ?_)
   | fail
  have hrow1 : Row Rd.enc 4 (((((h.set nx (some (.cells t.cells .exact))).set (nx + 1) (some (.cells (Zr 125) .exact))).set n' (some (.cells (Zr 125) .exact))).set n' (some (.cells (bcells t (unrM n t)) .exact))).set (n' + 1) (some (.map []))) (nx + 1) p l := by
    intro hne
    obtain ⟨b, o, cs, k, e, hb, hg, hc⟩ := hrow hne
    exact ⟨b, o, cs, k, e, by omega, by rw [get_other _ _ (by omega), get_other _ _ (by omega), get_other _ _ (by omega), get_other _ _ (by omega), get_other _ _ (by omega)]; exact hg, hc⟩
  refine loop89 (cp := cp) (bk := n') (mp := n' + 1) (rb := nx + 1) (t := t) (n0 := n' + 1 + 1) hn htc hlen hl (by omega) (by omega) (by omega) (by omega) (by omega) (by omega) (Nat.le_refl _) hrow1 l.length 0 _ _ (n' + 1 + 1) (unrM n t) [] (by omega) (Nat.le_refl _) (by repeat' first|assumption|refine D.upd ?_ (by omega)|exact D.mono (by assumption) (by omega)) (fun b _ _ _ => rfl) (by first|assumption|(simp (disch:=omega) only [get_same,get_other]; first|done|exact rfl)) (by first|assumption|(simp (disch:=omega) only [get_same,get_other]; first|done|exact rfl)) (by first|assumption|(simp (disch:=omega) only [get_same,get_other]; first|done|exact rfl)) hG ?_ ?_ ?_ ?_ ?_ ?_ ?_ ?_ (fun a' h' n2 M' g0 g1 g2 g3 g4 g5 g6 g7 => ?_) (fun a' h' n2 g0 g1 g2 g4 g5 g6 g7 => ?_)
  all_goals try first|(simp only [zL,zM,zF,zG];done)|(simp (disch:=first|decide|(simp only[zF,zG];decide)) only [zA,zB,zC,zD,zE,zF,zG,zH,zI,zJ,zK,HV.cells];first|done|exact rfl)|assumption
  · have tkb := take_bc t M'
    have owb := ow_bc t M'
    have e : readO t n l = some M' := by unfold readO; simpa using g1
    repeat' first
     | refine r_nil ?_
     | refine th_n ?_
     | refine w_seq ?_
     | refine w_reg ?_
     | refine w_ret ?_
     | refine r_move (by simp (disch:=first|decide|(simp only[zF,zG,g4, g6, g7, g2, g3];decide)) only [zA,zB,zC,zD,zE,zF,zG,zH,zI,zJ,zK,HV.cells,g4, g6, g7, g2, g3]; try exact rfl) ?_
     | refine r_ldn (by simp (disch:=first|decide|(simp only[zF,zG,g4, g6, g7, g2, g3];decide)) only [zA,zB,zC,zD,zE,zF,zG,zH,zI,zJ,zK,HV.cells,g4, g6, g7, g2, g3]; try exact rfl) (by first|assumption|(simp (disch:=omega) only [get_same,get_other,g4, g6, g7, g2, g3]; first|done|exact rfl)) (by first|assumption|rfl|(simp only [zI,zJ,HV.cells,g4, g6, g7, g2, g3]; exact rfl)) ?_
     | refine r_st (cs' := _) (by simp (disch:=first|decide|(simp only[zF,zG,g4, g6, g7, g2, g3];decide)) only [zA,zB,zC,zD,zE,zF,zG,zH,zI,zJ,zK,HV.cells,g4, g6, g7, g2, g3]; try exact rfl) (by simp (disch:=first|decide|(simp only[zF,zG,g4, g6, g7, g2, g3];decide)) only [zA,zB,zC,zD,zE,zF,zG,zH,zI,zJ,zK,HV.cells,g4, g6, g7, g2, g3]; try exact rfl) (by first|assumption|(simp (disch:=omega) only [get_same,get_other,g4, g6, g7, g2, g3]; first|done|exact rfl)) (by exact True.intro) (by rfl) (by rfl) (by first|assumption|rfl|(simp only [zI,zJ,HV.cells,g4, g6, g7, g2, g3]; exact rfl)) (by omega) ?_
     | fail
    refine fin_m (by simp only [zL, g5]) (res_c (by simp (disch:=first|decide|(simp only[zF,zG,g4, g6];decide)) only [zA,zB,zC,zD,zE,zF,zG,zH,zI,zJ,zK,HV.cells,g4, g6]; try exact rfl) (by first|assumption|(simp (disch:=omega) only [get_same,get_other]; first|done|exact rfl)) tkb (res_t (by simp (disch:=first|decide|(simp only[zF,zG,g4];decide)) only [zA,zB,zC,zD,zE,zF,zG,zH,zI,zJ,zK,HV.cells,g4]; try exact rfl) res_nil)) (sc_flat ?_ (by dsimp only; omega) ?_)
    · rw [e]; exact flat_withO _ _
    · rw [e]; rfl
  · have e : readO t n l = none := by unfold readO; simpa using g1
    repeat' first
     | refine th_r ?_
     | fail
    refine fin_m (by simp only [zL, g5]) (res_c (by simp (disch:=first|decide|(simp only[zF,zG,g4, g6];decide)) only [zA,zB,zC,zD,zE,zF,zG,zH,zI,zJ,zK,HV.cells,g4, g6]; try exact rfl) g2 tk_z (res_t (by simp (disch:=first|decide|(simp only[zF,zG,g4, g7];decide)) only [zA,zB,zC,zD,zE,zF,zG,zH,zI,zJ,zK,HV.cells,g4, g7]; try exact rfl) res_nil)) (sc_flat ?_ (by dsimp only; omega) ?_)
    · rw [e]; exact flat_withO t none
    · rw [e]; rfl
end Go.Hx

/- Layer 1: what a closed matrix says of heights: just what all threads allow. -/
namespace Go.Hx
/-- Heights that a matrix allows. -/
def Feas (n : Nat) (M : Mx) (H : Nat → Int) : Prop := ∀ i j, i ≤ n → j ≤ n → H j - H i ≤ M i j
/-- Is a reading right, by heights? -/
def RightC (n : Nat) (r : Rd) (H : Nat → Int) : Prop := H r.g.toNat - H r.f.toNat ≤ r.hi ∧ (r.g.toNat < n → H r.f.toNat - H (r.g.toNat + 1) ≤ -r.lo - 1)
theorem feas_lim {n f g : Nat} {m : Int} {M : Mx} {H : Nat → Int} (h : Good n M) (hf : f ≤ n) (hg : g ≤ n) : Feas n (limM n f g m M) H ↔ Feas n M H ∧ H g - H f ≤ m := by
  have e : ∀ i j, i ≤ n → j ≤ n → limM n f g m M i j = min (M i j) (M i f + m + M g j) := fun i j hi hj => by
    unfold limM; rw [if_pos ⟨hi, hj⟩]
  constructor
  · intro hF
    refine ⟨fun i j hi hj => ?_, ?_⟩
    · have := hF i j hi hj
      rw [e i j hi hj] at this
      omega
    · have := hF f g hf hg
      rw [e f g hf hg, h.dg f hf, h.dg g hg] at this
      omega
  · rintro ⟨hF, hm⟩ i j hi hj
    rw [e i j hi hj]
    have := hF i j hi hj
    have := hF i f hi hf
    have := hF g j hg hj
    omega
theorem withM_feas {n : Nat} {r : Rd} {M M' : Mx} {H : Nat → Int} (h : Good n M) (hr : RdOk2 n r) (hw : withM n r M = some M') : Feas n M' H ↔ Feas n M H ∧ RightC n r H := by
  unfold RdOk2 at hr
  unfold withM at hw
  unfold RightC
  split at hw
  · rename_i h1
    have g1 := good_lim h (f := r.f.toNat) (g := r.g.toNat) (by omega) (by omega) h1
    split at hw
    · rename_i h2
      split at hw
      · cases hw
        rw [feas_lim g1 (by omega) (by omega), feas_lim h (by omega) (by omega)]
        constructor
        · rintro ⟨⟨a, b⟩, c⟩; exact ⟨a, b, fun _ => c⟩
        · rintro ⟨a, b, c⟩; exact ⟨⟨a, b⟩, c h2⟩
      · cases hw
    · rename_i h2
      cases hw
      rw [feas_lim h (by omega) (by omega)]
      constructor
      · rintro ⟨a, b⟩; exact ⟨a, b, fun h3 => absurd h3 h2⟩
      · rintro ⟨a, b, _⟩; exact ⟨a, b⟩
  · cases hw
theorem withM_none {n : Nat} {r : Rd} {M : Mx} {H : Nat → Int} (h : Good n M) (hr : RdOk2 n r) (hw : withM n r M = none) : ¬ (Feas n M H ∧ RightC n r H) := by
  unfold RdOk2 at hr
  unfold withM at hw
  rintro ⟨hF, hR⟩
  unfold RightC at hR
  split at hw
  · split at hw
    · rename_i h2
      split at hw
      · cases hw
      · rename_i h3
        have hF1 : Feas n (limM n r.f.toNat r.g.toNat r.hi M) H := (feas_lim h (by omega) (by omega)).2 ⟨hF, hR.1⟩
        have h4 := hF1 r.f.toNat (r.g.toNat + 1) (by omega) (by omega)
        have h5 := hR.2 h2
        generalize limM n r.f.toNat r.g.toNat r.hi M r.f.toNat (r.g.toNat + 1) = z at h3 h4
        omega
    · cases hw
  · rename_i h1
    have := hF r.g.toNat r.f.toNat (by omega) (by omega)
    omega
theorem readGo_feas {n : Nat} {H : Nat → Int} : ∀ (l seen : List Rd) (M M' : Mx), (∀ r ∈ l, RdOk2 n r) → Good n M → (∀ r ∈ seen, Feas n M H → RightC n r H) → readGo n seen l M = some M' → (Feas n M' H ↔ Feas n M H ∧ ∀ r ∈ l, RightC n r H)
  | [], seen, M, M', _, _, _, h => by cases h; exact ⟨fun h => ⟨h, fun r hr => by cases hr⟩, fun h => h.1⟩
  | r :: rs, seen, M, M', hl, hG, hs, h => by
    unfold readGo at h
    have hrs : ∀ x ∈ rs, RdOk2 n x := fun x hx => hl x (List.mem_cons_of_mem _ hx)
    split at h
    · rename_i hin
      rw [readGo_feas rs seen M M' hrs hG hs h]
      constructor
      · rintro ⟨a, b⟩
        refine ⟨a, fun x hx => ?_⟩
        rcases List.mem_cons.1 hx with e | e
        · rw [e]; exact hs r hin a
        · exact b x e
      · rintro ⟨a, b⟩; exact ⟨a, fun x hx => b x (List.mem_cons_of_mem _ hx)⟩
    · split at h
      · rename_i M1 h1
        have hr := hl r (List.mem_cons_self ..)
        have hG1 := withM_good hG hr h1
        have e1 := withM_feas (H := H) hG hr h1
        rw [readGo_feas rs _ M1 M' hrs hG1 (fun x hx hF => ?_) h, e1]
        · constructor
          · rintro ⟨⟨a, b⟩, c⟩
            refine ⟨a, fun x hx => ?_⟩
            rcases List.mem_cons.1 hx with e | e
            · rw [e]; exact b
            · exact c x e
          · rintro ⟨a, b⟩; exact ⟨⟨a, b r (List.mem_cons_self ..)⟩, fun x hx => b x (List.mem_cons_of_mem _ hx)⟩
        · rcases List.mem_append.1 hx with e | e
          · exact hs x e (e1.1 hF).1
          · simp at e; rw [e]; exact (e1.1 hF).2
      · cases h
theorem readGo_none {n : Nat} {H : Nat → Int} : ∀ (l seen : List Rd) (M : Mx), (∀ r ∈ l, RdOk2 n r) → Good n M → readGo n seen l M = none → ¬ (Feas n M H ∧ ∀ r ∈ l, RightC n r H)
  | [], seen, M, _, _, h => by cases h
  | r :: rs, seen, M, hl, hG, h => by
    unfold readGo at h
    have hrs : ∀ x ∈ rs, RdOk2 n x := fun x hx => hl x (List.mem_cons_of_mem _ hx)
    rintro ⟨a, b⟩
    split at h
    · exact readGo_none rs seen M hrs hG h ⟨a, fun x hx => b x (List.mem_cons_of_mem _ hx)⟩
    · split at h
      · rename_i M1 h1
        have hr := hl r (List.mem_cons_self ..)
        exact readGo_none rs _ M1 hrs (withM_good hG hr h1) h ⟨(withM_feas hG hr h1).2 ⟨a, b r (List.mem_cons_self ..)⟩, fun x hx => b x (List.mem_cons_of_mem _ hx)⟩
      · rename_i h1
        exact withM_none hG (hl r (List.mem_cons_self ..)) h1 ⟨a, b r (List.mem_cons_self ..)⟩
/-- All marks as high as they can be, and all as low. -/
theorem feas_hi {n : Nat} {M : Mx} (h : Good n M) : Feas n M (fun i => M 0 i) := fun i j hi hj => by
  have := h.tri 0 i j (Nat.zero_le _) hi hj
  show M 0 j - M 0 i ≤ _
  omega
theorem feas_lo {n : Nat} {M : Mx} (h : Good n M) : Feas n M (fun i => -(M i 0)) := fun i j hi hj => by
  have := h.tri i j 0 hi hj (Nat.zero_le _)
  show -(M j 0) - -(M i 0) ≤ _
  omega
end Go.Hx

/- What is kept behind a call of lists that it hands back, whoever has laid them. -/
namespace Go.Hx
theorem keepV_has {h1 : Tr HBlk} {nx b : Nat} {k : List HV → Tr HBlk → Tr HBlk} (hk : ∀ vs h, h.get b = h1.get b → (k vs h).get b = h1.get b) {h : Tr HBlk} (hb : h.get b = h1.get b) (v : HV) : (keepV h1 nx k h v).get b = h1.get b := by
  have put : ∀ (c : Nat) (x : HBlk), h1.get c = some x → (h.set c (some x)).get b = h1.get b := fun c x hx => by
    rw [Tr.get_set]
    by_cases e : b = c
    · rw [if_pos e, e, hx]
    · rw [if_neg e]; exact hb
  unfold keepV
  split
  · rename_i c _ _ _
    cases Nat.blt c nx with
    | true => exact hb
    | false =>
      simp only [cond_false]
      split
      · rename_i hg; exact hk _ _ (put _ _ hg)
      · exact hb
  · rename_i c _
    cases Nat.blt c nx with
    | true => exact hb
    | false =>
      simp only [cond_false]
      split
      · rename_i hg; exact hk _ _ (put _ _ hg)
      · exact hb
  · rename_i c
    cases Nat.blt c nx with
    | true => exact hb
    | false =>
      simp only [cond_false]
      split
      · rename_i hg; exact hk _ _ (put _ _ hg)
      · exact hb
  · exact hk _ _ hb
  · exact hk _ _ hb
  · exact hk _ _ hb
  · exact hb
theorem keepD_has {h1 : Tr HBlk} {nx b : Nat} : ∀ (d : Nat) (vs : List HV) (h : Tr HBlk), h.get b = h1.get b → (keepD h1 nx d vs h).get b = h1.get b
  | 0, vs, h, hb => hb
  | d + 1, [], h, hb => hb
  | d + 1, v :: vs, h, hb => by
    unfold keepD
    rw [List.foldl_cons]
    exact keepD_has (d + 1) vs _ (keepV_has (keepD_has d) hb v)
theorem keepV_first {h1 h : Tr HBlk} {nx b o n c d : Nat} {cs : List HV} {bk : BK} (hg : h1.get b = some (.cells cs bk)) (hs : b < nx → h.get b = h1.get b) : (keepV h1 nx (keepD h1 nx d) h (.slice (some (b, o)) n c)).get b = h1.get b := by
  show (bif Nat.blt b nx then h else (match h1.get b with | some (.cells cs bk) => keepD h1 nx d cs (h.set b (some (.cells cs bk))) | _ => h)).get b = _
  cases e : Nat.blt b nx with
  | true => rw [Nat.blt_eq] at e; exact hs e
  | false =>
    simp only [cond_false, hg]
    rw [← hg]
    exact keepD_has d cs _ (by rw [get_same])
theorem gc_ext {h0 h : Tr HBlk} {n0 nx : Nat} (hd0 : D h0 n0) (e : Ext h0 n0 h nx) (v : HV) : ∃ h', gcH ⟨h0, n0⟩ ⟨h, nx⟩ v = ⟨h', nx⟩ ∧ Ext h0 n0 h' nx := by
  refine ⟨_, rfl, e.le, ?_, fun b hb => ((kept_d h n0 5 [v] h0) b).1 hb⟩
  have hd := e.d
  have hle := e.le
  unfold D at hd hd0 ⊢
  intro b hb
  cases hx : (keepD h n0 5 [v] h0).get b with
  | none => rfl
  | some x =>
    rcases ((kept_d h n0 5 [v] h0) b).2 x hx with h1 | h1
    · rw [hd0 b (by omega)] at h1; cases h1
    · rw [hd b hb] at h1; cases h1.2
/-- A list in front of what is handed back. -/
theorem gc_tup {α : Type} {enc : α → List HV} {sz : Nat} {h0 h : Tr HBlk} {n0 nx : Nat} {p : Option (Nat × Nat)} {n c : Nat} {rest : List HV} {l : List α} (hd0 : D h0 n0) (e : Ext h0 n0 h nx) (hr : Row enc sz h nx p l) :
    ∃ h', gcH ⟨h0, n0⟩ ⟨h, nx⟩ (.tuple (.slice p n c :: rest)) = ⟨h', nx⟩ ∧ Ext h0 n0 h' nx ∧ Row enc sz h' nx p l := by
  obtain ⟨h', h1, h2⟩ := gc_ext hd0 e (.tuple (.slice p n c :: rest))
  refine ⟨h', h1, h2, fun hne => ?_⟩
  obtain ⟨b, o, cs, k, rfl, hb, hg, hc⟩ := hr hne
  refine ⟨b, o, cs, k, rfl, hb, ?_, hc⟩
  have e1 : h' = keepD h n0 5 [.tuple (.slice (some (b, o)) n c :: rest)] h0 := by
    have : (⟨h', nx⟩ : HS).h = (gcH ⟨h0, n0⟩ ⟨h, nx⟩ (.tuple (.slice (some (b, o)) n c :: rest))).h := by rw [h1]
    exact this
  rw [e1, ← hg]
  show (keepD h n0 4 (.slice (some (b, o)) n c :: rest) h0).get b = _
  unfold keepD
  rw [List.foldl_cons]
  exact keepD_has 4 rest _ (keepV_first hg fun hlt => (e.same b hlt).symm)
end Go.Hx

