import Derived.Test.YtcejjaaoainfjaaH01
import Derived.ProofKit
import Derived.Test.YtcejjaaoainfjaaH00
import Derived.Laws.CopyRow
import Derived.Laws.Cells
import Derived.Laws.Rows
import Derived.Laws.StructEq
import Derived.Laws.AppendOwn
import Derived.IntWalk
import Derived.ChangeKeysEq
set_option linter.all false
namespace Go.Hx
set_option maxRecDepth 100000
noncomputable section
open F
end
end Go.Hx

namespace Go.Hx
theorem zx {α : Type} (a b : Nat) (x y : α) : (bif Nat.beq a b then x else y) = if a = b then x else y := by
  by_cases h : a = b
  · subst h; simp
  · have : Nat.beq a b = false := by
      cases e : Nat.beq a b
      · rfl
      · exact absurd (Nat.eq_of_beq_eq_true e) h
    simp [this, h]
def Pa.val : Pa → Nat
  | .z => 0
  | .a p => 4 * p.val + 1
  | .b p => 4 * p.val + 2
  | .c p => 4 * p.val + 3
  | .d p => 4 * p.val + 4
theorem pa_digit (q : Pa) (r : Nat) (h : r < 4) : (paDigit q r).val = 4 * q.val + r + 1 := by
  match r, h with
  | 0, _ => rfl
  | 1, _ => rfl
  | 2, _ => rfl
  | 3, _ => rfl
theorem v3 : ∀ (f k : Nat), k < f → (paF f k).val = k
  | 0, k, h => by omega
  | f + 1, 0, _ => rfl
  | f + 1, j + 1, h => by
    show (paDigit (paF f (Nat.div j 4)) (Nat.mod j 4)).val = j + 1
    have h1 : Nat.div j 4 = j / 4 := rfl
    have h2 : Nat.mod j 4 = j % 4 := rfl
    rw [h1, h2, pa_digit _ _ (Nat.mod_lt _ (by omega)), v3 f (j / 4) (by omega)]
    omega
theorem pa_inj {k j : Nat} (h : pa k = pa j) : k = j := by
  have h1 := v3 (k + 1) k (by omega)
  have h2 := v3 (j + 1) j (by omega)
  have h3 : (paF (k + 1) k).val = (paF (j + 1) j).val := congrArg Pa.val h
  omega
theorem Tr.get_eP {α : Type} (p : Pa) : Tr.getP p (.e : Tr α) = none := by cases p <;> rfl
theorem Tr.get_e {α : Type} (k : Nat) : (Tr.e : Tr α).get k = none := Tr.get_eP _
theorem Tr.get_setP {α : Type} (x : Option α) (p : Pa) : ∀ (t : Tr α), Tr.getP p (Tr.setP x p t) = x := by
  induction p with
  | z => intro t; cases t <;> rfl
  | a p ih | b p ih | c p ih | d p ih => intro t; cases t <;> exact ih _
theorem Tr.get_setN {α : Type} (x : Option α) (p : Pa) : ∀ (t : Tr α) (q : Pa), q ≠ p → Tr.getP q (Tr.setP x p t) = Tr.getP q t := by
  induction p with
  | z =>
    intro t q h
    cases t <;> cases q <;> first | exact absurd rfl h | rfl | exact Tr.get_eP _
  | a p ih | b p ih | c p ih | d p ih =>
    intro t q h
    cases t <;> cases q <;> first | rfl | exact Tr.get_eP _ | exact (ih _ _ (fun e => h (by rw [e]))).trans (Tr.get_eP _) | exact ih _ _ (fun e => h (by rw [e]))
theorem Tr.get_set {α : Type} (t : Tr α) (k j : Nat) (x : Option α) : (t.set k x).get j = if j = k then x else t.get j := by
  show Tr.getP (pa j) (Tr.setP x (pa k) t) = _
  by_cases h : j = k
  · subst h; rw [if_pos rfl, Tr.get_setP]
  · rw [Tr.get_setN _ _ _ _ (fun e => h (pa_inj e)), if_neg h]; rfl
theorem vg (n : Int) (h1 : -9223372036854775808 ≤ n) (h2 : n < 9223372036854775808) : IntKind.wrap .i64 n = n := by
  have e1 : (IntKind.i64.bits) = 64 := rfl
  have e2 : (IntKind.i64.signed) = true := rfl
  unfold IntKind.wrap
  rw [e1, e2]
  have e3 : (2 ^ 64 : Int) = 18446744073709551616 := by decide
  have e4 : (2 ^ (64 - 1) : Int) = 9223372036854775808 := by decide
  rw [e3, e4]
  simp only [Bool.true_and, decide_eq_true_eq]
  split <;> omega
theorem wr_eq (k : IntKind) (n : Int) : wr k n = k.wrap n := by
  cases k <;> first | rfl | skip
  simp only [wr]
  cases hs : small n with
  | false => rfl
  | true =>
    simp only [cond_true]
    cases n with
    | ofNat a =>
      have : a < 9223372036854775808 := by simpa [small] using hs
      have e : Int.ofNat a = (a : Int) := rfl
      exact (vg _ (by rw [e]; omega) (by rw [e]; omega)).symm
    | negSucc a =>
      have : a < 9223372036854775808 := by simpa [small] using hs
      exact (vg _ (by omega) (by omega)).symm
theorem ltI_eq (a b : Int) : ltI a b = decide (a < b) := by
  rw [Bool.eq_iff_iff, decide_eq_true_iff]
  cases a <;> cases b <;> simp [ltI] <;> omega
theorem eqI_eq (a b : Int) : eqI a b = (a == b) := by
  rw [Bool.eq_iff_iff, beq_iff_eq]
  cases a <;> cases b <;> simp [eqI] <;> omega
theorem uh (a b : IntKind) : sameK a b = decide (a = b) := by
  cases a <;> cases b <;> rfl
theorem ja (op : BinOp) (k : IntKind) (a b : Int) : intFast op k a b = intArith op k a b := by
  cases op <;> simp only [intFast, intArith, wr_eq, ltI_eq, eqI_eq] <;> first | rfl | skip
  all_goals (try rfl)
  all_goals (congr 2; rw [Bool.eq_iff_iff]; simp)
theorem binH_eq (op : BinOp) (x y : HV) : binH op x y = binH0 op x y := by
  unfold binH binH0
  split
  · rename_i k a k' b
    cases isShift op with
    | true => rfl
    | false =>
      simp only [cond_false, uh, ja]
      by_cases h : k = k'
      · simp [h]
      · simp [h]
  · rfl
structure RI where
  blk : Nat
  off : Nat
  extra : Nat
abbrev Rho := Nat → Option RI
def Rho.le (ρ ρ' : Rho) : Prop := ∀ b r, ρ b = some r → ρ' b = some r
inductive VR (ρ : Rho) : HV → Value → Prop
  | bool (b : Bool) : VR ρ (.bool b) (.bool b)
  | int (k : IntKind) (n : Int) : VR ρ (.int k n) (.int k n)
  | str (s : ByteArray) : VR ρ (.str s) (.string s)
  | ptr0 : VR ρ (.ptr none) (.pointer none)
  | ptr {b o : Nat} {r : RI} (h : ρ b = some r) : VR ρ (.ptr (some (b, o))) (.pointer (some ⟨r.blk, r.off + o, none⟩))
  | slice0 : VR ρ (.slice none 0 0) (.slice none 0 0)
  | slice {b o l c : Nat} {r : RI} (h : ρ b = some r) : VR ρ (.slice (some (b, o)) l c) (.slice (some ⟨r.blk, r.off + o, none⟩) l (c + r.extra))
  | slice00 {b o : Nat} (a : Addr) : VR ρ (.slice (some (b, o)) 0 0) (.slice (some a) 0 0)
  | map0 : VR ρ (.map none) (.map none)
  | map {b : Nat} {r : RI} (h : ρ b = some r) : VR ρ (.map (some b)) (.map (some r.blk))
  | func {f : Nat} {first captured : List HV} {F C : Array Value} (hf : first.length = F.size) (hc : captured.length = C.size)
      (h1 : ∀ (i : Nat) (v : HV) (u : Value), first[i]? = some v → F[i]? = some u → VR ρ v u)
      (h2 : ∀ (i : Nat) (v : HV) (u : Value), captured[i]? = some v → C[i]? = some u → VR ρ v u) : VR ρ (.func f first captured) (.func (.func f) F C)
  | yield {l : Nat} {r : RI} (h : ρ l = some r) : VR ρ (.yield l) (.func (.yield r.blk) #[] #[])
  | nilFunc : VR ρ .nilFunc .nilFunc
  | nilIface : VR ρ .nilIface .nilIface
  | via (t : TypeId) (name : String) (f : Nat) : VR ρ (.via t name f) (.func (.methodOf t name) #[] #[])
  | agg {cs : List HV} {C : Array Value} (hl : cs.length = C.size) (h : ∀ (i : Nat) (v : HV) (u : Value), cs[i]? = some v → C[i]? = some u → VR ρ v u) : VR ρ (.agg cs) (.agg C)
  | tuple {cs : List HV} {C : Array Value} (hl : cs.length = C.size) (h : ∀ (i : Nat) (v : HV) (u : Value), cs[i]? = some v → C[i]? = some u → VR ρ v u) : VR ρ (.tuple cs) (.tuple C)
theorem VR.mono {ρ ρ' : Rho} (hle : Rho.le ρ ρ') {v : HV} {u : Value} (h : VR ρ v u) : VR ρ' v u := by
  induction h with
  | bool b => exact .bool b
  | int k n => exact .int k n
  | str s => exact .str s
  | ptr0 => exact .ptr0
  | ptr h => exact .ptr (hle _ _ h)
  | slice0 => exact .slice0
  | slice h => exact .slice (hle _ _ h)
  | slice00 a => exact .slice00 a
  | map0 => exact .map0
  | map h => exact .map (hle _ _ h)
  | func hf hc _ _ i1 i2 => exact .func hf hc i1 i2
  | yield h => exact .yield (hle _ _ h)
  | nilFunc => exact .nilFunc
  | nilIface => exact .nilIface
  | via t path f => exact .via t path f
  | agg hl _ ih => exact .agg hl ih
  | tuple hl _ ih => exact .tuple hl ih
def LR (ρ : Rho) (cs : List HV) (C : List Value) : Prop := cs.length = C.length ∧ ∀ (i : Nat) (v : HV) (u : Value), cs[i]? = some v → C[i]? = some u → VR ρ v u
theorem LR.nil (ρ : Rho) : LR ρ [] [] := ⟨rfl, fun i v u h => by simp at h⟩
theorem LR.cons {ρ : Rho} {v : HV} {u : Value} {cs : List HV} {C : List Value} (h : VR ρ v u) (hs : LR ρ cs C) : LR ρ (v :: cs) (u :: C) := by
  refine ⟨by simp [hs.1], fun i x y hx hy => ?_⟩
  cases i with
  | zero => simp at hx hy; subst hx; subst hy; exact h
  | succ i => exact hs.2 i x y (by simpa using hx) (by simpa using hy)
theorem LR.inv {ρ : Rho} {v : HV} {cs : List HV} {C : List Value} (h : LR ρ (v :: cs) C) : ∃ u C', C = u :: C' ∧ VR ρ v u ∧ LR ρ cs C' := by
  cases C with
  | nil => exact absurd h.1 (by simp)
  | cons u C =>
    refine ⟨u, C, rfl, h.2 0 _ _ rfl rfl, by simpa using h.1, fun i x y hx hy => h.2 (i + 1) x y (by simpa using hx) (by simpa using hy)⟩
theorem LR.inv_nil {ρ : Rho} {C : List Value} (h : LR ρ [] C) : C = [] := by
  cases C with
  | nil => rfl
  | cons u C => exact absurd h.1 (by simp)
theorem LR.append {ρ : Rho} {cs ds : List HV} {C D : List Value} (h : LR ρ cs C) (h' : LR ρ ds D) : LR ρ (cs ++ ds) (C ++ D) := by
  induction cs generalizing C with
  | nil => rw [LR.inv_nil h]; exact h'
  | cons v cs ih => obtain ⟨u, C', rfl, hv, hs⟩ := LR.inv h; exact LR.cons hv (ih hs)
theorem LR.mono {ρ ρ' : Rho} (hle : Rho.le ρ ρ') {cs : List HV} {C : List Value} (h : LR ρ cs C) : LR ρ' cs C := ⟨h.1, fun i v u hv hu => (h.2 i v u hv hu).mono hle⟩
theorem VR.aggL {ρ : Rho} {cs : List HV} {C : List Value} (h : LR ρ cs C) : VR ρ (.agg cs) (.agg C.toArray) := .agg (by simpa using h.1) (fun i v u hv hu => h.2 i v u hv (by simpa using hu))
theorem VR.tupleL {ρ : Rho} {cs : List HV} {C : List Value} (h : LR ρ cs C) : VR ρ (.tuple cs) (.tuple C.toArray) := .tuple (by simpa using h.1) (fun i v u hv hu => h.2 i v u hv (by simpa using hu))
theorem VR.inv_agg {ρ : Rho} {cs : List HV} {u : Value} (h : VR ρ (.agg cs) u) : ∃ C : List Value, u = .agg C.toArray ∧ LR ρ cs C := by
  cases h with
  | agg hl h => rename_i C; exact ⟨C.toList, rfl, by simpa using hl, fun i v u hv hu => h i v u hv (by simpa using hu)⟩
theorem VR.inv_tuple {ρ : Rho} {cs : List HV} {u : Value} (h : VR ρ (.tuple cs) u) : ∃ C : List Value, u = .tuple C.toArray ∧ LR ρ cs C := by
  cases h with
  | tuple hl h => rename_i C; exact ⟨C.toList, rfl, by simpa using hl, fun i v u hv hu => h i v u hv (by simpa using hu)⟩
theorem VR.undef (ρ : Rho) : VR ρ .undef Go.undef := .tuple (by rfl) (fun i v u hv hu => by simp at hv)
theorem VR.cells {ρ : Rho} {v : HV} {u : Value} (h : VR ρ v u) : LR ρ v.cells u.cells.toList := by
  cases h with
  | agg hl h => exact ⟨by simpa [HV.cells, Value.cells] using hl, fun i v u hv hu => h i v u hv (by simpa [Value.cells] using hu)⟩
  | _ => refine LR.cons ?_ (LR.nil ρ); first | exact .bool _ | exact .int _ _ | exact .str _ | exact .ptr0 | (apply VR.ptr; assumption) | exact .slice0 | (apply VR.slice; assumption) | exact .slice00 _ | exact .map0 | (apply VR.map; assumption) | (apply VR.func <;> assumption) | (apply VR.yield; assumption) | exact .nilFunc | exact .nilIface | exact .via _ _ _ | (apply VR.tuple <;> assumption)
theorem VR.one {ρ : Rho} {v : HV} {u : Value} (h : VR ρ v u) (h1 : v.one = true) : u.oneCell' = true := by
  cases h <;> first | rfl | (simp [HV.one] at h1)
def CellsOk (ρ : Rho) (cs : List HV) (C : Array Value) (off : Nat) : Prop := ∀ (i : Nat) (v : HV), cs[i]? = some v → ∃ u, C[off + i]? = some u ∧ VR ρ v u
def ER (ρ : Rho) (es : List (HV × HV)) (E : List MapEntry) : Prop := es.length = E.length ∧ ∀ (i : Nat) (e : HV × HV) (x : MapEntry), es[i]? = some e → E[i]? = some x → VR ρ e.1 x.key ∧ VR ρ e.2 x.val
def stateOf : LState → LoopState
  | .ready => .ready
  | .busy => .busy
  | .done => .done
  | .exhausted => .exhausted
def jumpOf : HExit → Option Code
  | .normal => none
  | .exit id => some (.exit id)
  | .ret => some .ret
def TR (ρ : Rho) (nt : Nat) (tmps : Tr HV) (T : Array Value) : Prop := T.size = nt ∧ ∀ t, VR ρ ((tmps.get t).getD .undef) (T.getD t Go.undef)
structure LoopOk (P : Program) (ρ : Rho) (l : HLoop) (L : Loop) : Prop where
  state : L.state = stateOf l.state
  pending : L.pending = jumpOf l.pending
  tmps : TR ρ l.nt l.tmps L.tmps
  params : L.params.toList = l.params
  assign : lowC P L.assign = l.assign
  body : lowC P L.body = l.body
def BOk (P : Program) (base : Nat) (ρ : Rho) (W : World) (b : Nat) : HBlk → Prop
  | .cells cs k => ∃ (r : RI) (C : Array Value) (e : TypeId) (z : Nat × Nat), ρ b = some r ∧ W.heap[r.blk]? = some (.cells C e z) ∧ CellsOk ρ cs C r.off ∧
      (match k with
       | .ro => r.blk < base
       | .exact => base ≤ r.blk ∧ z = (0, 0) ∧ r.extra = 0
       | .opn s => base ≤ r.blk ∧ z = (0, 0) ∧ C.size = r.off + cs.length + r.extra * s)
  | .map es => ∃ (r : RI) (E : Array MapEntry) (cl : Nat), ρ b = some r ∧ W.heap[r.blk]? = some (.map E cl) ∧ base ≤ r.blk ∧ ER ρ es E.toList
  | .loop l => ∃ (r m : RI) (L : Loop), ρ b = some r ∧ W.heap[r.blk]? = some (.loop L) ∧ base ≤ r.blk ∧ ρ l.marks = some m ∧ L.defers = m.blk ∧ LoopOk P ρ l L
  | .marks => ∃ r : RI, ρ b = some r ∧ W.heap[r.blk]? = some (.deferred (some [])) ∧ base ≤ r.blk
def HBlk.own : HBlk → Bool
  | .cells _ .ro => false
  | _ => true
abbrev Hp := Nat → Option HBlk
theorem BOk.has {P : Program} {base : Nat} {ρ : Rho} {W : World} {b : Nat} {x : HBlk} (h : BOk P base ρ W b x) : ∃ r, ρ b = some r ∧ r.blk < W.heap.size ∧ (x.own = true → base ≤ r.blk) ∧ (x.own = false → r.blk < base) := by
  cases x with
  | cells cs k =>
    obtain ⟨r, C, e, z, hr, hw, _, hk⟩ := h
    refine ⟨r, hr, (Array.getElem?_eq_some_iff.1 hw).1, fun ho => ?_, fun ho => ?_⟩
    · cases k <;> simp [HBlk.own] at ho <;> exact hk.1
    · cases k <;> simp [HBlk.own] at ho; exact hk
  | map es => obtain ⟨r, E, cl, hr, hw, hb, _⟩ := h; exact ⟨r, hr, (Array.getElem?_eq_some_iff.1 hw).1, fun _ => hb, fun ho => by simp [HBlk.own] at ho⟩
  | loop l => obtain ⟨r, m, L, hr, hw, hb, _⟩ := h; exact ⟨r, hr, (Array.getElem?_eq_some_iff.1 hw).1, fun _ => hb, fun ho => by simp [HBlk.own] at ho⟩
  | marks => obtain ⟨r, hr, hw, hb⟩ := h; exact ⟨r, hr, (Array.getElem?_eq_some_iff.1 hw).1, fun _ => hb, fun ho => by simp [HBlk.own] at ho⟩
theorem CellsOk.mono {ρ ρ' : Rho} (hle : Rho.le ρ ρ') {cs : List HV} {C : Array Value} {off : Nat} (h : CellsOk ρ cs C off) : CellsOk ρ' cs C off :=
  fun i v hv => let ⟨u, hu, hr⟩ := h i v hv; ⟨u, hu, hr.mono hle⟩
theorem TR.mono {ρ ρ' : Rho} (hle : Rho.le ρ ρ') {nt : Nat} {t : Tr HV} {T : Array Value} (h : TR ρ nt t T) : TR ρ' nt t T := ⟨h.1, fun t => (h.2 t).mono hle⟩
theorem BOk.keep {P : Program} {base : Nat} {ρ ρ' : Rho} {W W' : World} {b : Nat} {x : HBlk} (hle : Rho.le ρ ρ') (h : BOk P base ρ W b x)
    (hw : ∀ r, ρ b = some r → W'.heap[r.blk]? = W.heap[r.blk]?) : BOk P base ρ' W' b x := by
  cases x with
  | cells cs k =>
    obtain ⟨r, C, e, z, hr, hh, hc, hk⟩ := h
    exact ⟨r, C, e, z, hle _ _ hr, (hw r hr).trans hh, hc.mono hle, hk⟩
  | map es =>
    obtain ⟨r, E, cl, hr, hh, hb, he⟩ := h
    exact ⟨r, E, cl, hle _ _ hr, (hw r hr).trans hh, hb, he.1, fun i e x h1 h2 => ⟨(he.2 i e x h1 h2).1.mono hle, (he.2 i e x h1 h2).2.mono hle⟩⟩
  | loop l =>
    obtain ⟨r, m, L, hr, hh, hb, hm, hd, hl⟩ := h
    exact ⟨r, m, L, hle _ _ hr, (hw r hr).trans hh, hb, hle _ _ hm, hd, hl.state, hl.pending, hl.tmps.mono hle, hl.params, hl.assign, hl.body⟩
  | marks => obtain ⟨r, hr, hh, hb⟩ := h; exact ⟨r, hle _ _ hr, (hw r hr).trans hh, hb⟩
structure Sim (P : Program) (base : Nat) (g : Hp) (ρ : Rho) (W : World) : Prop where
  ok : ∀ b x, g b = some x → BOk P base ρ W b x
  inj : ∀ b b' x x' r r', g b = some x → g b' = some x' → x.own = true → x'.own = true → b ≠ b' → ρ b = some r → ρ b' = some r' → r.blk ≠ r'.blk
theorem Sim.less {P : Program} {base : Nat} {g g' : Hp} {ρ : Rho} {W : World} (h : Sim P base g ρ W) (hg : ∀ b x, g' b = some x → g b = some x) : Sim P base g' ρ W :=
  ⟨fun b x hx => h.ok b x (hg b x hx), fun b b' x x' r r' h1 h2 h3 h4 h5 h6 h7 => h.inj b b' x x' r r' (hg _ _ h1) (hg _ _ h2) h3 h4 h5 h6 h7⟩
def May (fl : Nat) (g : Hp) (ρ : Rho) (k : Nat) : Prop := ∃ b x r, g b = some x ∧ x.own = true ∧ fl ≤ b ∧ ρ b = some r ∧ r.blk = k
def zOf : Obj → Nat × Nat
  | .cells _ _ z => z
  | _ => (0, 0)
theorem zD (W : World) (a : Addr) : W.frozen? a = ((W.heap[a.block]?).map fun o => (zOf o).1 ≤ a.off && a.off < (zOf o).2).getD false := by
  unfold World.frozen?
  cases h : W.heap[a.block]? with
  | none => rfl
  | some o => cases o <;> rfl
theorem yP {W : World} {k : Nat} {o o' : Obj} (hw : W.heap[k]? = some o) (hz : zOf o' = zOf o) (a : Addr) : ({ W with heap := W.heap.setIfInBounds k o' } : World).frozen? a = W.frozen? a := by
  have hlt := (Array.getElem?_eq_some_iff.1 hw).1
  rw [zD, zD]
  show ((((W.heap.setIfInBounds k o')[a.block]?).map _).getD false) = _
  rw [Array.getElem?_setIfInBounds]
  by_cases e : k = a.block
  · subst e; rw [if_pos rfl, if_pos hlt, hw, Option.map_some, Option.map_some, hz]
  · rw [if_neg e]
theorem jH {W : World} {o : Obj} (hz : zOf o = (0, 0)) (a : Addr) : (W.alloc o).frozen? a = W.frozen? a := by
  rw [zD, zD]
  show (((W.heap.push o)[a.block]?).map _).getD false = _
  rw [Array.getElem?_push]
  split
  · rename_i e
    rw [e]
    simp [hz]
  · rfl
structure Post (P : Program) (base fl nx nx' : Nat) (g g' : Hp) (ρ ρ' : Rho) (W W' : World) : Prop where
  ext : Rho.le ρ ρ'
  out : ∀ b, (b < nx ∨ nx' ≤ b) → ρ' b = ρ b
  sim : Sim P base g' ρ' W'
  os : W'.os = W.os
  tape : W'.tape = W.tape
  output : W'.output = W.output
  frz : ∀ a, W'.frozen? a = W.frozen? a
  size : W.heap.size ≤ W'.heap.size
  same : ∀ k, k < W.heap.size → ¬ May fl g ρ k → W'.heap[k]? = W.heap[k]?
  own : ∀ k, May fl g' ρ' k → W.heap.size ≤ k ∨ May fl g ρ k
theorem Post.refl {P : Program} {base fl nx : Nat} {g : Hp} {ρ : Rho} {W : World} (h : Sim P base g ρ W) : Post P base fl nx nx g g ρ ρ W W :=
  ⟨fun _ _ h => h, fun _ _ => rfl, h, rfl, rfl, rfl, fun _ => rfl, Nat.le_refl _, fun _ _ _ => rfl, fun _ h => .inr h⟩
theorem Post.trans {P : Program} {base fl nx n1 nx' : Nat} {g g1 g' : Hp} {ρ ρ1 ρ' : Rho} {W W1 W' : World} (hn : nx ≤ n1) (hn' : n1 ≤ nx')
    (h : Post P base fl nx n1 g g1 ρ ρ1 W W1) (k : Post P base fl n1 nx' g1 g' ρ1 ρ' W1 W') : Post P base fl nx nx' g g' ρ ρ' W W' where
  ext := fun b r hr => k.ext b r (h.ext b r hr)
  out := fun b hb => (k.out b (by omega)).trans (h.out b (by omega))
  sim := k.sim
  os := k.os.trans h.os
  tape := k.tape.trans h.tape
  output := k.output.trans h.output
  frz := fun a => (k.frz a).trans (h.frz a)
  size := Nat.le_trans h.size k.size
  same := fun i hi hm => by
    refine (k.same i (Nat.lt_of_lt_of_le hi h.size) fun hm1 => ?_).trans (h.same i hi hm)
    rcases h.own i hm1 with h1 | h1
    · omega
    · exact hm h1
  own := fun i hm => by
    rcases k.own i hm with h1 | h1
    · exact .inl (Nat.le_trans h.size h1)
    · exact h.own i h1
structure HF (fl nx nx' : Nat) (g g' : Hp) : Prop where
  le : nx ≤ nx'
  low : ∀ b, b < fl → b < nx → g' b = g b
  high : ∀ b, nx' ≤ b → g' b = g b
theorem HF.refl (fl nx : Nat) (g : Hp) : HF fl nx nx g g := ⟨Nat.le_refl _, fun _ _ _ => rfl, fun _ _ => rfl⟩
theorem HF.trans {fl nx n1 nx' : Nat} {g g1 g' : Hp} (h : HF fl nx n1 g g1) (k : HF fl n1 nx' g1 g') : HF fl nx nx' g g' :=
  ⟨Nat.le_trans h.le k.le, fun b h1 h2 => (k.low b h1 (Nat.lt_of_lt_of_le h2 h.le)).trans (h.low b h1 h2), fun b hb => (k.high b hb).trans (h.high b (Nat.le_trans k.le hb))⟩
end Go.Hx

namespace Go.Hx
variable {P : Program}
theorem zq (b o n : Nat) : (⟨b, o, none⟩ : Addr).add n = ⟨b, o + n, none⟩ := by
 unfold Addr.add
 split
 ·subst_vars; rfl
 ·rfl
def Rho.put (ρ : Rho) (b : Nat) (r : RI) : Rho := fun j => if j = b then some r else ρ j
theorem Rho.put_same (ρ : Rho) (b : Nat) (r : RI) : ρ.put b r b = some r := by simp [Rho.put]
theorem Rho.put_other (ρ : Rho) {b j : Nat} (r : RI) (h : j ≠ b) : ρ.put b r j = ρ j := by simp [Rho.put, h]
theorem Rho.le_put {ρ : Rho} {b : Nat} (r : RI) (h : ρ b = none) : Rho.le ρ (ρ.put b r) := fun j q hq => by
 by_cases e : j = b
 ·subst e; rw [h] at hq; cases hq
 ·rw [Rho.put_other _ _ e]; exact hq
theorem Rho.le_refl (ρ : Rho) : Rho.le ρ ρ := fun _ _ h => h
theorem yk {base fl nx : Nat} {g g' : Hp} {ρ : Rho} {W : World} {x : HBlk} {o : Obj} {r : RI} (hs : Sim P base g ρ W) (hn : ρ nx = none)
  (hg : ∀ b, g' b = if b = nx then some x else g b) (hr : r.blk = W.heap.size) (hx : BOk P base (ρ.put nx r) (W.alloc o) nx x) (hz : zOf o = (0, 0) := by rfl) :
  Post P base fl nx (nx + 1) g g' ρ (ρ.put nx r) W (W.alloc o) where
 ext := Rho.le_put r hn
 out := fun b hb => Rho.put_other _ _ (by omega)
 sim := by
  have keep : ∀ b y, g b = some y → BOk P base (ρ.put nx r) (W.alloc o) b y := fun b y hy =>
   (hs.ok b y hy).keep (Rho.le_put r hn) fun q hq => by
    obtain ⟨q', hq', hlt, _⟩ := (hs.ok b y hy).has
    rw [hq] at hq'; cases hq'
    exact heap_alloc_old W o _ hlt
  have fact : ∀ b y, g' b = some y → b ≠ nx → g b = some y := fun b y hy e => by rw [hg, if_neg e] at hy; exact hy
  refine ⟨fun b y hy => ?_, fun b b' y y' q q' h1 h2 h3 h4 h5 h6 h7 => ?_⟩
  ·by_cases e : b = nx
   ·subst e; rw [hg, if_pos rfl] at hy; cases hy; exact hx
   ·exact keep b y (fact b y hy e)
  ·by_cases e : b = nx
   ·subst e
    rw [Rho.put_same] at h6; cases h6
    have e' : b' ≠ b := fun h => h5 h.symm
    rw [Rho.put_other _ _ e'] at h7
    obtain ⟨q0, hq0, hlt, _⟩ := (hs.ok b' y' (fact _ _ h2 e')).has
    rw [h7] at hq0; cases hq0; omega
   ·rw [Rho.put_other _ _ e] at h6
    by_cases e' : b' = nx
    ·subst e'
     rw [Rho.put_same] at h7; cases h7
     obtain ⟨q0, hq0, hlt, _⟩ := (hs.ok b y (fact _ _ h1 e)).has
     rw [h6] at hq0; cases hq0; omega
    ·rw [Rho.put_other _ _ e'] at h7
     exact hs.inj b b' y y' q q' (fact _ _ h1 e) (fact _ _ h2 e') h3 h4 h5 h6 h7
 os := rfl
 tape := rfl
 output := rfl
 frz := jH hz
 size := by simp
 same := fun k hk _ => heap_alloc_old W o k hk
 own := fun k ⟨b, y, q, h1, h2, h3, h4, h5⟩ => by
  by_cases e : b = nx
  ·subst e; rw [Rho.put_same] at h4; cases h4; exact .inl (by omega)
  ·rw [Rho.put_other _ _ e] at h4
   rw [hg, if_neg e] at h1
   exact .inr ⟨b, y, q, h1, h2, h3, h4, h5⟩
theorem zV {fl nx : Nat} {g g' : Hp} {x : HBlk} (hg : ∀ b, g' b = if b = nx then some x else g b) : HF fl nx (nx + 1) g g' :=
 ⟨by omega, fun b _ h => by rw [hg, if_neg (by omega)], fun b h => by rw [hg, if_neg (by omega)]⟩
theorem HS.get_new (σ : HS) (x : HBlk) (b : Nat) : (σ.new x).h.get b = if b = σ.nx then some x else σ.h.get b := Tr.get_set _ _ _ _
theorem HS.get_upd (σ : HS) (j : Nat) (x : Option HBlk) (b : Nat) : (σ.upd j x).h.get b = if b = j then x else σ.h.get b := Tr.get_set _ _ _ _
theorem zP {base fl nx j : Nat} {g g' : Hp} {ρ : Rho} {W W' : World} {x : HBlk} {y : Option HBlk} {r : RI} (hs : Sim P base g ρ W) (hj : g j = some x) (ho : x.own = true) (hfl : fl ≤ j) (hr : ρ j = some r)
  (hg : ∀ b, g' b = if b = j then y else g b) (hos : W'.os = W.os) (htape : W'.tape = W.tape) (hout : W'.output = W.output) (hfz : ∀ a, W'.frozen? a = W.frozen? a) (hsize : W.heap.size ≤ W'.heap.size)
  (hsame : ∀ k, k < W.heap.size → k ≠ r.blk → W'.heap[k]? = W.heap[k]?) (hy : ∀ z, y = some z → BOk P base ρ W' j z) :
  Post P base fl nx nx g g' ρ ρ W W' where
 ext := Rho.le_refl ρ
 out := fun _ _ => rfl
 sim := by
  have fact : ∀ b z, g' b = some z → b ≠ j → g b = some z := fun b z hz e => by rw [hg, if_neg e] at hz; exact hz
  have hx0 := (hs.ok j x hj).has
  refine ⟨fun b z hz => ?_, fun b b' z z' q q' h1 h2 h3 h4 h5 h6 h7 => ?_⟩
  ·by_cases e : b = j
   ·subst e; rw [hg, if_pos rfl] at hz; exact hy z hz
   ·refine (hs.ok b z (fact b z hz e)).keep (Rho.le_refl ρ) fun q hq => hsame _ ?_ ?_
    ·obtain ⟨q', hq', hlt, _⟩ := (hs.ok b z (fact b z hz e)).has
     rw [hq] at hq'; cases hq'; exact hlt
    ·obtain ⟨q', hq', hlt, hb1, hb2⟩ := (hs.ok b z (fact b z hz e)).has
     rw [hq] at hq'; cases hq'
     obtain ⟨r', hr', _, hr1, _⟩ := hx0
     rw [hr] at hr'; cases hr'
     cases ho' : z.own with
     | true => exact hs.inj b j z x q r (fact b z hz e) hj ho' ho e hq hr
     | false => have := hb2 ho'; have := hr1 ho; omega
  ·have key : ∀ b z q, g' b = some z → ρ b = some q → z.own = true → ∃ z0, g b = some z0 ∧ z0.own = true := fun b z q hz _ ho' => by
    by_cases e : b = j
    ·subst e; exact ⟨x, hj, ho⟩
    ·exact ⟨z, fact b z hz e, ho'⟩
   obtain ⟨z0, e1, e2⟩ := key b z q h1 h6 h3
   obtain ⟨z1, e3, e4⟩ := key b' z' q' h2 h7 h4
   exact hs.inj b b' z0 z1 q q' e1 e3 e2 e4 h5 h6 h7
 os := hos
 tape := htape
 output := hout
 frz := hfz
 size := hsize
 same := fun k hk hm => hsame k hk fun e => hm ⟨j, x, r, hj, ho, hfl, hr, e.symm⟩
 own := fun k ⟨b, z, q, h1, h2, h3, h4, h5⟩ => by
  by_cases e : b = j
  ·subst e; exact .inr ⟨b, x, q, hj, ho, h3, h4, h5⟩
  ·rw [hg, if_neg e] at h1; exact .inr ⟨b, z, q, h1, h2, h3, h4, h5⟩
theorem zU {fl nx j : Nat} {g g' : Hp} {y : Option HBlk} (hfl : fl ≤ j) (hj : j < nx) (hg : ∀ b, g' b = if b = j then y else g b) : HF fl nx nx g g' :=
 ⟨Nat.le_refl _, fun b h _ => by rw [hg, if_neg (by omega)], fun b h => by rw [hg, if_neg (by omega)]⟩
theorem yB : ∀ {n : Nat} {l cs : List HV}, takeN n l = some cs → cs = l.take n ∧ cs.length = n
 | 0, l, cs, h => by simp [takeN] at h; subst h; simp
 | n + 1, [], cs, h => by simp [takeN] at h
 | n + 1, v :: l, cs, h => by
  simp only [takeN, Option.map_eq_some_iff] at h
  obtain ⟨ds, hd, rfl⟩ := h
  obtain ⟨h1, h2⟩ := yB hd
  exact ⟨by simp [← h1], by simp [h2]⟩
theorem zH : ∀ {l : List HV} {o : Nat} {vs l' : List HV}, overwrite l o vs = some l' → l'.length = l.length ∧ (vs ≠ [] → o + vs.length ≤ l.length) ∧
  ∀ i, l'[i]? = if o ≤ i ∧ i < o + vs.length then vs[i - o]? else l[i]?
 | l, o, [], l', h => by
  have : l' = l := by
   have e : overwrite l o [] = some l := by cases l <;> cases o <;> rfl
   rw [e] at h; exact (Option.some.inj h).symm
  subst this
  exact ⟨rfl, fun h => absurd rfl h, fun i => by rw [if_neg (by simp only [List.length_nil]; omega)]⟩
 | [], o, v :: vs, l', h => by simp [overwrite] at h
 | x :: l, 0, v :: vs, l', h => by
  simp only [overwrite, Option.map_eq_some_iff] at h
  obtain ⟨d, hd, rfl⟩ := h
  obtain ⟨h1, h2, h3⟩ := zH hd
  refine ⟨by simp [h1], fun _ => ?_, fun i => ?_⟩
  ·by_cases e : vs = []
   ·subst e; simp
   ·have := h2 e; simp at this ⊢; omega
  ·cases i with
   | zero => simp
   | succ i =>
    have := h3 i
    simp only [List.getElem?_cons_succ, this, List.length_cons]
    by_cases hi : i < vs.length
    ·rw [if_pos (by omega), if_pos (by omega)]; simp
    ·rw [if_neg (by omega), if_neg (by omega)]
 | x :: l, o + 1, v :: vs, l', h => by
  simp only [overwrite, Option.map_eq_some_iff] at h
  obtain ⟨d, hd, rfl⟩ := h
  obtain ⟨h1, h2, h3⟩ := zH hd
  refine ⟨by simp [h1], fun hn => ?_, fun i => ?_⟩
  ·have := h2 hn; simp at this ⊢; omega
  ·cases i with
   | zero => rw [if_neg (by omega)]; simp
   | succ i =>
    have := h3 i
    simp only [List.getElem?_cons_succ, this]
    by_cases hi : o ≤ i ∧ i < o + (v :: vs).length
    ·rw [if_pos hi, if_pos (by omega)]; congr 1; omega
    ·rw [if_neg hi, if_neg (by omega)]
theorem LR.of_cells {ρ : Rho} {C : Array Value} : ∀ {cs : List HV} {off : Nat}, (∀ (i : Nat) (v : HV), cs[i]? = some v → ∃ u, C[off + i]? = some u ∧ VR ρ v u) →
  ∃ U : List Value, LR ρ cs U ∧ ∀ j u, U[j]? = some u → C[off + j]? = some u
 | [], off, _ => ⟨[], LR.nil ρ, fun j u h => by simp at h⟩
 | v :: cs, off, h => by
  obtain ⟨u, hu, hv⟩ := h 0 v rfl
  obtain ⟨U, hU, hC⟩ := LR.of_cells (cs := cs) (off := off + 1) fun i w hw => by
   obtain ⟨x, hx, hr⟩ := h (i + 1) w (by simpa using hw)
   exact ⟨x, by rw [← hx]; congr 1; omega, hr⟩
  refine ⟨u :: U, LR.cons hv hU, fun j x hx => ?_⟩
  cases j with
  | zero => simp at hx; subst hx; simpa using hu
  | succ j => rw [← hC j x (by simpa using hx)]; congr 1; omega
theorem yJ {base : Nat} {ρ : Rho} {W : World} {σ : HS} {a : Nat × Nat} {n : Nat} {cs : List HV} (hs : Sim P base σ.h.get ρ W) (h : σ.read a n = some cs) :
  ∃ (r : RI) (U : List Value), ρ a.1 = some r ∧ LR ρ cs U ∧ U.length = n ∧ cs.length = n ∧ (∀ j u, U[j]? = some u → W.cell? ⟨r.blk, r.off + a.2 + j, none⟩ = some u) := by
 simp only [HS.read, HS.cells, Option.bind_eq_bind, Option.bind_eq_some_iff] at h
 obtain ⟨all, h1, h2⟩ := h
 split at h1
 ·rename_i cs' k hb
  cases h1
  obtain ⟨r, C, e, z, hr, hw, hc, _⟩ := hs.ok _ _ hb
  obtain ⟨e1, e2⟩ := yB h2
  obtain ⟨U, hU, hC⟩ := LR.of_cells (C := C) (cs := cs) (off := r.off + a.2) (ρ := ρ) fun i v hv => by
   rw [e1, List.getElem?_take] at hv
   split at hv
   ·rw [List.getElem?_drop] at hv
    obtain ⟨u, hu, hr'⟩ := hc _ _ hv
    exact ⟨u, by rw [← hu]; congr 1; omega, hr'⟩
   ·cases hv
  exact ⟨r, U, hr, hU, hU.1.symm.trans e2, e2, fun j u hu => by rw [cell_of_row W r.blk _ C e z hw]; exact hC j u hu⟩
 ·cases h1
theorem zr {W : World} {b o n : Nat} {U : List Value} (hl : U.length = n) (h : ∀ j u, U[j]? = some u → W.cell? ⟨b, o + j, none⟩ = some u) :
  (loadCells ⟨b, o, none⟩ n).run P W = .ok U.toArray W := by
 rw [← hl]
 exact run_loadCells_list (P := P) W _ U fun j u hu => by rw [zq]; exact h j u hu
theorem LR.all_one {ρ : Rho} {vs : List HV} {U : List Value} (h : LR ρ vs U) (h1 : vs.all HV.one = true) : ∀ u ∈ U, u.oneCell' = true := by
 intro u hu
 obtain ⟨i, hi⟩ := List.getElem?_of_mem hu
 have hlt : i < vs.length := by rw [h.1]; exact (List.getElem?_eq_some_iff.1 hi).1
 have hv : vs[i]? = some vs[i] := List.getElem?_eq_getElem hlt
 exact (h.2 i _ _ hv hi).one (List.all_eq_true.1 h1 _ (List.getElem_mem hlt))
theorem yU {base fl : Nat} {ρ : Rho} {W : World} {σ σ' : HS} {a : Nat × Nat} {vs : List HV} {U : List Value} (hs : Sim P base σ.h.get ρ W) (h : σ.write fl a vs = some σ') (hU : LR ρ vs U) :
  σ'.nx = σ.nx ∧ ∃ (r : RI) (W' : World), ρ a.1 = some r ∧ (storeCells ⟨r.blk, r.off + a.2, none⟩ U).run P W = .ok () W' ∧
   Post P base fl σ.nx σ.nx σ.h.get σ'.h.get ρ ρ W W' := by
 unfold HS.write at h
 split at h
 ·cases h
 ·rename_i cs k hne hb
  cases hc : (Nat.ble fl a.1 && vs.all HV.one) with
  | false => rw [hc] at h; cases h
  | true =>
   rw [hc] at h
   simp only [Bool.and_eq_true, cond_true, Option.map_eq_some_iff] at hc h
   obtain ⟨cs', ho, rfl⟩ := h
   obtain ⟨hfl, hone⟩ := hc
   have hfl := Nat.le_of_ble_eq_true hfl
   obtain ⟨r, C, e, z, hr, hw, hcell, hk⟩ := hs.ok _ _ hb
   obtain ⟨l1, l2, l3⟩ := zH ho
   have hown : HBlk.own (.cells cs k) = true := by cases k <;> first | rfl | exact absurd rfl hne
   have hz : z = (0, 0) := by cases k <;> first | exact absurd rfl hne | exact hk.2.1
   subst hz
   refine ⟨rfl, r, ?_⟩
   by_cases hv : vs = []
   ·subst hv
    have hU0 := LR.inv_nil hU
    subst hU0
    have hcs : cs' = cs := by
     apply List.ext_getElem?
     intro i
     rw [l3, if_neg (by simp only [List.length_nil]; omega)]
    subst hcs
    exact ⟨W, hr, rfl, zP hs hb hown hfl hr (HS.get_upd σ _ _) rfl rfl rfl (fun _ => rfl) (Nat.le_refl _) (fun _ _ _ => rfl) fun z hz => by cases hz; exact ⟨r, C, e, (0, 0), hr, hw, hcell, hk⟩⟩
   ·have hb2 := l2 hv
    have hlen : r.off + cs.length ≤ C.size := by
     by_cases hcl : cs.length = 0
     ·exfalso; have : vs.length = 0 := by omega
      exact hv (List.length_eq_zero_iff.1 this)
     ·obtain ⟨u, hu, _⟩ := hcell (cs.length - 1) cs[cs.length - 1] (List.getElem?_eq_getElem (by omega))
      have := (Array.getElem?_eq_some_iff.1 hu).1
      omega
    have hst := run_storeCells_at P r.blk (r.off + a.2) e U 0 C W hw (by rw [← hU.1]; omega) (hU.all_one hone)
    refine ⟨_, hr, by simpa using hst, ?_⟩
    have hrow : ∀ D : Array Value, (W.setRow r.blk D).heap[r.blk]? = some (.cells D e (0, 0)) := fun D => setRow_heap W r.blk C D e (0, 0) hw
    refine zP hs hb hown hfl hr (HS.get_upd σ _ _) rfl rfl rfl (fun a => ?_) (by simp) (fun k _ hk => ?_) fun z hz => ?_
    ·rw [zD, zD]
     by_cases ea : a.block = r.blk
     ·rw [ea, hrow, hw]; rfl
     ·simp only [World.setRow]
      rw [Array.getElem?_modify, if_neg (by omega)]
    ·simp only [World.setRow]
     rw [Array.getElem?_modify, if_neg (by omega)]
    ·cases hz
     refine ⟨r, _, e, (0, 0), hr, hrow _, fun i v hi => ?_, ?_⟩
     ·rw [l3] at hi
      have hUl := hU.1
      by_cases hin : a.2 ≤ i ∧ i < a.2 + vs.length
      ·rw [if_pos hin] at hi
       have hlt : i - a.2 < U.length := by omega
       refine ⟨U[i - a.2], ?_, hU.2 _ _ _ hi (List.getElem?_eq_getElem hlt)⟩
       rw [List.getElem?_toArray, List.getElem?_append_right (by simp; omega)]
       rw [List.getElem?_append_left (by simp; omega)]
       rw [List.getElem?_eq_some_iff]
       refine ⟨by simp; omega, ?_⟩
       congr 1
       simp
       omega
      ·rw [if_neg hin] at hi
       obtain ⟨u, hu, hr'⟩ := hcell i v hi
       refine ⟨u, ?_, hr'⟩
       rw [List.getElem?_toArray]
       by_cases hlt : i < a.2
       ·rw [List.getElem?_append_left (by simp; omega), List.getElem?_take, if_pos (by omega)]
        simpa using hu
       ·have hlo : a.2 + vs.length ≤ i := by omega
        rw [List.getElem?_append_right (by simp; omega), List.getElem?_append_right (by simp; omega), List.getElem?_drop]
        rw [← Array.getElem?_toList] at hu
        rw [← hu]
        congr 1
        simp
        omega
     ·cases k with
      | ro => exact absurd rfl hne
      | exact => exact hk
      | opn s =>
       obtain ⟨k1, k2, k3⟩ := hk
       refine ⟨k1, rfl, ?_⟩
       have := hU.1
       simp
       omega
 ·cases h
end Go.Hx

namespace Go.Hx
variable {P : Program}
structure AR (ρ : Rho) (a : HAct) (A : Act) : Prop where
 tmps : TR ρ a.nt a.tmps A.tmps
 defers : A.defers = a.defers.map fun m => ⟨.collected ((ρ m).elim 0 RI.blk), #[]⟩
 marks : ∀ m ∈ a.defers, (ρ m).isSome = true
theorem AR.mono {ρ ρ' : Rho} (hle : Rho.le ρ ρ') {a : HAct} {A : Act} (h : AR ρ a A) : AR ρ' a A where
 tmps := h.tmps.mono hle
 defers := by
  rw [h.defers]
  apply List.map_congr_left
  intro m hm
  obtain ⟨r, hr⟩ := Option.isSome_iff_exists.1 (h.marks m hm)
  rw [hr, hle _ _ hr]
 marks := fun m hm => by
  obtain ⟨r, hr⟩ := Option.isSome_iff_exists.1 (h.marks m hm)
  rw [hle _ _ hr]; rfl
theorem TR.put {ρ : Rho} {nt d : Nat} {t : Tr HV} {T : Array Value} {v : HV} {V : Value} (h : TR ρ nt t T) (hd : d < nt) (hv : VR ρ v V) : TR ρ nt (t.set d (some v)) (T.setIfInBounds d V) := by
 refine ⟨by simp [h.1], fun j => ?_⟩
 rw [Tr.get_set]
 by_cases e : j = d
 ·subst e
  rw [if_pos rfl]
  have : j < T.size := by rw [h.1]; exact hd
  simpa [Array.getD, this] using hv
 ·rw [if_neg e]
  have := h.2 j
  simp only [Array.getD_eq_getD_getElem?] at this ⊢
  rw [Array.getElem?_setIfInBounds_ne (by omega)]
  exact this
theorem AR.put {ρ : Rho} {a : HAct} {A : Act} (h : AR ρ a A) {v : HV} {V : Value} (hv : VR ρ v V) (dst : Option Nat) : AR ρ (a.put dst v) (A.put dst V) := by
 cases dst with
 | none => exact h
 | some d =>
  unfold HAct.put Act.put
  simp only
  cases hb : Nat.blt d a.nt with
  | true =>
   have hd : d < a.nt := by simpa [Nat.blt_eq] using hb
   exact ⟨h.tmps.put hd hv, h.defers, h.marks⟩
  | false =>
   have hd : ¬ d < a.nt := by intro h; rw [← Nat.blt_eq] at h; rw [h] at hb; cases hb
   have hA : A.tmps.size ≤ d := by have := h.tmps.1; omega
   have : A.tmps.setIfInBounds d V = A.tmps := by simp [Array.setIfInBounds]; intro h; omega
   simp only [cond_false, this]
   exact ⟨h.tmps, h.defers, h.marks⟩
theorem AR.tmp {ρ : Rho} {a : HAct} {A : Act} (h : AR ρ a A) (t : Nat) : VR ρ (a.tmp t) (A.tmps.getD t Go.undef) := h.tmps.2 t
theorem uw {v : Value} {x : HV} (h : lowV1 v = some x) (ρ : Rho) : VR ρ x v := by
 unfold lowV1 at h
 split at h <;> first | (cases h; first | exact .bool _ | exact .int _ _ | exact .str _ | exact .ptr0 | exact .slice0 | exact .map0 | exact .nilFunc | exact .nilIface) | cases h
theorem uv (ρ : Rho) : ∀ {vs : List Value} {xs : List HV}, lowVs vs = some xs → LR ρ xs vs
 | [], xs, h => by cases h; exact LR.nil ρ
 | v :: vs, xs, h => by
  unfold lowVs at h
  split at h
  ·rename_i x xs' h1 h2; cases h; exact LR.cons (uw h1 ρ) (uv ρ h2)
  ·cases h
theorem jn {v : Value} {x : HV} (h : lowV v = some x) (ρ : Rho) : VR ρ x v := by
 unfold lowV at h
 split at h
 ·rename_i cs
  simp only [Option.map_eq_some_iff] at h
  obtain ⟨xs, h1, rfl⟩ := h
  exact VR.aggL (uv ρ h1)
 ·exact uw h ρ
theorem zj {ρ : Rho} {a : HAct} {A : Act} (h : AR ρ a A) {x : Operand} {y : Lo} (hx : lowX x = some y) : VR ρ (a.ev y) (A.eval x) := by
 cases x with
 | tmp t => cases hx; exact h.tmp t
 | const v =>
  simp only [lowX, Option.map_eq_some_iff] at hx
  obtain ⟨z, h1, rfl⟩ := hx
  exact jn h1 ρ
 | func f =>
  cases hx
  exact VR.func rfl rfl (fun i v u hv _ => by simp at hv) (fun i v u hv _ => by simp at hv)
 | global g => cases hx
theorem yZ {ρ : Rho} {a : HAct} {A : Act} (h : AR ρ a A) : ∀ {xs : List Operand} {ys : List Lo}, lowXs xs = some ys → LR ρ (ys.map a.ev) (xs.map A.eval)
 | [], ys, hx => by cases hx; exact LR.nil ρ
 | x :: xs, ys, hx => by
  unfold lowXs at hx
  split at hx
  ·rename_i y ys' h1 h2; cases hx; exact LR.cons (zj h h1) (yZ h h2)
  ·cases hx
def Does (P : Program) (base fl : Nat) (σ σ' : HS) (ρ : Rho) (W : World) (s : Sem Next) (v : HV) : Prop :=
 ∃ V W' ρ', (s.run P W = .ok (.value V) W' ∨ (s.run P W = .ok .skip W' ∧ V = Go.undef)) ∧ VR ρ' v V ∧ Post P base fl σ.nx σ'.nx σ.h.get σ'.h.get ρ ρ' W W'
theorem zc {base fl : Nat} {σ : HS} {ρ : Rho} {W : World} {s : Sem Next} {v : HV} {V : Value} (hs : Sim P base σ.h.get ρ W) (hr : s.run P W = .ok (.value V) W) (hv : VR ρ v V) :
  Does P base fl σ σ ρ W s v := ⟨V, W, ρ, .inl hr, hv, Post.refl hs⟩
theorem uu {ρ : Rho} {cs : List HV} {C : List Value} (h : LR ρ cs C) : CellsOk ρ cs C.toArray 0 := fun i v hv => by
 have hlt : i < C.length := by rw [← h.1]; exact (List.getElem?_eq_some_iff.1 hv).1
 exact ⟨C[i], by simp [hlt], h.2 i v _ hv (List.getElem?_eq_getElem hlt)⟩
theorem yj {base fl : Nat} {σ : HS} {ρ : Rho} {W : World} {cs : List HV} {C : List Value} {e : TypeId} (hs : Sim P base σ.h.get ρ W) (hb : base ≤ W.heap.size) (hn : ρ σ.nx = none) (hc : LR ρ cs C) :
  Post P base fl σ.nx (σ.nx + 1) σ.h.get (σ.new (.cells cs .exact)).h.get ρ (ρ.put σ.nx ⟨W.heap.size, 0, 0⟩) W (W.alloc (.cells C.toArray e)) :=
 yk hs hn (HS.get_new σ _) rfl ⟨⟨W.heap.size, 0, 0⟩, C.toArray, e, (0, 0), Rho.put_same _ _ _, heap_alloc_new W _, (uu (hc.mono (Rho.le_put _ hn))), hb, rfl, rfl⟩
theorem vi (ρ : Rho) (nx n l c : Nat) : VR (ρ.put nx ⟨n, 0, 0⟩) (.ptr (some (nx, 0))) (.pointer (some ⟨n, 0, none⟩)) ∧ VR (ρ.put nx ⟨n, 0, 0⟩) (.slice (some (nx, 0)) l c) (.slice (some ⟨n, 0, none⟩) l c) :=
 ⟨.ptr (r := ⟨n, 0, 0⟩) (Rho.put_same _ _ _), .slice (r := ⟨n, 0, 0⟩) (Rho.put_same _ _ _)⟩
theorem zC {t : TypeId} {z : HV} (h : zeroV P t = some z) (ρ : Rho) : ∃ i Z, P.info? t = some i ∧ i.zero = some Z ∧ VR ρ z Z := by
 simp only [zeroV, Option.bind_eq_some_iff] at h
 obtain ⟨Z, ⟨i, h1, h2⟩, h3⟩ := h
 exact ⟨i, Z, h1, h2, jn h3 ρ⟩
theorem zi {t : TypeId} {n : Nat} (h : szOf P t = some n) : ∃ i, P.info? t = some i ∧ i.size = n := by
 simpa [szOf] using h
theorem z2 {t : TypeId} {i : TypeInfo} (h : P.info? t = some i) (W : World) : (typeInfo t).run P W = .ok i W := by
 simp [typeInfo, h]
theorem zF {t : TypeId} {i : TypeInfo} {Z : Value} (h : P.info? t = some i) (hz : i.zero = some Z) (W : World) : (zeroValue t).run P W = .ok Z W := by
 simp [zeroValue, z2 h, hz]
theorem zg {t : TypeId} {i : TypeInfo} (h : P.info? t = some i) (W : World) : (sizeOf t).run P W = .ok i.size W := by
 simp [sizeOf, z2 h]
theorem za {t : TypeId} {d : TypeDesc} (h : P.underlying t = some d) (W : World) : (underlying t).run P W = .ok d W := run_underlying h W
theorem zY {t : TypeId} {b : Bool} (h : aggOf P t = some b) (W : World) : (isAgg t).run P W = .ok b W := by
 unfold aggOf at h
 split at h
 ·rename_i hu; cases h; simp [isAgg, za hu]
 ·rename_i hu; cases h; simp [isAgg, za hu]
 ·rename_i d h1 h2 hu; cases h; simp only [isAgg, Sem.run_bind, za hu, Result.andThen_ok]; rfl
 ·cases h
section
variable {base fl : Nat} {a : HAct} {σ σ' : HS} {v : HV} {ρ : Rho} {A : Act} {W : World} {o : Oper}
theorem jk {x : Operand} {y : Lo} (ho : o.op = .move x ∨ o.op = .assign x) (hx : lowX x = some y) (h : oMove y a σ = some (v, σ')) (hs : Sim P base σ.h.get ρ W) (ha : AR ρ a A) : HF fl σ.nx σ'.nx σ.h.get σ'.h.get ∧ Does P base fl σ σ' ρ W (execOp A.eval o) v := by
 cases h
 refine ⟨HF.refl _ _ _, zc hs (V := A.eval x) ?_ (zj ha hx)⟩
 rcases ho with ho | ho <;> simp [execOp, ho]
theorem op_pick {c x y : Operand} {c' x' y' : Lo} (ho : o.op = .pick c x y) (hc : lowX c = some c') (hx : lowX x = some x') (hy : lowX y = some y') (h : oPick c' x' y' a σ = some (v, σ')) (hs : Sim P base σ.h.get ρ W) (ha : AR ρ a A) : HF fl σ.nx σ'.nx σ.h.get σ'.h.get ∧ Does P base fl σ σ' ρ W (execOp A.eval o) v := by
 have h1 := zj ha hc
 have h2 := zj ha hx
 have h3 := zj ha hy
 unfold oPick at h
 split at h
 ·rename_i b hb
  cases h
  rw [hb] at h1
  generalize hC : A.eval c = C at h1
  cases h1
  refine ⟨HF.refl _ _ _, zc hs (V := if b then A.eval x else A.eval y) ?_ ?_⟩
  ·simp [execOp, ho, hC, asBool]
  ·cases b
   ·exact h3
   ·exact h2
 ·cases h
theorem op_alloc {t : TypeId} {z : HV} (ho : o.op = .alloc t) (hz : zeroV P t = some z) (h : oAlloc z.cells a σ = some (v, σ')) (hs : Sim P base σ.h.get ρ W) (hb : base ≤ W.heap.size) (hn : ρ σ.nx = none) :
  HF fl σ.nx σ'.nx σ.h.get σ'.h.get ∧ Does P base fl σ σ' ρ W (execOp A.eval o) v := by
 cases h
 obtain ⟨i, Z, h1, h2, h3⟩ := zC hz ρ
 refine ⟨zV (HS.get_new σ _), _, _, _, .inl ?_, (vi ρ σ.nx W.heap.size 0 0).1, yj (e := t) hs hb hn h3.cells⟩
 simp [execOp, ho, Instr.alloc, zF h1 h2, newVar, newRow]
theorem op_box {t : TypeId} {x : Operand} {y : Lo} (ho : o.op = .box t x) (hx : lowX x = some y) (h : oBox y a σ = some (v, σ')) (hs : Sim P base σ.h.get ρ W) (ha : AR ρ a A) (hb : base ≤ W.heap.size) (hn : ρ σ.nx = none) :
  HF fl σ.nx σ'.nx σ.h.get σ'.h.get ∧ Does P base fl σ σ' ρ W (execOp A.eval o) v := by
 cases h
 refine ⟨zV (HS.get_new σ _), _, _, _, .inl ?_, (vi ρ σ.nx W.heap.size 0 0).1, yj (e := t) hs hb hn (zj ha hx).cells⟩
 simp [execOp, ho, Instr.box, newVar, newRow]
end
end Go.Hx

namespace Go.Hx
variable {P : Program} {base fl : Nat} {a : HAct} {σ σ' : HS} {v : HV} {ρ : Rho} {A : Act} {W : World} {o : Oper}
theorem yh {ρ : Rho} {b q : Nat} {V : Value} (h : VR ρ (.ptr (some (b, q))) V) : ∃ r, ρ b = some r ∧ V = .pointer (some ⟨r.blk, r.off + q, none⟩) := by
 cases h with
 | ptr h => exact ⟨_, h, rfl⟩
theorem zZ {ρ : Rho} {k : IntKind} {n : Int} {V : Value} (h : VR ρ (.int k n) V) : V = .int k n := by cases h; rfl
theorem yI {ρ : Rho} {b : Bool} {V : Value} (h : VR ρ (.bool b) V) : V = .bool b := by cases h; rfl
theorem ue {ρ : Rho} {b q l c : Nat} {V : Value} (h : VR ρ (.slice (some (b, q)) l c) V) : (∃ r, ρ b = some r ∧ V = .slice (some ⟨r.blk, r.off + q, none⟩) l (c + r.extra)) ∨ (l = 0 ∧ c = 0 ∧ ∃ a, V = .slice (some a) 0 0) := by
 cases h with
 | slice h => exact .inl ⟨_, h, rfl⟩
 | slice00 a => exact .inr ⟨rfl, rfl, a, rfl⟩
theorem uf {ρ : Rho} {l c : Nat} {V : Value} (h : VR ρ (.slice none l c) V) : V = .slice none 0 0 ∧ l = 0 ∧ c = 0 := by
 cases h; exact ⟨rfl, rfl, rfl⟩
theorem uN {ρ : Rho} {b : Nat} {V : Value} (h : VR ρ (.map (some b)) V) : ∃ r, ρ b = some r ∧ V = .map (some r.blk) := by
 cases h with
 | map h => exact ⟨_, h, rfl⟩
theorem yD {ρ : Rho} {x : HV} {n : Nat} {V : Value} (h : VR ρ x V) (hn : natOf x = some n) : ∃ k, V = .int k (n : Int) := by
 unfold natOf at hn
 split at hn
 ·rename_i k m
  cases hn
  rw [zZ h]
  exact ⟨k, rfl⟩
 ·cases hn
theorem yq {a b : Nat} (h : Nat.blt a b = true) : a < b := by rwa [Nat.blt_eq] at h
theorem zn {σ σ' : HS} {r : Option HV} {v : HV} (h : keep σ r = some (v, σ')) : r = some v ∧ σ' = σ := by
 unfold keep at h
 split at h
 ·cases h; exact ⟨rfl, rfl⟩
 ·cases h
theorem jl {t : TypeId} {x : Operand} {y : Lo} {g : Bool} {n n0 : Nat} (ho : o.op = .load t x) (hg : aggOf P t = some g) (hz : szOf P t = some n0) (hn : n = if g then n0 else 1) (hx : lowX x = some y) (h : oLoad g n y a σ = some (v, σ'))
  (hs : Sim P base σ.h.get ρ W) (ha : AR ρ a A) : HF fl σ.nx σ'.nx σ.h.get σ'.h.get ∧ Does P base fl σ σ' ρ W (execOp A.eval o) v := by
 have h1 := zj ha hx
 obtain ⟨i, hi, hi2⟩ := zi hz
 unfold oLoad at h
 split at h
 ·rename_i p hp
  obtain ⟨b, q⟩ := p
  rw [hp] at h1
  obtain ⟨r, hr, hV⟩ := yh h1
  split at h
  ·rename_i cs hc
   obtain ⟨hw, rfl⟩ := zn h
   obtain ⟨r', U, hr', hU, hl, hl', hcell⟩ := yJ hs hc
   rw [hr] at hr'; cases hr'
   refine ⟨HF.refl _ _ _, ?_⟩
   cases g with
   | true =>
    have hw : v = .agg cs := by simpa [whole] using hw.symm
    subst hw
    have hn : n = n0 := hn
    subst hn
    refine zc hs (V := .agg U.toArray) ?_ (VR.aggL hU)
    simp [execOp, ho, hV, Instr.loadAt, Instr.sureAddr, loadVar, zY hg, zg hi, hi2, zr hl hcell]
   | false =>
    have hw : ∃ w, cs = [w] ∧ w = v := by
     rcases cs with _ | ⟨w, _ | ⟨w2, rest⟩⟩
     ·simp [whole] at hw
     ·exact ⟨w, rfl, by simpa [whole] using hw⟩
     ·simp [whole] at hw
    obtain ⟨w, rfl, rfl⟩ := hw
    obtain ⟨u, U', rfl, hv, hU'⟩ := LR.inv hU
    have := hcell 0 u rfl
    refine zc hs (V := u) ?_ hv
    simp [execOp, ho, hV, Instr.loadAt, Instr.sureAddr, loadVar, zY hg, show W.cell? ⟨r.blk, r.off + q, none⟩ = some u from this]
  ·cases h
 ·cases h
theorem op_store {t : TypeId} {x w : Operand} {y z : Lo} {n : Nat} (ho : o.op = .store t x w) (hn : szOf P t = some n) (hx : lowX x = some y) (hw : lowX w = some z) (h : oStore fl n y z a σ = some (v, σ'))
  (hs : Sim P base σ.h.get ρ W) (ha : AR ρ a A) (hj : ∀ b x, σ.h.get b = some x → b < σ.nx) : HF fl σ.nx σ'.nx σ.h.get σ'.h.get ∧ Does P base fl σ σ' ρ W (execOp A.eval o) v := by
 have h1 := zj ha hx
 have h2 := zj ha hw
 obtain ⟨i, hi, hi2⟩ := zi hn
 unfold oStore at h
 split at h
 ·rename_i p hp
  obtain ⟨b, q⟩ := p
  rw [hp] at h1
  obtain ⟨r, hr, hV⟩ := yh h1
  rw [zx] at h
  split at h
  ·rename_i hlen
   split at h
   ·rename_i σ1 hwr
    cases h
    obtain ⟨e1, r', W', hr', hrun, hpost⟩ := yU hs hwr h2.cells
    rw [hr] at hr'; cases hr'
    have hup : ∃ y, σ'.h.get = fun j => if j = b then y else σ.h.get j := by
     unfold HS.write at hwr
     split at hwr
     ·cases hwr
     ·cases hc : (Nat.ble fl b && (a.ev z).cells.all HV.one) with
      | false => rw [hc] at hwr; cases hwr
      | true =>
       rw [hc] at hwr
       simp only [cond_true, Option.map_eq_some_iff] at hwr
       obtain ⟨cs', _, rfl⟩ := hwr
       exact ⟨_, funext fun j => HS.get_upd σ _ _ j⟩
     ·cases hwr
    refine ⟨?_, Go.undef, W', ρ, .inr ⟨?_, rfl⟩, VR.undef ρ, by rw [e1]; exact hpost⟩
    ·obtain ⟨y, hy⟩ := hup
     rw [hy, e1]
     have hb : fl ≤ b ∧ b < σ.nx := by
      unfold HS.write at hwr
      split at hwr
      ·cases hwr
      ·rename_i hb
       cases hc : (Nat.ble fl b && (a.ev z).cells.all HV.one) with
       | false => rw [hc] at hwr; cases hwr
       | true => simp at hc; exact ⟨hc.1, hj _ _ hb⟩
      ·cases hwr
     exact zU hb.1 hb.2 (fun _ => rfl)
    ·have hsz : (A.eval w).cells.size = i.size := by
      have := h2.cells.1
      simp at this
      omega
     simp [execOp, ho, hV, Instr.storeAt, Instr.sureAddr, storeVar, zg hi, hsz, hrun]
   ·cases h
  ·cases h
 ·cases h
theorem v5 {t : TypeId} {x : Operand} {y : Lo} {f m : Nat} {fs : Array Field} {fd : Field} (ho : o.op = .fieldAddr t x f) (hu : P.underlying t = some (.struct fs)) (hf : fs[f]? = some fd) (hz : szOf P fd.type = some (m + 1)) (hx : lowX x = some y)
  (h : oFieldAddr fd.offset y a σ = some (v, σ')) (hs : Sim P base σ.h.get ρ W) (ha : AR ρ a A) : HF fl σ.nx σ'.nx σ.h.get σ'.h.get ∧ Does P base fl σ σ' ρ W (execOp A.eval o) v := by
 have h1 := zj ha hx
 obtain ⟨i, hi, hi2⟩ := zi hz
 unfold oFieldAddr at h
 split at h
 ·rename_i b q hp
  cases h
  rw [hp] at h1
  obtain ⟨r, hr, hV⟩ := yh h1
  refine ⟨HF.refl _ _ _, zc hs (V := .pointer (some ⟨r.blk, r.off + (q + fd.offset), none⟩)) ?_ (.ptr hr)⟩
  simp [execOp, ho, hV, Instr.fieldAt, za hu, hf, Instr.sureAddr, fieldPlace, zg hi, hi2, zq, Nat.add_assoc]
 ·cases h
theorem vd {b q size len : Nat} {i : Option Nat} (h : stepTo b q size len i σ = some (v, σ')) : ∃ n, i = some n ∧ n < len ∧ v = .ptr (some (b, q + n * size)) ∧ σ' = σ := by
 unfold stepTo at h
 split at h
 ·rename_i n
  cases hc : Nat.blt n len with
  | false => rw [hc] at h; cases h
  | true => rw [hc] at h; cases h; exact ⟨n, rfl, yq hc, rfl, rfl⟩
 ·cases h
theorem vF {t e : TypeId} {x z : Operand} {y w : Lo} {s : Nat} (ho : o.op = .indexAddr t x z) (hu : P.underlying t = some (.slice e)) (hz : szOf P e = some s) (hx : lowX x = some y) (hw : lowX z = some w)
  (h : oIndexAddrS s y w a σ = some (v, σ')) (hs : Sim P base σ.h.get ρ W) (ha : AR ρ a A) : HF fl σ.nx σ'.nx σ.h.get σ'.h.get ∧ Does P base fl σ σ' ρ W (execOp A.eval o) v := by
 have h1 := zj ha hx
 have h2 := zj ha hw
 obtain ⟨i, hi, hi2⟩ := zi hz
 unfold oIndexAddrS at h
 split at h
 ·rename_i b q len c hp
  obtain ⟨n, hn, hlt, rfl, rfl⟩ := vd h
  rw [hp] at h1
  rcases ue h1 with ⟨r, hr, hV⟩ | ⟨h0, _⟩
  case inr => omega
  obtain ⟨k, hk⟩ := yD h2 hn
  refine ⟨HF.refl _ _ _, zc hs (V := .pointer (some ⟨r.blk, r.off + (q + n * s), none⟩)) ?_ (.ptr hr)⟩
  simp [hlt, execOp, ho, hV, hk, Instr.indexAt, asIntOf, za hu, zg hi, hi2, zq, Nat.add_assoc]
 ·cases h
theorem vG {t e : TypeId} {x z : Operand} {y w : Lo} {s len : Nat} (ho : o.op = .indexAddr t x z) (hu : P.underlying t = some (.array len e)) (hz : szOf P e = some s) (hx : lowX x = some y) (hw : lowX z = some w)
  (h : oIndexAddrA len s y w a σ = some (v, σ')) (hs : Sim P base σ.h.get ρ W) (ha : AR ρ a A) : HF fl σ.nx σ'.nx σ.h.get σ'.h.get ∧ Does P base fl σ σ' ρ W (execOp A.eval o) v := by
 have h1 := zj ha hx
 have h2 := zj ha hw
 obtain ⟨i, hi, hi2⟩ := zi hz
 unfold oIndexAddrA at h
 split at h
 ·rename_i b q hp
  obtain ⟨n, hn, hlt, rfl, rfl⟩ := vd h
  rw [hp] at h1
  obtain ⟨r, hr, hV⟩ := yh h1
  obtain ⟨k, hk⟩ := yD h2 hn
  refine ⟨HF.refl _ _ _, zc hs (V := .pointer (some ⟨r.blk, r.off + (q + n * s), none⟩)) ?_ (.ptr hr)⟩
  simp [hlt, execOp, ho, hV, hk, Instr.indexAt, Instr.sureAddr, asIntOf, za hu, zg hi, hi2, zq, Nat.add_assoc]
 ·cases h
theorem jj {t : TypeId} {g : Bool} {n off : Nat} {cs : List HV} {C : List Value} (hg : aggOf P t = some g) (hz : szOf P t = some n) (h : partH g n off cs = some v) (hc : LR ρ cs C) :
  ∃ V, (part t C.toArray off).run P W = .ok V W ∧ VR ρ v V := by
 obtain ⟨i, hi, hi2⟩ := zi hz
 unfold partH at h
 cases g with
 | true =>
  simp only [cond_true, Option.map_eq_some_iff] at h
  obtain ⟨ds, hd, rfl⟩ := h
  obtain ⟨e1, e2⟩ := yB hd
  refine ⟨.agg (C.toArray.extract off (off + n)), by simp [part, zY hg, zg hi, hi2], ?_⟩
  refine .agg ?_ fun j w u hw hu => ?_
  ·have h1 := hc.1
   have h2 : ds.length ≤ (cs.drop off).length := by rw [e1]; simp; omega
   simp at h2 ⊢
   omega
  ·rw [e1, List.getElem?_take] at hw
   split at hw
   ·rw [List.getElem?_drop] at hw
    have : C[off + j]? = some u := by
     rw [Array.getElem?_extract] at hu
     split at hu
     ·simpa using hu
     ·cases hu
    exact hc.2 _ _ _ hw this
   ·cases hw
 | false =>
  simp only [cond_false] at h
  have hlt : off < C.length := by rw [← hc.1]; exact (List.getElem?_eq_some_iff.1 h).1
  exact ⟨C[off], by simp [part, zY hg, hlt], hc.2 _ _ _ h (List.getElem?_eq_getElem hlt)⟩
theorem op_field {t : TypeId} {x : Operand} {y : Lo} {f n : Nat} {g : Bool} {fs : Array Field} {fd : Field} (ho : o.op = .field t x f) (hu : P.underlying t = some (.struct fs)) (hf : fs[f]? = some fd) (hg : aggOf P fd.type = some g) (hz : szOf P fd.type = some n) (hx : lowX x = some y)
  (h : oField g n fd.offset y a σ = some (v, σ')) (hs : Sim P base σ.h.get ρ W) (ha : AR ρ a A) : HF fl σ.nx σ'.nx σ.h.get σ'.h.get ∧ Does P base fl σ σ' ρ W (execOp A.eval o) v := by
 have h1 := zj ha hx
 unfold oField at h
 split at h
 ·rename_i cs hp
  obtain ⟨hw, rfl⟩ := zn h
  rw [hp] at h1
  obtain ⟨C, hV, hc⟩ := VR.inv_agg h1
  obtain ⟨V, hr, hv⟩ := jj (W := W) hg hz hw hc
  refine ⟨HF.refl _ _ _, zc hs (V := V) ?_ hv⟩
  simp [execOp, ho, hV, Instr.field, za hu, hf, asAgg, hr]
 ·cases h
theorem jD {t e : TypeId} {x z : Operand} {y w : Lo} {s len : Nat} {g : Bool} (ho : o.op = .index t x z) (hu : P.underlying t = some (.array len e)) (hz : szOf P e = some s) (hg : aggOf P e = some g) (hx : lowX x = some y) (hw : lowX z = some w)
  (h : oIndexA len s g y w a σ = some (v, σ')) (hs : Sim P base σ.h.get ρ W) (ha : AR ρ a A) : HF fl σ.nx σ'.nx σ.h.get σ'.h.get ∧ Does P base fl σ σ' ρ W (execOp A.eval o) v := by
 have h1 := zj ha hx
 have h2 := zj ha hw
 obtain ⟨i, hi, hi2⟩ := zi hz
 unfold oIndexA at h
 split at h
 ·rename_i cs n hp hn
  cases hc : Nat.blt n len with
  | false => rw [hc] at h; cases h
  | true =>
   rw [hc] at h
   have hlt := yq hc
   obtain ⟨hw', rfl⟩ := zn h
   rw [hp] at h1
   obtain ⟨C, hV, hC⟩ := VR.inv_agg h1
   obtain ⟨k, hk⟩ := yD h2 hn
   obtain ⟨V, hr, hv⟩ := jj (W := W) hg hz hw' hC
   refine ⟨HF.refl _ _ _, zc hs (V := V) ?_ hv⟩
   have hr' : (part e C.toArray (n * s)).run P W = .ok V W := hr
   simp [hlt, execOp, ho, hV, hk, Instr.index, asIntOf, za hu, zg hi, hi2, hr']
 ·cases h
theorem u3 {x : Operand} {y : Lo} {i : Nat} (ho : o.op = .extract x i) (hx : lowX x = some y) (h : oExtract y i a σ = some (v, σ')) (hs : Sim P base σ.h.get ρ W) (ha : AR ρ a A) : HF fl σ.nx σ'.nx σ.h.get σ'.h.get ∧ Does P base fl σ σ' ρ W (execOp A.eval o) v := by
 have h1 := zj ha hx
 unfold oExtract at h
 split at h
 ·rename_i vs hp
  obtain ⟨hw, rfl⟩ := zn h
  rw [hp] at h1
  obtain ⟨C, hV, hC⟩ := VR.inv_tuple h1
  have hlt : i < C.length := by rw [← hC.1]; exact (List.getElem?_eq_some_iff.1 hw).1
  refine ⟨HF.refl _ _ _, zc hs (V := C[i]) ?_ (hC.2 _ _ _ hw (List.getElem?_eq_getElem hlt))⟩
  simp [execOp, ho, hV, Instr.extract, hlt]
 ·cases h
theorem z8 {ρ : Rho} {f : Nat} {xs ys : List HV} {V : Value} (h : VR ρ (.func f xs ys) V) : ∃ F C : List Value, V = .func (.func f) F.toArray C.toArray ∧ LR ρ xs F ∧ LR ρ ys C := by
 cases h with
 | func hf hc h1 h2 =>
  rename_i F C
  exact ⟨F.toList, C.toList, rfl, ⟨by simpa using hf, fun i v u hv hu => h1 i v u hv (by simpa using hu)⟩, ⟨by simpa using hc, fun i v u hv hu => h2 i v u hv (by simpa using hu)⟩⟩
theorem uo {x : Operand} {y : Lo} (ho : o.op = .nilCheck x) (hx : lowX x = some y) (h : oNilCheck y a σ = some (v, σ')) (hs : Sim P base σ.h.get ρ W) (ha : AR ρ a A) : HF fl σ.nx σ'.nx σ.h.get σ'.h.get ∧ Does P base fl σ σ' ρ W (execOp A.eval o) v := by
 have h1 := zj ha hx
 unfold oNilCheck at h
 split at h
 ·rename_i p hp
  cases h
  obtain ⟨b, q⟩ := p
  rw [hp] at h1
  obtain ⟨r, hr, hV⟩ := yh h1
  exact ⟨HF.refl _ _ _, zc hs (V := A.eval x) (by simp [execOp, ho, hV]) h1⟩
 ·rename_i f xs ys hp
  cases h
  rw [hp] at h1
  obtain ⟨F, C, hV, _, _⟩ := z8 h1
  exact ⟨HF.refl _ _ _, zc hs (V := A.eval x) (by simp [execOp, ho, hV]) h1⟩
 ·cases h
end Go.Hx

namespace Go.Hx
variable {P : Program} {base fl : Nat} {a : HAct} {σ σ' : HS} {v : HV} {ρ : Rho} {A : Act} {W : World} {o : Oper}
theorem jG {op : BinOp} {k : IntKind} {x y : Int} (t : TypeId) (h : intArith op k x y = some v) : ∃ V, (binOp op t (.int k x) (.int k y)).run P W = .ok V W ∧ VR ρ v V := by
  unfold intArith at h
  cases op <;> simp only at h <;> first
    | (cases h; refine ⟨_, by simp only [binOp, Op.intBits, ne_eq, not_true, if_false]; rfl, ?_⟩; exact .int _ _)
    | (cases h; refine ⟨_, by simp [binOp, Op.intArith, Op.intCmp]; rfl, ?_⟩; first | exact .int _ _ | exact .bool _)
    | (split at h
       · cases h
       · rename_i hy; cases h; refine ⟨_, by simp [binOp, Op.intDiv, hy]; rfl, ?_⟩; exact .int _ _)
    | cases h
theorem shift_ok {op : BinOp} {k k' : IntKind} {x y : Int} (t : TypeId) (hs : isShift op = true) (h : shiftH op k x y = some v) : ∃ V, (binOp op t (.int k x) (.int k' y)).run P W = .ok V W ∧ VR ρ v V := by
  unfold shiftH at h
  split at h
  · cases h
  · rename_i hy
    cases op <;> simp only at h <;> first
      | (cases h; refine ⟨_, by simp [binOp, Op.shift, hy]; rfl, ?_⟩; exact .int _ _)
      | cases h
theorem vP (op : BinOp) (t : TypeId) (x y : Operand) (k k' : IntKind) (n m : Int) : (eqGuard op t x y (.int k n) (.int k' m)).run P W = .ok () W := by
  cases op <;> simp [eqGuard]
theorem op_bin {op : BinOp} {t t' : TypeId} {x z : Operand} {y w : Lo} (ho : o.op = .binOp op t x z t') (hx : lowX x = some y) (hz : lowX z = some w) (h : oBin op y w a σ = some (v, σ'))
    (hs : Sim P base σ.h.get ρ W) (ha : AR ρ a A) : HF fl σ.nx σ'.nx σ.h.get σ'.h.get ∧ Does P base fl σ σ' ρ W (execOp A.eval o) v := by
  have h1 := zj ha hx
  have h2 := zj ha hz
  obtain ⟨hb, rfl⟩ := zn h
  rw [binH_eq] at hb
  unfold binH0 at hb
  split at hb
  · rename_i k n k' m e1 e2
    rw [e1] at h1
    rw [e2] at h2
    have e3 := zZ h1
    have e4 := zZ h2
    refine ⟨HF.refl _ _ _, ?_⟩
    cases hsh : isShift op with
    | true =>
      rw [hsh] at hb
      obtain ⟨V, hr, hv⟩ := shift_ok (P := P) (W := W) (ρ := ρ) (k' := k') t hsh hb
      exact zc hs (V := V) (by simp [execOp, ho, e3, e4, vP, hr]) hv
    | false =>
      rw [hsh] at hb
      simp only [cond_false] at hb
      split at hb
      · rename_i hk
        subst hk
        obtain ⟨V, hr, hv⟩ := jG (P := P) (W := W) (ρ := ρ) t hb
        exact zc hs (V := V) (by simp [execOp, ho, e3, e4, vP, hr]) hv
      · cases hb
  · cases hb
theorem op_un {op : UnOp} {t : TypeId} {x : Operand} {y : Lo} (ho : o.op = .unOp op t x) (hx : lowX x = some y) (h : oUn op y a σ = some (v, σ'))
    (hs : Sim P base σ.h.get ρ W) (ha : AR ρ a A) : HF fl σ.nx σ'.nx σ.h.get σ'.h.get ∧ Does P base fl σ σ' ρ W (execOp A.eval o) v := by
  have h1 := zj ha hx
  obtain ⟨hb, rfl⟩ := zn h
  refine ⟨HF.refl _ _ _, ?_⟩
  unfold unH at hb
  split at hb
  · rename_i k n e1
    rw [e1] at h1
    cases hb
    exact zc hs (V := .int k (k.wrap (0 - n))) (by simp [execOp, ho, zZ h1, Op.unary, Op.intArith]) (.int _ _)
  · rename_i b e1
    rw [e1] at h1
    cases hb
    exact zc hs (V := .bool !b) (by simp [execOp, ho, yI h1, Op.unary]) (.bool _)
  · cases hb
theorem u4 {s d : TypeId} {j k : IntKind} {x : Operand} {y : Lo} (ho : o.op = .convert s d x) (hs' : P.underlying s = some (.int j)) (hd : P.underlying d = some (.int k)) (hx : lowX x = some y) (h : oConvInt k y a σ = some (v, σ'))
    (hs : Sim P base σ.h.get ρ W) (ha : AR ρ a A) : HF fl σ.nx σ'.nx σ.h.get σ'.h.get ∧ Does P base fl σ σ' ρ W (execOp A.eval o) v := by
  have h1 := zj ha hx
  unfold oConvInt at h
  split at h
  · rename_i k' n e1
    rw [e1] at h1
    cases h
    exact ⟨HF.refl _ _ _, zc hs (V := .int k (k.wrap n)) (by simp [execOp, ho, zZ h1, convert, za hs', za hd, Conv.intToInt]) (.int _ _)⟩
  · cases h
theorem up {f : Nat} {xs cs : Array Operand} {ys ds : List Lo} (ho : o.op = .makeFunc (.func f) xs cs) (hx : lowXs xs.toList = some ys) (hc : lowXs cs.toList = some ds) (h : oMakeFunc f ys ds a σ = some (v, σ'))
    (hs : Sim P base σ.h.get ρ W) (ha : AR ρ a A) : HF fl σ.nx σ'.nx σ.h.get σ'.h.get ∧ Does P base fl σ σ' ρ W (execOp A.eval o) v := by
  cases h
  have h1 := yZ ha hx
  have h2 := yZ ha hc
  refine ⟨HF.refl _ _ _, zc hs (V := .func (.func f) (xs.map A.eval) (cs.map A.eval)) (by simp [execOp, ho, Instr.makeFunc]) ?_⟩
  refine .func (by simpa using h1.1) (by simpa using h2.1) (fun i v u hv hu => h1.2 i v u hv ?_) (fun i v u hv hu => h2.2 i v u hv ?_)
  · rw [← Array.toList_map, Array.getElem?_toList]; exact hu
  · rw [← Array.toList_map, Array.getElem?_toList]; exact hu
theorem op_via {t : TypeId} {name : String} {f : Nat} (ho : o.op = .makeFunc (.methodOf t name) #[] #[]) (h : oMove (.c (.via t name f)) a σ = some (v, σ'))
    (hs : Sim P base σ.h.get ρ W) (ha : AR ρ a A) : HF fl σ.nx σ'.nx σ.h.get σ'.h.get ∧ Does P base fl σ σ' ρ W (execOp A.eval o) v := by
  cases h
  exact ⟨HF.refl _ _ _, zc hs (V := .func (.methodOf t name) #[] #[]) (by simp [execOp, ho, Instr.makeFunc]) (.via _ _ _)⟩
theorem u0 {t : TypeId} (ho : o.op = .makeMap t none) (h : oMakeMap a σ = some (v, σ')) (hs : Sim P base σ.h.get ρ W) (hb : base ≤ W.heap.size) (hn : ρ σ.nx = none) : HF fl σ.nx σ'.nx σ.h.get σ'.h.get ∧ Does P base fl σ σ' ρ W (execOp A.eval o) v := by
  cases h
  refine ⟨zV (HS.get_new σ _), .map (some W.heap.size), W.alloc (.map #[] 0), _, .inl ?_, .map (r := ⟨W.heap.size, 0, 0⟩) (Rho.put_same ρ σ.nx _), ?_⟩
  · simp [execOp, ho, Instr.makeMap]
  · exact yk hs hn (HS.get_new σ _) rfl ⟨_, #[], 0, Rho.put_same _ _ _, heap_alloc_new W _, hb, rfl, fun i e x h => by simp at h⟩
theorem vq {f : Int → Int → Int} {g : Value → Value → Sem Value} (hg : ∀ k j (x y : Int) (W : World), (g (.int k x) (.int j y)).run P W = .ok (.int k (f x y)) W) (k : IntKind) :
    ∀ {l : List HV} {n : Int} {L : List Value}, foldInt f k n l = some v → LR ρ l L → ∃ m, v = .int k m ∧ (L.foldlM g (.int k n)).run P W = .ok (.int k m) W
  | [], n, L, h, hl => by
    have := LR.inv_nil hl
    subst this
    cases h
    exact ⟨n, rfl, by simp⟩
  | .int j m :: l, n, L, h, hl => by
    obtain ⟨u, L', rfl, hu, hl'⟩ := LR.inv hl
    rw [zZ hu]
    simp only [foldInt] at h
    obtain ⟨q, hq, hr⟩ := vq hg k h hl'
    exact ⟨q, hq, by simp [List.foldlM_cons, hg, hr]⟩
  | .bool _ :: _, _, _, h, _ | .str _ :: _, _, _, h, _ | .ptr _ :: _, _, _, h, _ | .slice _ _ _ :: _, _, _, h, _ | .map _ :: _, _, _, h, _ | .func _ _ _ :: _, _, _, h, _ | .yield _ :: _, _, _, h, _ | .nilFunc :: _, _, _, h, _
  | .nilIface :: _, _, _, h, _ | .via _ _ _ :: _, _, _, h, _ | .agg _ :: _, _, _, h, _ | .tuple _ :: _, _, _, h, _ => by simp [foldInt] at h
theorem vM {f : Int → Int → Int} {g : Value → Value → Sem Value} (hg : ∀ k j (x y : Int) (W : World), (g (.int k x) (.int j y)).run P W = .ok (.int k (f x y)) W) {l : List HV} {L : List Value} (h : minmax f l = some v) (hl : LR ρ l L) :
    ∃ u L' V, L = u :: L' ∧ VR ρ v V ∧ (L'.foldlM g u).run P W = .ok V W := by
  unfold minmax at h
  split at h
  · rename_i k n l'
    obtain ⟨u, L', rfl, hu, hl'⟩ := LR.inv hl
    obtain ⟨m, hm, hr⟩ := vq (P := P) (W := W) hg k h hl'
    subst hm
    exact ⟨u, L', _, rfl, .int _ _, by rw [zZ hu]; exact hr⟩
  · cases h
theorem zl {b : Builtin} {xs : Array Operand} {ts : Array TypeId} (ho : o.op = .call { callee := .builtin b, args := xs, argTypes := ts }) :
    (execOp A.eval o).run P W = (builtin b ts o.type (xs.map fun | .const _ => true | _ => false) (xs.map A.eval)).run P W := by
  simp [execOp, ho, resolve, invoke]
  rfl
theorem op_min {xs : Array Operand} {ys : List Lo} {ts : Array TypeId} (ho : o.op = .call { callee := .builtin .min, args := xs, argTypes := ts }) (hx : lowXs xs.toList = some ys) (h : oMin ys a σ = some (v, σ'))
    (hs : Sim P base σ.h.get ρ W) (ha : AR ρ a A) : HF fl σ.nx σ'.nx σ.h.get σ'.h.get ∧ Does P base fl σ σ' ρ W (execOp A.eval o) v := by
  have h1 := yZ ha hx
  obtain ⟨hb, rfl⟩ := zn h
  obtain ⟨u, L, V, e, hv, hr⟩ := vM (P := P) (W := W) (g := Builtin.min2) (fun k j x y W => by simp [Builtin.min2]) hb h1
  refine ⟨HF.refl _ _ _, zc hs (V := V) ?_ hv⟩
  rw [zl ho]
  simp [builtin, Builtin.min_, e, hr]
theorem op_max {xs : Array Operand} {ys : List Lo} {ts : Array TypeId} (ho : o.op = .call { callee := .builtin .max, args := xs, argTypes := ts }) (hx : lowXs xs.toList = some ys) (h : oMax ys a σ = some (v, σ'))
    (hs : Sim P base σ.h.get ρ W) (ha : AR ρ a A) : HF fl σ.nx σ'.nx σ.h.get σ'.h.get ∧ Does P base fl σ σ' ρ W (execOp A.eval o) v := by
  have h1 := yZ ha hx
  obtain ⟨hb, rfl⟩ := zn h
  obtain ⟨u, L, V, e, hv, hr⟩ := vM (P := P) (W := W) (g := Builtin.max2) (fun k j x y W => by simp [Builtin.max2]) hb h1
  refine ⟨HF.refl _ _ _, zc hs (V := V) ?_ hv⟩
  rw [zl ho]
  simp [builtin, Builtin.max_, e, hr]
theorem yY {xs : List Operand} {y : Lo} (h : lowXs xs = some [y]) : ∃ x, xs = [x] ∧ lowX x = some y := by
  cases xs with
  | nil => cases h
  | cons x xs =>
    unfold lowXs at h
    split at h
    · rename_i y' ys' h1 h2
      cases h
      cases xs with
      | nil => exact ⟨x, rfl, h1⟩
      | cons z zs => unfold lowXs at h2; split at h2 <;> cases h2
    · cases h
theorem yX {xs : List Operand} {y z : Lo} (h : lowXs xs = some [y, z]) : ∃ x w, xs = [x, w] ∧ lowX x = some y ∧ lowX w = some z := by
  cases xs with
  | nil => cases h
  | cons x xs =>
    unfold lowXs at h
    split at h
    · rename_i y' ys' h1 h2
      cases h
      obtain ⟨w, rfl, hw⟩ := yY h2
      exact ⟨x, w, rfl, h1, hw⟩
    · cases h
theorem ju {α : Type} {xs : Array α} {x : α} (h : xs.toList = [x]) : xs = #[x] := by
  cases xs; simp at h; simp [h]
theorem ua {α : Type} {xs : Array α} {x y : α} (h : xs.toList = [x, y]) : xs = #[x, y] := by
  cases xs; simp at h; simp [h]
theorem vh {ρ : Rho} {s : ByteArray} {V : Value} (h : VR ρ (.str s) V) : V = .string s := by cases h; rfl
theorem vK {ρ : Rho} {V : Value} (h : VR ρ (.map none) V) : V = .map none := by cases h; rfl
theorem zA {ρ : Rho} {p : Option (Nat × Nat)} {l c : Nat} {V : Value} (h : VR ρ (.slice p l c) V) : ∃ q d, V = .slice q l d ∧ (p.isNone = q.isNone) := by
  cases h
  · exact ⟨_, _, rfl, rfl⟩
  · exact ⟨_, _, rfl, rfl⟩
  · exact ⟨_, _, rfl, rfl⟩
theorem u1 {xs : Array Operand} {y : Lo} {t : TypeId} {k : LK} {ts : Array TypeId} (ho : o.op = .call { callee := .builtin .len, args := xs, argTypes := ts }) (hx : lowXs xs.toList = some [y]) (ht : ts[0]? = some t)
    (hu : match k with | .str => P.underlying t = some .string | .slice => ∃ e, P.underlying t = some (.slice e) | .map => ∃ k e, P.underlying t = some (.map k e)) (h : oLen k y a σ = some (v, σ'))
    (hs : Sim P base σ.h.get ρ W) (ha : AR ρ a A) : HF fl σ.nx σ'.nx σ.h.get σ'.h.get ∧ Does P base fl σ σ' ρ W (execOp A.eval o) v := by
  obtain ⟨x, hx1, hx2⟩ := yY hx
  have hx1 := ju hx1
  subst hx1
  have h1 := zj ha hx2
  obtain ⟨hb, rfl⟩ := zn h
  refine ⟨HF.refl _ _ _, ?_⟩
  unfold lenH at hb
  split at hb
  · rename_i p n c e1
    cases hb
    rw [e1] at h1
    obtain ⟨e, hu⟩ := hu
    obtain ⟨q, d, hV, _⟩ := zA h1
    exact zc hs (V := .int .i64 n) (by rw [zl ho]; simp [builtin, Builtin.len_, ht, hV, za hu, goInt]) (.int _ _)
  · rename_i s e1
    cases hb
    rw [e1] at h1
    have hu : P.underlying t = some .string := hu
    exact zc hs (V := .int .i64 s.size) (by rw [zl ho]; simp [builtin, Builtin.len_, ht, vh h1, za hu, goInt]) (.int _ _)
  · rename_i e1
    cases hb
    rw [e1] at h1
    obtain ⟨k, e, hu⟩ := hu
    exact zc hs (V := .int .i64 0) (by rw [zl ho]; simp [builtin, Builtin.len_, ht, vK h1, za hu, goInt]) (.int _ _)
  · rename_i r e1
    split at hb
    · rename_i es hes
      cases hb
      rw [e1] at h1
      obtain ⟨k, e, hu⟩ := hu
      obtain ⟨q, hq, hV⟩ := uN h1
      obtain ⟨q', E, cl, hq', hw, _, her⟩ := hs.ok _ _ hes
      rw [hq] at hq'; cases hq'
      have hE : E.size = es.length := by have := her.1; simpa using this.symm
      exact zc hs (V := .int .i64 es.length) (by rw [zl ho]; simp [builtin, Builtin.len_, ht, hV, za hu, goInt, getObj, Sem.run, hw, hE]) (.int _ _)
    · cases hb
  · cases hb
theorem op_cap {xs : Array Operand} {y : Lo} {t e : TypeId} {ts : Array TypeId} (ho : o.op = .call { callee := .builtin .cap, args := xs, argTypes := ts }) (hx : lowXs xs.toList = some [y]) (ht : ts[0]? = some t)
    (hu : P.underlying t = some (.slice e)) (h : oCap y a σ = some (v, σ')) (hs : Sim P base σ.h.get ρ W) (ha : AR ρ a A) : HF fl σ.nx σ'.nx σ.h.get σ'.h.get ∧ Does P base fl σ σ' ρ W (execOp A.eval o) v := by
  obtain ⟨x, hx1, hx2⟩ := yY hx
  have hx1 := ju hx1
  subst hx1
  have h1 := zj ha hx2
  obtain ⟨hb, rfl⟩ := zn h
  refine ⟨HF.refl _ _ _, ?_⟩
  unfold capH at hb
  split at hb
  · rename_i l n e1
    cases hb
    rw [e1] at h1
    obtain ⟨hV, rfl, rfl⟩ := uf h1
    exact zc hs (V := .int .i64 0) (by rw [zl ho]; simp [builtin, Builtin.cap_, ht, hV, za hu, goInt]) (.int _ _)
  · rename_i p l n e1
    obtain ⟨b, q⟩ := p
    split at hb
    · rename_i cs hc
      cases hb
      rw [e1] at h1
      rcases ue h1 with ⟨r, hr, hV⟩ | ⟨_, h0, aa, hV⟩
      case inr =>
        subst h0
        exact zc hs (V := .int .i64 (0 : Nat)) (by rw [zl ho]; simp [builtin, Builtin.cap_, ht, hV, za hu, goInt]) (.int _ _)
      obtain ⟨r', C, e', z, hr', _, _, hk⟩ := hs.ok _ _ hc
      rw [hr] at hr'; cases hr'
      exact zc hs (V := .int .i64 n) (by rw [zl ho]; simp [builtin, Builtin.cap_, ht, hV, za hu, goInt, hk.2.2]) (.int _ _)
    · cases hb
  · cases hb
end Go.Hx

namespace Go.Hx
variable {P : Program} {base fl : Nat} {a : HAct} {σ σ' : HS} {v : HV} {ρ : Rho} {A : Act} {W : World} {o : Oper}
theorem uk (zs : List HV) : ∀ c i, (repl c zs)[i]? = if i < c * zs.length then zs[i % zs.length]? else none
 | 0, i => by simp [repl]
 | c + 1, i => by
  have e : repl (c + 1) zs = zs ++ repl c zs := by simp [repl, List.replicate_succ]
  rw [e, List.getElem?_append]
  by_cases h : i < zs.length
  ·rw [if_pos h, if_pos (by rw [Nat.add_mul]; omega), Nat.mod_eq_of_lt h]
  ·rw [if_neg h, uk zs c, Nat.add_mul, Nat.one_mul]
   by_cases h2 : i - zs.length < c * zs.length
   ·rw [if_pos h2, if_pos (by omega)]
    congr 1
    exact (Nat.mod_eq_sub_mod (by omega)).symm
   ·rw [if_neg h2, if_neg (by omega)]
theorem repl_len (zs : List HV) (c : Nat) : (repl c zs).length = c * zs.length := by simp [repl]
theorem v6 {ρ : Rho} {zs : List HV} {Z : Array Value} {s c : Nat} (h : LR ρ zs Z.toList) (hz : zs.length = s) : LR ρ (repl c zs) ((Array.range (c * s)).map (Z[· % Z.size]!)).toList := by
 have hl : Z.size = s := by have := h.1; simp at this; omega
 refine ⟨by simp [repl_len, hz], fun i v u hv hu => ?_⟩
 rw [uk, hz] at hv
 split at hv
 ·rename_i hi
  have hs : 0 < s := by
   rcases Nat.eq_zero_or_pos s with e | e
   ·subst e; simp at hi
   ·exact e
  have hm : i % s < Z.size := by rw [hl]; exact Nat.mod_lt _ hs
  have hu : Z[i % Z.size]! = u := by simpa [hi] using hu
  subst hu
  refine h.2 _ _ _ hv ?_
  rw [hl] at hm ⊢
  rw [Array.getElem?_toList]
  simp [hm, hl]
 ·cases hv
theorem z4 (f : Nat → Value) : (Array.range 0).map f = #[] := Array.eq_empty_of_size_eq_zero (by simp)
theorem v4 {t e : TypeId} {l c : Operand} {l' c' : Lo} {b s : Nat} {z : HV} (ho : o.op = .makeSlice t l c) (hu : P.underlying t = some (.slice e)) (hb' : byOf P e = some b) (hs' : szOf P e = some s) (hz : zeroV P e = some z)
  (hzl : z.cells.length = s) (hl : lowX l = some l') (hc : lowX c = some c') (h : oMakeSlice z.cells b l' c' a σ = some (v, σ'))
  (hs : Sim P base σ.h.get ρ W) (ha : AR ρ a A) (hb : base ≤ W.heap.size) (hn : ρ σ.nx = none) : HF fl σ.nx σ'.nx σ.h.get σ'.h.get ∧ Does P base fl σ σ' ρ W (execOp A.eval o) v := by
 have h1 := zj ha hl
 have h2 := zj ha hc
 unfold oMakeSlice at h
 split at h
 ·rename_i m n e1 e2
  obtain ⟨k1, hk1⟩ := yD h1 e1
  obtain ⟨k2, hk2⟩ := yD h2 e2
  cases hcond : (Nat.ble m n && Nat.ble (n * b) 35184372088832 && Nat.ble n 35184372088832) with
  | false => rw [hcond] at h; cases h
  | true =>
   rw [hcond] at h
   simp only [Bool.and_eq_true, Nat.ble_eq] at hcond
   obtain ⟨⟨c1, c2⟩, c3⟩ := hcond
   cases h
   obtain ⟨i, Z, i1, i2, i3⟩ := zC hz ρ
   have ib : i.bytes = b := by simpa [byOf, i1] using hb'
   have is : i.size = s := by simpa [szOf, i1] using hs'
   have w1 : IntKind.i64.wrap (m : Int) = m := IntWalk.i64_in _ (by omega)
   have w2 : IntKind.i64.wrap (n : Int) = n := IntWalk.i64_in _ (by omega)
   have q1 : ¬ (281474976710656 : Int) < b * n := by
    have e1 : ((b * n : Nat) : Int) = (b : Int) * n := by simp
    have e2 : b * n ≤ 35184372088832 := by rw [Nat.mul_comm]; exact c2
    omega
   have hrow : LR ρ (repl n z.cells) ((Array.range (n * s)).map (Z.cells[· % Z.cells.size]!)).toList := v6 i3.cells hzl
   refine ⟨zV (HS.get_new σ _), _, _, _, .inl ?_, (vi ρ σ.nx W.heap.size m n).2, yj (e := e) hs hb hn hrow⟩
   by_cases h0 : n * s = 0
   ·simp [execOp, ho, hk1, hk2, Instr.makeSlice, za hu, asInt, asIntOf, z2 i1, zg i1, is, ib, w1, w2, q1, c1, h0, newRow, show ¬ n < m by omega]
    rw [if_neg (by omega), z4]
   ·simp [execOp, ho, hk1, hk2, Instr.makeSlice, za hu, asInt, asIntOf, z2 i1, zg i1, is, ib, w1, w2, q1, h0, newRow, zF i1 i2, show ¬ n < m by omega]
    rw [if_neg (by omega)]
    congr 3
    apply Array.ext'
    simp
 ·cases h
theorem zJ {ρ : Rho} {p : Option (Nat × Nat)} {l c : Nat} {V : Value} (h : VR ρ (.slice p l c) V) :
  (p = none ∧ l = 0 ∧ c = 0 ∧ V = .slice none 0 0) ∨ (∃ b q r, p = some (b, q) ∧ ρ b = some r ∧ V = .slice (some ⟨r.blk, r.off + q, none⟩) l (c + r.extra)) ∨ ∃ b q a, p = some (b, q) ∧ l = 0 ∧ c = 0 ∧ V = .slice (some a) 0 0 := by
 cases h with
 | slice0 => exact .inl ⟨rfl, rfl, rfl, rfl⟩
 | slice h => exact .inr (.inl ⟨_, _, _, rfl, h, rfl⟩)
 | slice00 a => exact .inr (.inr ⟨_, _, a, rfl, rfl, rfl, rfl⟩)
theorem zO {ρ : Rho} {x : Option Operand} {y : Option Lo} {d n : Nat} (ha : AR ρ a A) (hx : lowO x = some y) (h : boundH d (y.map a.ev) = some n) :
  (x = none ∧ n = d) ∨ ∃ w k, x = some w ∧ A.eval w = .int k (n : Int) := by
 cases x with
 | none => cases hx; cases h; exact .inl ⟨rfl, rfl⟩
 | some w =>
  simp only [lowO, Option.map_eq_some_iff] at hx
  obtain ⟨y', hy, rfl⟩ := hx
  obtain ⟨k, hk⟩ := yD (zj ha hy) h
  exact .inr ⟨w, k, rfl, hk⟩
theorem z3 {x y : Option Operand} {len cap l h : Nat} (h1 : (y = none ∧ h = len) ∨ ∃ w k, y = some w ∧ A.eval w = .int k (h : Int)) (h2 : (x = none ∧ l = 0) ∨ ∃ w k, x = some w ∧ A.eval w = .int k (l : Int))
  (hle : l ≤ h) (hc : h ≤ cap) (W : World) : (Instr.sliceBounds true len cap (x.map A.eval) (y.map A.eval) none).run P W = .ok (l, h, cap) W := by
 rcases h1 with ⟨rfl, rfl⟩ | ⟨w, k, rfl, hw⟩ <;> rcases h2 with ⟨rfl, rfl⟩ | ⟨w', k', rfl, hw'⟩
 ·simp [Instr.sliceBounds]
 ·simp [Instr.sliceBounds, Instr.sliceBound, asIntOf, hw', hle]
 ·simp [Instr.sliceBounds, Instr.sliceBound, asIntOf, hw, hc]
 ·simp [Instr.sliceBounds, Instr.sliceBound, asIntOf, hw, hw', hc, hle]
theorem yC {base fl : Nat} {σ : HS} {ρ : Rho} {W : World} {r : RI} (hs : Sim P base σ.h.get ρ W) (hn : ρ σ.nx = none) : Post P base fl σ.nx (σ.nx + 1) σ.h.get σ.h.get ρ (ρ.put σ.nx r) W W := by
 have old : ∀ b x, σ.h.get b = some x → b ≠ σ.nx := fun b x hx e => by
  obtain ⟨q, hq, _⟩ := (hs.ok b x hx).has
  rw [e, hn] at hq; cases hq
 refine ⟨Rho.le_put r hn, fun j hj => Rho.put_other _ _ (by omega), ⟨fun b x hx => (hs.ok b x hx).keep (Rho.le_put r hn) fun _ _ => rfl, fun b b' x x' q q' h1 h2 h3 h4 h5 h6 h7 => ?_⟩, rfl, rfl, rfl, fun _ => rfl, Nat.le_refl _, fun _ _ _ => rfl, fun k ⟨b, x, q, h1, h2, h3, h4, h5⟩ => ?_⟩
 ·rw [Rho.put_other _ _ (old b x h1)] at h6
  rw [Rho.put_other _ _ (old b' x' h2)] at h7
  exact hs.inj b b' x x' q q' h1 h2 h3 h4 h5 h6 h7
 ·rw [Rho.put_other _ _ (old b x h1)] at h4
  exact .inr ⟨b, x, q, h1, h2, h3, h4, h5⟩
theorem jA {t e : TypeId} {s : Nat} {x : Operand} {y : Lo} {lo hi : Option Operand} {lo' hi' : Option Lo} (ho : o.op = .slice t x lo hi none) (hu : P.underlying t = some (.slice e)) (hz : szOf P e = some s) (hx : lowX x = some y)
  (hlo : lowO lo = some lo') (hhi : lowO hi = some hi') (h : oSliceS s y lo' hi' a σ = some (v, σ')) (hs : Sim P base σ.h.get ρ W) (ha : AR ρ a A) (hn : ∀ b, σ.nx ≤ b → b < σ'.nx → ρ b = none) : HF fl σ.nx σ'.nx σ.h.get σ'.h.get ∧ Does P base fl σ σ' ρ W (execOp A.eval o) v := by
 have h1 := zj ha hx
 obtain ⟨i, i1, i2⟩ := zi hz
 unfold oSliceS at h
 split at h
 case h_2 =>
  revert h
  cases hend : endH (a.ev y) (lo'.map a.ev) (hi'.map a.ev) with
  | false => intro h; cases h
  | true =>
   intro h
   cases h
   unfold endH at hend
   split at hend
   ·rename_i p len cap e1
    rw [e1] at h1
    split at hend
    ·rename_i m l hm hl
     simp only [Bool.and_eq_true] at hend
     have q1 := Nat.eq_of_beq_eq_true hend.1
     have q2 := Nat.eq_of_beq_eq_true hend.2
     subst q1; subst q2
     have b1 := zO (d := len) ha hhi hm
     have b2 := zO (d := 0) ha hlo hl
     rcases zJ h1 with ⟨e, _⟩ | ⟨b, q, r, _, hr, hV⟩ | ⟨b, q, a', _, e1, e2, hV⟩
     ·cases e
     case inr.inr =>
      subst e1; subst e2
      have hrun := z3 (P := P) (len := 0) (cap := 0) b1 b2 (Nat.le_refl _) (by omega) W
      have hn0 := hn σ.nx (Nat.le_refl _) (Nat.lt_succ_self _)
      refine ⟨⟨Nat.le_succ _, fun _ _ _ => rfl, fun _ _ => rfl⟩, .slice (some a') 0 0, W, ρ.put σ.nx ⟨0, 0, 0⟩, .inl ?_, .slice00 a', yC hs hn0⟩
      simp [execOp, ho, Instr.sliceAt, Instr.slice, za hu, hV, hrun, zg i1]
     ·have hrun := z3 (P := P) (len := len) (cap := m + r.extra) b1 b2 (Nat.le_refl _) (by omega) W
      have hn0 := hn σ.nx (Nat.le_refl _) (Nat.lt_succ_self _)
      refine ⟨⟨Nat.le_succ _, fun _ _ _ => rfl, fun _ _ => rfl⟩, ?_⟩
      by_cases e0 : r.extra = 0
      ·refine ⟨.slice (some ⟨r.blk, r.off + q, none⟩) 0 0, W, ρ.put σ.nx ⟨r.blk, r.off + q, 0⟩, .inl ?_, ?_, yC hs hn0⟩
       ·rw [e0, Nat.add_zero] at hrun
        simp [execOp, ho, Instr.sliceAt, Instr.slice, za hu, hV, hrun, zg i1, e0]
       ·have := VR.slice (ρ := ρ.put σ.nx ⟨r.blk, r.off + q, 0⟩) (b := σ.nx) (o := 0) (l := 0) (c := 0) (Rho.put_same _ _ _)
        exact this
      ·refine ⟨.slice (some ⟨r.blk, r.off + (q + m * s), none⟩) 0 r.extra, W, ρ.put σ.nx ⟨r.blk, r.off + (q + m * s), r.extra⟩, .inl ?_, ?_, yC hs hn0⟩
       ·have e1 : ¬ m + r.extra = m := by omega
        have e2 : m + r.extra - m = r.extra := by omega
        simp [execOp, ho, Instr.sliceAt, Instr.slice, za hu, hV, hrun, zg i1, i2, e0, e1, e2, zq, Nat.add_assoc]
       ·have := VR.slice (ρ := ρ.put σ.nx ⟨r.blk, r.off + (q + m * s), r.extra⟩) (b := σ.nx) (o := 0) (l := 0) (c := 0) (Rho.put_same _ _ _)
        simpa using this
    ·cases hend
   ·cases hend
 rename_i v' hb
 cases h
 refine ⟨HF.refl _ _ _, ?_⟩
 unfold sliceH at hb
 split at hb
 ·rename_i p len cap e1
  rw [e1] at h1
  split at hb
  ·rename_i m l hm hl
   have b1 := zO (d := len) ha hhi hm
   have b2 := zO (d := 0) ha hlo hl
   split at hb
   ·rename_i hle
    obtain ⟨hle, hc⟩ := hle
    rcases zJ h1 with ⟨rfl, rfl, rfl, hV⟩ | ⟨b, q, r, rfl, hr, hV⟩ | ⟨b, q, a', rfl, rfl, rfl, hV⟩
    case inr.inr =>
     have hl0 : l = 0 := by omega
     have hm0 : m = 0 := by omega
     subst hl0; subst hm0
     have hrun := z3 (P := P) (len := 0) (cap := 0) b1 b2 (Nat.le_refl _) (Nat.le_refl _) W
     simp only [cutH, or_true, if_true] at hb
     cases hb
     exact zc hs (V := .slice (some a') 0 0) (by simp [execOp, ho, Instr.sliceAt, Instr.slice, za hu, hV, hrun, zg i1]) (.slice00 a')
    ·cases hb
     have hl0 : l = 0 := by omega
     have hm0 : m = 0 := by omega
     subst hl0; subst hm0
     have hrun := z3 (P := P) (len := 0) (cap := 0) b1 b2 (Nat.le_refl _) (Nat.le_refl _) W
     exact zc hs (V := .slice none 0 0) (by simp [execOp, ho, Instr.sliceAt, Instr.slice, za hu, hV, hrun, zg i1]) .slice0
    ·have hrun := z3 (P := P) (len := len) (cap := cap + r.extra) b1 b2 hle (by omega) W
     simp only [cutH] at hb
     split at hb
     ·rename_i hcond
      cases hb
      refine zc hs (V := .slice (some ⟨r.blk, r.off + (q + l * s), none⟩) (m - l) (cap - l + r.extra)) ?_ (.slice hr)
      have hcap : cap + r.extra - l = cap - l + r.extra := by omega
      by_cases e0 : cap + r.extra = l
      ·have hl0 : l = 0 := by omega
       subst hl0
       simp [execOp, ho, Instr.sliceAt, Instr.slice, za hu, hV, hrun, zg i1]
       omega
      ·simp [execOp, ho, Instr.sliceAt, Instr.slice, za hu, hV, hrun, zg i1, i2, e0, zq, Nat.add_assoc, hcap]
     ·rename_i hcond
      split at hb
      ·rename_i cs hcs
       cases hb
       obtain ⟨r', C, e', z, hr', _, _, hk⟩ := hs.ok _ _ hcs
       rw [hr] at hr'; cases hr'
       have hx0 := hk.2.2
       have hcl : cap = l := by omega
       subst hcl
       refine zc hs (V := .slice (some ⟨r.blk, r.off + q, none⟩) (m - cap) (cap - cap + r.extra)) ?_ (.slice hr)
       rw [hx0, Nat.add_zero] at hrun
       simp [execOp, ho, Instr.sliceAt, Instr.slice, za hu, hV, hrun, zg i1, hx0]
      ·cases hb
   ·cases hb
  ·cases hb
 ·cases hb
theorem read_s {σ : HS} {a : Nat × Nat} {n : Nat} {l : List HV} (h : σ.read a n = some l) : readS σ a n = some l := by
 unfold readS
 rw [zx]
 split
 ·rename_i e
  subst e
  unfold HS.read at h
  cases hc : σ.cells a.1 with
  | none => simp [hc] at h
  | some cs => simp [hc, takeN] at h; rw [h]
 ·exact h
theorem yn {x : HV} {V : Value} {n size : Nat} {news : List HV} (hx : VR ρ x V) (h : ∃ p l c, x = .slice p l c ∧ (match p with | none => some [] | some a => readS σ a (n * size)) = some news ∧ n ≤ l) (hs : Sim P base σ.h.get ρ W) :
  ∃ U : List Value, LR ρ news U ∧ news.length = n * size ∧ (Builtin.firstCells size n V).run P W = .ok U.toArray W ∧ (Builtin.firstCells size n V).run P W.drew = .ok U.toArray W.drew := by
 obtain ⟨p, l, c, rfl, hr, hn⟩ := h
 rcases zJ hx with ⟨rfl, rfl, rfl, hV⟩ | ⟨b, q, r, rfl, hρ, hV⟩ | ⟨b, q, a', rfl, rfl, rfl, hV⟩
 case inr.inr =>
  have h0 : n = 0 := by omega
  subst h0
  have hr : readS σ (b, q) (0 * size) = some news := hr
  rw [Nat.zero_mul] at hr
  cases hr
  exact ⟨[], LR.nil ρ, by simp, by simp [hV, Builtin.firstCells, loadCells, loadCellsFrom], by simp [hV, Builtin.firstCells, loadCells, loadCellsFrom]⟩
 ·cases hr
  have : n = 0 := by omega
  subst this
  exact ⟨[], LR.nil ρ, by simp, by simp [hV, Builtin.firstCells], by simp [hV, Builtin.firstCells]⟩
 ·have hr : readS σ (b, q) (n * size) = some news := hr
  unfold readS at hr
  rw [zx] at hr
  split at hr
  ·rename_i h0
   cases hr
   refine ⟨[], LR.nil ρ, by simp [h0], ?_, ?_⟩
   ·simp [hV, Builtin.firstCells, h0, loadCells, loadCellsFrom]
   ·simp [hV, Builtin.firstCells, h0, loadCells, loadCellsFrom]
  obtain ⟨r', U, hr', hU, hl, hl', hcell⟩ := yJ hs hr
  rw [hρ] at hr'; cases hr'
  refine ⟨U, hU, hl', ?_, ?_⟩
  ·simp only [hV, Builtin.firstCells]
   exact zr hl hcell
  ·simp only [hV, Builtin.firstCells]
   exact zr hl (fun j u hu => by rw [World.cell?_drew]; exact hcell j u hu)
theorem zG {ts : Array TypeId} {t0 t1 e e' ty : TypeId} {i : TypeInfo} {p : Option Addr} {sl sc : Nat} {X : Value} {xl : Nat} {U : Array Value} {W' : World} (ht0 : ts[0]? = some t0) (ht1 : ts[1]? = some t1) (hu0 : P.underlying t0 = some (.slice e)) (hu1 : P.underlying t1 = some (.slice e'))
  (hi : P.info? e = some i) (hl : ∀ W, (Builtin.lenOf X).run P W = .ok xl W) (hf : (Builtin.firstCells i.size xl X).run P W = .ok U W) (hle : sl + xl ≤ sc)
  (hst : ∀ a, p = some a → (storeCells (a.add (sl * i.size)) U.toList).run P W = .ok () W') (hn : p = none → W' = W) :
  (Builtin.append_ ts ty #[.slice p sl sc, X]).run P W = .ok (.slice p (sl + xl) sc) W' := by
 cases p with
 | none => simp [Builtin.append_, ht0, ht1, za hu0, za hu1, zg hi, hl, hf, hle, hn rfl]
 | some a => simp [Builtin.append_, ht0, ht1, za hu0, za hu1, zg hi, hl, hf, hle, hst a rfl]
theorem yz {ts : Array TypeId} {t0 t1 e e' ty : TypeId} {i : TypeInfo} {Z : Value} {p : Option Addr} {sl sc : Nat} {X : Value} {xl : Nat} {U O : Array Value} (ht0 : ts[0]? = some t0) (ht1 : ts[1]? = some t1) (hu0 : P.underlying t0 = some (.slice e)) (hu1 : P.underlying t1 = some (.slice e'))
  (hi : P.info? e = some i) (hz : i.zero = some Z) (hl : ∀ W, (Builtin.lenOf X).run P W = .ok xl W) (hf : (Builtin.firstCells i.size xl X).run P W.drew = .ok U W.drew) (ho : (Builtin.firstCells i.size sl (.slice p sl sc)).run P W.drew = .ok O W.drew)
  (hlt : ¬ sl + xl ≤ sc) (hb : (sl + xl) * i.bytes ≤ 140737488355328) (h63 : sl + xl ≤ 140737488355328) :
  ∃ c, sl + xl ≤ c ∧ (Builtin.append_ ts ty #[.slice p sl sc, X]).run P W = .ok (.slice (some ⟨W.heap.size, 0, none⟩) (sl + xl) c) (W.drew.alloc (.cells (O ++ U ++ Builtin.zeroCells Z.cells (c - (sl + xl))) e)) := by
 refine ⟨grownCap W (sl + xl) sc e, grownCap_ge W _ _ e, ?_⟩
 have h63' : ¬ (9223372036854775807 < ((sl : Int) + (xl : Int))) := by omega
 have hfit := growslice_fits (old := sc) (need := sl + xl) (bytes := i.bytes) (by omega) hb
 have h48' : ¬ (281474976710656 < Builtin.nextslicecap (sl + xl) sc * i.bytes) := by omega
 simp [Builtin.append_, ht0, ht1, za hu0, za hu1, zg hi, z2 hi, zF hi hz, hl, hf, ho, hlt, h63', h48', Question.forced, newRow, grownCap]
theorem u7 {C : Array Value} {cs : List HV} (h : LR ρ cs C.toList) : CellsOk ρ cs C 0 := by
 have := uu h
 simpa using this
theorem vp {base fl : Nat} {σ : HS} {ρ : Rho} {W : World} {cs : List HV} {C R : Array Value} {e : TypeId} {s extra : Nat} (hs : Sim P base σ.h.get ρ W) (hb : base ≤ W.heap.size) (hn : ρ σ.nx = none) (hc : LR ρ cs C.toList) (hR : R.size = extra * s) :
  Post P base fl σ.nx (σ.nx + 1) σ.h.get (σ.new (.cells cs (.opn s))).h.get ρ (ρ.put σ.nx ⟨W.heap.size, 0, extra⟩) W (W.drew.alloc (.cells (C ++ R) e)) := by
 have hl : cs.length = C.size := by have := hc.1; simpa using this
 have hd : Sim P base σ.h.get ρ W.drew := ⟨fun b x hx => (hs.ok b x hx).keep (Rho.le_refl ρ) fun _ _ => rfl, hs.inj⟩
 have := yk (fl := fl) (o := .cells (C ++ R) e) (r := ⟨W.heap.size, 0, extra⟩) hd hn (HS.get_new σ (.cells cs (.opn s))) rfl
  ⟨⟨W.heap.size, 0, extra⟩, C ++ R, e, (0, 0), Rho.put_same _ _ _, heap_alloc_new W.drew _, fun i v hi => by
   obtain ⟨u, hu, hv⟩ := u7 (hc.mono (Rho.le_put _ hn)) i v hi
   refine ⟨u, ?_, hv⟩
   rw [Array.getElem?_append_left (by have := (Array.getElem?_eq_some_iff.1 hu).1; exact this)]
   exact hu, hb, rfl, by simp [hR, hl]⟩
 exact ⟨this.ext, this.out, this.sim, this.os, this.tape, this.output, this.frz, this.size, this.same, this.own⟩
theorem jz {base fl nx b : Nat} {g g' : Hp} {ρ : Rho} {W W' : World} {x y : HBlk} {r r' : RI} (hs : Sim P base g ρ W) (hx : g b = some x) (ho : x.own = true) (hfl : fl ≤ b) (hr : ρ b = some r) (hn : ρ nx = none)
  (hg : ∀ j, g' j = if j = nx then some y else if j = b then none else g j) (hr' : r'.blk = r.blk) (hos : W'.os = W.os) (htape : W'.tape = W.tape) (hout : W'.output = W.output) (hfz : ∀ a, W'.frozen? a = W.frozen? a) (hsize : W.heap.size ≤ W'.heap.size)
  (hsame : ∀ k, k < W.heap.size → k ≠ r.blk → W'.heap[k]? = W.heap[k]?) (hy : BOk P base (ρ.put nx r') W' nx y) : Post P base fl nx (nx + 1) g g' ρ (ρ.put nx r') W W' := by
 have fact : ∀ j z, g' j = some z → j ≠ nx → j ≠ b ∧ g j = some z := fun j z hz e => by
  rw [hg, if_neg e] at hz
  split at hz
  ·cases hz
  ·rename_i h; exact ⟨h, hz⟩
 have apart : ∀ j z q, g j = some z → j ≠ b → ρ j = some q → q.blk ≠ r.blk := fun j z q hz e hq => by
  obtain ⟨q', hq', _, k1, k2⟩ := (hs.ok j z hz).has
  rw [hq] at hq'; cases hq'
  obtain ⟨r0, hr0, _, k3, _⟩ := (hs.ok b x hx).has
  rw [hr] at hr0; cases hr0
  cases hz' : z.own with
  | true => exact hs.inj j b z x q r hz hx hz' ho e hq hr
  | false => have := k2 hz'; have := k3 ho; omega
 refine ⟨Rho.le_put r' hn, fun j hj => Rho.put_other _ _ (by omega), ⟨fun j z hz => ?_, fun j j' z z' q q' h1 h2 h3 h4 h5 h6 h7 => ?_⟩, hos, htape, hout, hfz, hsize, fun k hk hm => hsame k hk fun e => hm ⟨b, x, r, hx, ho, hfl, hr, e.symm⟩, fun k ⟨j, z, q, h1, h2, h3, h4, h5⟩ => ?_⟩
 ·by_cases e : j = nx
  ·subst e; rw [hg, if_pos rfl] at hz; cases hz; exact hy
  ·obtain ⟨e2, hz⟩ := fact j z hz e
   refine (hs.ok j z hz).keep (Rho.le_put r' hn) fun q hq => hsame _ ?_ (apart j z q hz e2 hq)
   obtain ⟨q', hq', hlt, _⟩ := (hs.ok j z hz).has
   rw [hq] at hq'; cases hq'; exact hlt
 ·by_cases e : j = nx
  ·subst e
   rw [Rho.put_same] at h6; cases h6
   have e' : j' ≠ j := fun h => h5 h.symm
   rw [Rho.put_other _ _ e'] at h7
   obtain ⟨e2, hz⟩ := fact _ _ h2 e'
   rw [hr']
   exact (apart j' z' q' hz e2 h7).symm
  ·rw [Rho.put_other _ _ e] at h6
   obtain ⟨e2, hz⟩ := fact _ _ h1 e
   by_cases e' : j' = nx
   ·subst e'
    rw [Rho.put_same] at h7; cases h7
    rw [hr']
    exact apart j z q hz e2 h6
   ·rw [Rho.put_other _ _ e'] at h7
    obtain ⟨_, hz'⟩ := fact _ _ h2 e'
    exact hs.inj j j' z z' q q' hz hz' h3 h4 h5 h6 h7
 ·by_cases e : j = nx
  ·subst e; rw [Rho.put_same] at h4; cases h4
   exact .inr ⟨b, x, r, hx, ho, hfl, hr, hr'.symm.trans h5⟩
  ·rw [Rho.put_other _ _ e] at h4
   obtain ⟨_, hz⟩ := fact _ _ h1 e
   exact .inr ⟨j, z, q, hz, h2, h3, h4, h5⟩
theorem zQ {ρ : Rho} {p : Option (Nat × Nat)} {l c : Nat} {V : Value} (h : VR ρ (.slice p l c) V) (W : World) : (Builtin.lenOf V).run P W = .ok l W := by
 obtain ⟨q, d, hV, _⟩ := zA h
 simp [hV, Builtin.lenOf]
theorem jE {xs : Array Operand} {y z : Lo} {t0 t1 e e' : TypeId} {sz by_ : Nat} {zv : HV} {ts : Array TypeId} (ho : o.op = .call { callee := .builtin .append, args := xs, argTypes := ts }) (hx : lowXs xs.toList = some [y, z]) (ht0 : ts[0]? = some t0) (ht1 : ts[1]? = some t1)
  (hu0 : P.underlying t0 = some (.slice e)) (hu1 : P.underlying t1 = some (.slice e')) (hsz : szOf P e = some sz) (hby : byOf P e = some by_) (hz : zeroV P e = some zv) (hzl : zv.cells.length = sz)
  (h : oAppend fl sz by_ y z a σ = some (v, σ')) (hs : Sim P base σ.h.get ρ W) (ha : AR ρ a A) (hb : base ≤ W.heap.size) (hn : ∀ b, σ.nx ≤ b → b < σ'.nx → ρ b = none) (hj : ∀ b x, σ.h.get b = some x → b < σ.nx) :
  HF fl σ.nx σ'.nx σ.h.get σ'.h.get ∧ Does P base fl σ σ' ρ W (execOp A.eval o) v := by
 obtain ⟨x1, x2, e1, hx1, hx2⟩ := yX hx
 have e1 := ua e1
 subst e1
 have h1 := zj ha hx1
 have h2 := zj ha hx2
 obtain ⟨i, Z, i1, i2, i3⟩ := zC hz ρ
 have ib : i.bytes = by_ := by simpa [byOf, i1] using hby
 have is : i.size = sz := by simpa [szOf, i1] using hsz
 have hZ : Z.cells.size = sz := by have := i3.cells.1; simp at this; omega
 have hrunB : ∀ V W', (Builtin.append_ ts o.type #[A.eval x1, A.eval x2]).run P W = .ok V W' → (execOp A.eval o).run P W = .ok (.value V) W' := fun V W' hr => by
  rw [zl ho]; simp [builtin, hr]
 unfold oAppend appendH at h
 split at h
 ·rename_i sa sl sc xa xl xc ey ez
  rw [ey] at h1
  rw [ez] at h2
  split at h
  ·cases h
  ·rename_i news hnews
   obtain ⟨U, hU, hUl, hf1, hf2⟩ := yn (P := P) (n := xl) (size := sz) (news := news) h2 ⟨_, _, _, rfl, hnews, Nat.le_refl _⟩ hs
   rw [← is] at hf1 hf2
   cases hfit : Nat.ble (sl + xl) sc with
   | true =>
    rw [hfit] at h
    simp only [cond_true] at h
    have hle := Nat.le_of_ble_eq_true hfit
    rcases zJ h1 with ⟨rfl, rfl, rfl, hV⟩ | ⟨b, q, r, rfl, hr, hV⟩ | ⟨b, q, a', rfl, rfl, rfl, hV⟩
    case inr.inr =>
     have hx0 : xl = 0 := by omega
     subst hx0
     have hnews0 : news = [] := List.length_eq_zero_iff.1 (by simpa using hUl)
     subst hnews0
     cases h
     have hU0 := LR.inv_nil hU
     subst hU0
     refine ⟨HF.refl _ _ _, zc hs (V := .slice (some a') 0 0) (hrunB _ _ ?_) (.slice00 a')⟩
     rw [hV]
     exact zG ht0 ht1 hu0 hu1 i1 (zQ h2) hf1 hle (fun a h => by cases h; rfl) (fun h => by cases h)
    ·have hx0 : xl = 0 := by omega
     subst hx0
     have hnews0 : news = [] := List.length_eq_zero_iff.1 (by simpa using hUl)
     subst hnews0
     cases h
     refine ⟨HF.refl _ _ _, zc hs (V := .slice none 0 0) (hrunB _ _ ?_) .slice0⟩
     rw [hV]
     exact zG ht0 ht1 hu0 hu1 i1 (zQ h2) hf1 hle (fun a h => by cases h) (fun _ => rfl)
    ·by_cases hne : news = []
     ·subst hne
      cases h
      have hU0 := LR.inv_nil hU
      subst hU0
      refine ⟨HF.refl _ _ _, zc hs (V := .slice (some ⟨r.blk, r.off + q, none⟩) (sl + xl) (sc + r.extra)) (hrunB _ _ ?_) (.slice hr)⟩
      rw [hV]
      exact zG ht0 ht1 hu0 hu1 i1 (zQ h2) hf1 (by omega) (fun a h => by cases h; rfl) (fun h => by cases h)
     ·have h : ((σ.write fl (b, q + sl * sz) news).map fun σ => (HV.slice (some (b, q)) (sl + xl) sc, σ)) = some (v, σ') := by
       cases news with
       | nil => exact absurd rfl hne
       | cons n ns => exact h
      simp only [Option.map_eq_some_iff] at h
      obtain ⟨σ1, hw, he⟩ := h
      cases he
      obtain ⟨e2, r', W', hr', hrun, hpost⟩ := yU hs hw hU
      rw [hr] at hr'; cases hr'
      have hup : ∃ y, fl ≤ b ∧ b < σ.nx ∧ σ'.h.get = fun j => if j = b then y else σ.h.get j := by
       unfold HS.write at hw
       split at hw
       ·cases hw
       ·rename_i hb
        cases hc : (Nat.ble fl b && news.all HV.one) with
        | false => rw [hc] at hw; cases hw
        | true =>
         rw [hc] at hw
         simp only [cond_true, Option.map_eq_some_iff] at hw
         simp only [Bool.and_eq_true, Nat.ble_eq] at hc
         obtain ⟨cs', _, rfl⟩ := hw
         exact ⟨_, hc.1, hj _ _ hb, funext fun j => HS.get_upd σ _ _ j⟩
       ·cases hw
      obtain ⟨y, hy1, hy2, hy3⟩ := hup
      refine ⟨by rw [e2, hy3]; exact zU hy1 hy2 (fun _ => rfl), .slice (some ⟨r.blk, r.off + q, none⟩) (sl + xl) (sc + r.extra), W', ρ, .inl (hrunB _ _ ?_), .slice hr, by rw [e2]; exact hpost⟩
      rw [hV]
      refine zG ht0 ht1 hu0 hu1 i1 (zQ h2) hf1 (by omega) (fun a h => ?_) (fun h => by cases h)
      cases h
      rw [zq, is, Nat.add_assoc]
      exact hrun
   | false =>
    rw [hfit] at h
    simp only [cond_false] at h
    have hnle : ¬ sl + xl ≤ sc := fun hle => by rw [← Nat.ble_eq] at hle; rw [hle] at hfit; cases hfit
    cases hcond : (Nat.ble ((sl + xl) * by_) 35184372088832 && Nat.ble (sl + xl) 35184372088832 && Nat.blt 0 sz) with
    | false => rw [hcond] at h; cases h
    | true =>
     rw [hcond] at h
     simp only [cond_true] at h
     simp only [Bool.and_eq_true, Nat.ble_eq, Nat.blt_eq] at hcond
     obtain ⟨⟨c1, c2⟩, c3⟩ := hcond
     have hZc : ∀ c, (Builtin.zeroCells Z.cells c).size = c * sz := fun c => by rw [size_zeroCells, hZ]
     have two : (sa = none ∧ sl = 0 ∧ sc = 0 ∧ A.eval x1 = .slice none 0 0) ∨ ∃ (b q : Nat) (p0 : Option Addr) (ex : Nat), sa = some (b, q) ∧ A.eval x1 = .slice p0 sl (sc + ex) ∧ ((∃ r, ρ b = some r ∧ p0 = some ⟨r.blk, r.off + q, none⟩ ∧ ex = r.extra) ∨ (sl = 0 ∧ sc = 0 ∧ ex = 0)) := by
      rcases zJ h1 with ⟨e1, e2, e3, hV⟩ | ⟨b, q, r, e1, hr, hV⟩ | ⟨b, q, a', e1, e2, e3, hV⟩
      ·exact .inl ⟨e1, e2, e3, hV⟩
      ·exact .inr ⟨b, q, _, r.extra, e1, hV, .inl ⟨r, hr, rfl, rfl⟩⟩
      ·subst e2; subst e3; exact .inr ⟨b, q, some a', 0, e1, hV, .inr ⟨rfl, rfl, rfl⟩⟩
     rcases two with ⟨rfl, rfl, rfl, hV⟩ | ⟨b, q, p0, ex, rfl, hV, hdis⟩
     ·simp only [zx, if_pos] at h
      cases h
      have hn0 := hn σ.nx (Nat.le_refl _) (by simp [HS.new])
      obtain ⟨c, hc, hrun⟩ := yz (P := P) (W := W) (ty := o.type) (p := none) (sl := 0) (sc := 0) (O := #[]) ht0 ht1 hu0 hu1 i1 i2 (zQ h2) hf2 (by simp [Builtin.firstCells]) hnle (by rw [ib]; omega) (by omega)
      refine ⟨zV (HS.get_new σ _), .slice (some ⟨W.heap.size, 0, none⟩) (0 + xl) c, _, ρ.put σ.nx ⟨W.heap.size, 0, c - (0 + xl)⟩, .inl (hrunB _ _ (by rw [hV]; exact hrun)), ?_, ?_⟩
      ·have := VR.slice (ρ := ρ.put σ.nx ⟨W.heap.size, 0, c - (0 + xl)⟩) (b := σ.nx) (o := 0) (l := 0 + xl) (c := 0 + xl) (r := ⟨W.heap.size, 0, c - (0 + xl)⟩) (Rho.put_same _ _ _)
       have e : 0 + xl + (c - (0 + xl)) = c := by omega
       simp only [e] at this
       exact this
      ·have := vp (fl := fl) (e := e) (C := #[] ++ U.toArray) hs hb hn0 (by simpa using hU) (hZc (c - (0 + xl)))
       exact this
     ·have hold : ∀ old, σ.read (b, q) (sl * sz) = some old → ∃ O : List Value, LR ρ old O ∧ (Builtin.firstCells i.size sl (A.eval x1)).run P W.drew = .ok O.toArray W.drew := fun old hold => by
       obtain ⟨O, hO, _, _, hf⟩ := yn (P := P) (n := sl) (size := sz) (news := old) h1 ⟨_, _, _, rfl, read_s hold, Nat.le_refl _⟩ hs
       exact ⟨O, hO, by rw [is]; exact hf⟩
      have grow : ∀ (σ2 : HS) (old : List HV) (hs2 : Sim P base σ2.h.get ρ W) (_ : σ2.nx = σ.nx), σ.read (b, q) (sl * sz) = some old → v = .slice (some (σ.nx, 0)) (sl + xl) (sl + xl) → σ' = σ2.new (.cells (old ++ news) (.opn sz)) → (fitsIn : ¬ sl + xl ≤ sc + ex) →
        ∃ V W' ρ', (execOp A.eval o).run P W = .ok (.value V) W' ∧ VR ρ' v V ∧ Post P base fl σ.nx σ'.nx σ2.h.get σ'.h.get ρ ρ' W W' := by
       intro σ2 old hs2 hnx hrd hv hσ' hbig
       obtain ⟨O, hO, hfO⟩ := hold old hrd
       have hn0 : ρ σ.nx = none := hn σ.nx (Nat.le_refl _) (by rw [hσ']; simp [HS.new, hnx])
       obtain ⟨c, hc, hrun⟩ := yz (P := P) (W := W) (ty := o.type) (O := O.toArray) ht0 ht1 hu0 hu1 i1 i2 (zQ h2) hf2 (by rw [← hV]; exact hfO) hbig (by rw [ib]; omega) (by omega)
       refine ⟨.slice (some ⟨W.heap.size, 0, none⟩) (sl + xl) c, _, ρ.put σ.nx ⟨W.heap.size, 0, c - (sl + xl)⟩, hrunB _ _ (by rw [hV]; exact hrun), ?_, ?_⟩
       ·subst hv
        have := VR.slice (ρ := ρ.put σ.nx ⟨W.heap.size, 0, c - (sl + xl)⟩) (b := σ.nx) (o := 0) (l := sl + xl) (c := sl + xl) (r := ⟨W.heap.size, 0, c - (sl + xl)⟩) (Rho.put_same _ _ _)
        have e : sl + xl + (c - (sl + xl)) = c := by omega
        simp only [e] at this
        exact this
       ·subst hσ'
        have := vp (fl := fl) (e := e) (C := O.toArray ++ U.toArray) (cs := old ++ news) hs2 hb (by rw [hnx]; exact hn0) (by simpa using LR.append hO hU) (hZc (c - (sl + xl)))
        rw [hnx] at this
        have e2 : (σ2.new (.cells (old ++ news) (.opn sz))).nx = σ.nx + 1 := by simp [HS.new, hnx]
        rw [e2]
        exact this
      dsimp only at h
      split at h
      ·rename_i cs old hcs hrd
       cases h
       obtain ⟨r', C, e', z', hr', _, _, hk⟩ := hs.ok _ _ hcs
       have hx0 : ex = 0 := by
        rcases hdis with ⟨r, hr, _, e2⟩ | ⟨_, _, e2⟩
        ·rw [hr] at hr'; cases hr'; rw [e2]; exact hk.2.2
        ·exact e2
       obtain ⟨V, W', ρ', g1, g2, g3⟩ := grow σ old hs rfl hrd rfl rfl (by omega)
       exact ⟨zV (HS.get_new σ _), V, W', ρ', .inl g1, g2, g3⟩
      ·rename_i cs z' old hcs hrd
       cases hc2 : (Nat.ble fl b && Nat.beq z' sz && Nat.beq (q + sc * sz) cs.length && news.all HV.one) with
       | false => rw [hc2] at h; cases h
       | true =>
        rw [hc2] at h
        simp only [cond_true] at h
        cases h
        simp only [Bool.and_eq_true, Nat.ble_eq, Nat.beq_eq] at hc2
        obtain ⟨⟨⟨d1, d2⟩, d3⟩, d4⟩ := hc2
        subst d2
        have hbn := hj _ _ hcs
        obtain ⟨r, C, e', zz, hr, hw, hcell, k1, rfl, k3⟩ := hs.ok _ _ hcs
        have hhf : HF fl σ.nx (σ.nx + 1) σ.h.get ((σ.upd b none).new (.cells (old ++ news) (.opn z'))).h.get := by
         have e1 : HF fl σ.nx σ.nx σ.h.get (σ.upd b none).h.get := zU d1 hbn (HS.get_upd σ b none)
         exact e1.trans (zV (HS.get_new (σ.upd b none) _))
        by_cases hbig : sl + xl ≤ sc + ex
        ·rcases hdis with ⟨r', hr', rfl, rfl⟩ | ⟨e1, e2, e3⟩
         case inr => omega
         rw [hr] at hr'; cases hr'
         obtain ⟨O, hO, hfO⟩ := hold old hrd
         obtain ⟨r2, O', hr2, hO', hOl, hOl', hOc⟩ := yJ hs hrd
         rw [hr] at hr2; cases hr2
         have hUl' : U.length = xl * z' := by rw [← hU.1]; exact hUl
         have hmul : (sl + xl) * z' ≤ (sc + r.extra) * z' := Nat.mul_le_mul_right _ hbig
         rw [Nat.add_mul, Nat.add_mul] at hmul
         have hst := run_storeCells_at P r.blk (r.off + (q + sl * z')) e' U 0 C W hw (by rw [hUl']; omega) (hU.all_one d4)
         have hn0 := hn σ.nx (Nat.le_refl _) (by simp [HS.new, HS.upd])
         refine ⟨hhf, .slice (some ⟨r.blk, r.off + q, none⟩) (sl + xl) (sc + r.extra), W.setRow r.blk (C.toList.take (r.off + (q + sl * z') + 0) ++ U ++ C.toList.drop (r.off + (q + sl * z') + 0 + U.length)).toArray, ρ.put σ.nx ⟨r.blk, r.off + q, sc + r.extra - (sl + xl)⟩, .inl (hrunB _ _ ?_), ?_, ?_⟩
         ·rw [hV]
          refine zG ht0 ht1 hu0 hu1 i1 (zQ h2) hf1 hbig (fun a h => ?_) (fun h => by cases h)
          cases h
          rw [zq, is, Nat.add_assoc]
          exact hst
         ·have := VR.slice (ρ := ρ.put σ.nx ⟨r.blk, r.off + q, sc + r.extra - (sl + xl)⟩) (b := σ.nx) (o := 0) (l := sl + xl) (c := sl + xl) (r := ⟨r.blk, r.off + q, sc + r.extra - (sl + xl)⟩) (Rho.put_same _ _ _)
          have e : sl + xl + (sc + r.extra - (sl + xl)) = sc + r.extra := by omega
          simp only [e] at this
          exact this
         ·have hrow : ∀ D : Array Value, (W.setRow r.blk D).heap[r.blk]? = some (.cells D e' (0, 0)) := fun D => setRow_heap W r.blk C D e' (0, 0) hw
          refine jz (y := .cells (old ++ news) (.opn z')) hs hcs rfl d1 hr hn0 (fun j => ?_) rfl rfl rfl rfl (fun a => ?_) (by simp) (fun k _ hk => ?_) ?_
          ·rw [HS.get_new, HS.get_upd]; rfl
          ·rw [zD, zD]
           by_cases ea : a.block = r.blk
           ·rw [ea, hrow, hw]; rfl
           ·simp only [World.setRow]
            rw [Array.getElem?_modify, if_neg (by omega)]
          ·simp only [World.setRow]
           rw [Array.getElem?_modify, if_neg (by omega)]
          ·refine ⟨_, _, e', (0, 0), Rho.put_same _ _ _, hrow _, fun j w hw' => ?_, k1, rfl, ?_⟩
           ·have hle := Rho.le_put (ρ := ρ) (b := σ.nx) ⟨r.blk, r.off + q, sc + r.extra - (sl + xl)⟩ hn0
            rw [List.getElem?_toArray]
            by_cases hjo : j < old.length
            ·rw [List.getElem?_append_left hjo] at hw'
             have hjO : j < O'.length := by rw [← hO'.1]; exact hjo
             have hu := hOc j O'[j] (List.getElem?_eq_getElem hjO)
             rw [cell_of_row W r.blk _ C e' (0, 0) hw] at hu
             refine ⟨O'[j], ?_, (hO'.2 _ _ _ hw' (List.getElem?_eq_getElem hjO)).mono hle⟩
             rw [List.append_assoc, List.getElem?_append_left (by simp; have := (Array.getElem?_eq_some_iff.1 hu).1; simp at this; omega), List.getElem?_take, if_pos (by simp; omega), Array.getElem?_toList]
             exact hu
            ·rw [List.getElem?_append_right (by omega)] at hw'
             have hjU : j - old.length < U.length := by rw [← hU.1]; exact (List.getElem?_eq_some_iff.1 hw').1
             refine ⟨U[j - old.length], ?_, (hU.2 _ _ _ hw' (List.getElem?_eq_getElem hjU)).mono hle⟩
             rw [List.append_assoc, List.getElem?_append_right (by simp; omega), List.getElem?_append_left (by simp; omega), List.getElem?_eq_some_iff]
             refine ⟨by simp; omega, ?_⟩
             congr 1
             simp
             omega
           ·have e1 : (sc + r.extra - (sl + xl)) * z' = (sc + r.extra) * z' - (sl + xl) * z' := Nat.sub_mul _ _ _
            rw [Nat.add_mul, Nat.add_mul] at e1
            simp [e1, hUl']
            omega
        ·have hkill := zP (fl := fl) (nx := σ.nx) (y := none) hs hcs rfl d1 hr (HS.get_upd σ b none) rfl rfl rfl (fun _ => rfl) (Nat.le_refl _) (fun _ _ _ => rfl) (fun z hz => by cases hz)
         obtain ⟨V, W', ρ', g1, g2, g3⟩ := grow (σ.upd b none) old hkill.sim rfl hrd rfl rfl hbig
         exact ⟨hhf, V, W', ρ', .inl g1, g2, Post.trans (Nat.le_refl _) (by simp [HS.new, HS.upd]) hkill g3⟩
      ·cases h
 ·cases h
theorem vE {ts : Array TypeId} {t0 t1 e ty : TypeId} {k kk : IntKind} {i : TypeInfo} {Z : Value} {n : Nat} (ht0 : ts[0]? = some t0) (ht1 : ts[1]? = some t1) (hu0 : P.underlying t0 = some (.slice e)) (hu1 : P.underlying t1 = some (.int k))
  (hi : P.info? e = some i) (hz : i.zero = some Z) (hn : 0 < n) (hsz : 0 < i.size) (hb : n * i.bytes ≤ 140737488355328) (h63 : n ≤ 140737488355328) :
  ∃ c, n ≤ c ∧ (Builtin.append_ ts ty #[.slice none 0 0, .int kk (n : Int)]).run P W = .ok (.slice (some ⟨W.heap.size, 0, none⟩) n c) (W.drew.alloc (.cells (Builtin.zeroCells Z.cells n ++ Builtin.zeroCells Z.cells (c - n)) e)) := by
 refine ⟨grownCap W n 0 e, grownCap_ge W _ _ e, ?_⟩
 have w1 : IntKind.i64.wrap (n : Int) = n := IntWalk.i64_in _ (by omega)
 have q0 : ¬ (n : Int) < 0 := by omega
 have q1 : ¬ (281474976710656 : Int) < n * i.bytes := by
  have e1 : ((n * i.bytes : Nat) : Int) = (n : Int) * i.bytes := by simp
  omega
 have q2 : ¬ n * i.size = 0 := by have := Nat.mul_pos hn hsz; omega
 have q3 : ¬ n = 0 := by omega
 have q4 : ¬ i.size = 0 := by omega
 have h63' : ¬ (9223372036854775807 < (n : Int)) := by omega
 have hfit := growslice_fits (old := 0) (need := n) (bytes := i.bytes) (by omega) hb
 have h48' : ¬ (281474976710656 < Builtin.nextslicecap n 0 * i.bytes) := by omega
 simp [Builtin.append_, ht0, ht1, za hu0, za hu1, zg hi, z2 hi, zF hi hz, asInt, asIntOf, w1, q0, q1, q3, q4, h63', h48', Question.forced, newRow, grownCap, Builtin.firstCells]
 exact fun h0 => absurd h0 q2
theorem u5 {xs : Array Operand} {y z : Lo} {t0 t1 e : TypeId} {k : IntKind} {sz by_ : Nat} {zv : HV} {ts : Array TypeId} (ho : o.op = .call { callee := .builtin .append, args := xs, argTypes := ts }) (hx : lowXs xs.toList = some [y, z]) (ht0 : ts[0]? = some t0) (ht1 : ts[1]? = some t1)
  (hu0 : P.underlying t0 = some (.slice e)) (hu1 : P.underlying t1 = some (.int k)) (hsz : szOf P e = some sz) (hby : byOf P e = some by_) (hz : zeroV P e = some zv) (hzl : zv.cells.length = sz)
  (h : oAppendZ zv.cells by_ y z a σ = some (v, σ')) (hs : Sim P base σ.h.get ρ W) (ha : AR ρ a A) (hb : base ≤ W.heap.size) (hn : ∀ b, σ.nx ≤ b → b < σ'.nx → ρ b = none) :
  HF fl σ.nx σ'.nx σ.h.get σ'.h.get ∧ Does P base fl σ σ' ρ W (execOp A.eval o) v := by
 obtain ⟨x1, x2, e1, hx1, hx2⟩ := yX hx
 have e1 := ua e1
 subst e1
 have h1 := zj ha hx1
 have h2 := zj ha hx2
 obtain ⟨i, Z, i1, i2, i3⟩ := zC hz ρ
 have ib : i.bytes = by_ := by simpa [byOf, i1] using hby
 have is : i.size = sz := by simpa [szOf, i1] using hsz
 have hZ : Z.cells.size = sz := by have := i3.cells.1; simp at this; omega
 have hrunB : ∀ V W', (Builtin.append_ ts o.type #[A.eval x1, A.eval x2]).run P W = .ok V W' → (execOp A.eval o).run P W = .ok (.value V) W' := fun V W' hr => by
  rw [zl ho]; simp [builtin, hr]
 unfold oAppendZ at h
 split at h
 ·rename_i n ey en
  rw [ey] at h1
  obtain ⟨kk, hk⟩ := yD h2 en
  cases hcond : (Nat.blt 0 n && Nat.ble (n * by_) 35184372088832 && Nat.ble n 35184372088832 && Nat.blt 0 zv.cells.length) with
  | false => rw [hcond] at h; cases h
  | true =>
   rw [hcond] at h
   simp only [Bool.and_eq_true, Nat.ble_eq, Nat.blt_eq] at hcond
   obtain ⟨⟨⟨c0, c1⟩, c2⟩, c3⟩ := hcond
   cases h
   have hV : A.eval x1 = .slice none 0 0 := by
    rcases zJ h1 with ⟨_, _, _, hV⟩ | ⟨_, _, _, h, _, _⟩ | ⟨_, _, _, h, _⟩
    case inr.inr => cases h
    ·exact hV
    ·cases h
   have hn0 := hn σ.nx (Nat.le_refl _) (by simp [HS.new])
   obtain ⟨c, hc, hrun⟩ := vE (P := P) (W := W) (ty := o.type) (kk := kk) ht0 ht1 hu0 hu1 i1 i2 c0 (by omega) (by rw [ib]; omega) (by omega)
   have hrow : LR ρ (repl n zv.cells) (Builtin.zeroCells Z.cells n).toList := by
    exact v6 (c := n) (s := Z.cells.size) i3.cells (by omega)
   refine ⟨zV (HS.get_new σ _), .slice (some ⟨W.heap.size, 0, none⟩) n c, _, ρ.put σ.nx ⟨W.heap.size, 0, c - n⟩, .inl (hrunB _ _ (by rw [hV, hk]; exact hrun)), ?_, ?_⟩
   ·have := VR.slice (ρ := ρ.put σ.nx ⟨W.heap.size, 0, c - n⟩) (b := σ.nx) (o := 0) (l := n) (c := n) (r := ⟨W.heap.size, 0, c - n⟩) (Rho.put_same _ _ _)
    have e : n + (c - n) = c := by omega
    simp only [e] at this
    exact this
   ·exact vp (fl := fl) (e := e) hs hb hn0 hrow (by rw [size_zeroCells, hZ, hzl])
 ·cases h
end Go.Hx

namespace Go.Hx
variable {P : Program} {base fl : Nat} {a : HAct} {σ σ' : HS} {v : HV} {ρ : Rho} {A : Act} {W : World} {o : Oper}
theorem vQ (off : Nat) : ∀ (U : List Value) (k : Nat) (C : Array Value),
  ((U.zipIdx k).foldl (fun cs (p : Value × Nat) => cs.setIfInBounds (off + p.2) p.1) C).size = C.size ∧
  ∀ i, ((U.zipIdx k).foldl (fun cs (p : Value × Nat) => cs.setIfInBounds (off + p.2) p.1) C)[i]? = if off + k ≤ i ∧ i < off + k + U.length ∧ i < C.size then U[i - (off + k)]? else C[i]?
 | [], k, C => ⟨rfl, fun i => by simp only [List.zipIdx_nil, List.foldl_nil]; rw [if_neg (by simp only [List.length_nil]; omega)]⟩
 | u :: U, k, C => by
  simp only [List.zipIdx_cons, List.foldl_cons]
  obtain ⟨h1, h2⟩ := vQ off U (k + 1) (C.setIfInBounds (off + k) u)
  refine ⟨by rw [h1]; simp, fun i => ?_⟩
  rw [h2, Array.size_setIfInBounds]
  by_cases e : i = off + k
  ·subst e
   rw [if_neg (by omega)]
   by_cases hlt : off + k < C.size
   ·rw [if_pos (by simp only [List.length_cons]; omega)]
    simp [hlt]
   ·rw [if_neg (by omega)]
    simp [hlt]
  ·rw [Array.getElem?_setIfInBounds_ne (by omega)]
   by_cases hin : off + (k + 1) ≤ i ∧ i < off + (k + 1) + U.length ∧ i < C.size
   ·rw [if_pos hin, if_pos (by simp only [List.length_cons]; omega)]
    have : i - (off + k) = (i - (off + (k + 1))) + 1 := by omega
    rw [this]; simp
   ·rw [if_neg hin, if_neg (by simp only [List.length_cons]; omega)]
theorem v7 {cs vs cs' : List HV} {off : Nat} {C : Array Value} {U : List Value} (hc : LR ρ cs C.toList) (hv : LR ρ vs U) (h : overwrite cs off vs = some cs') :
  LR ρ cs' (((U.zipIdx 0).foldl (fun cs (p : Value × Nat) => cs.setIfInBounds (off + p.2) p.1) C)).toList := by
 obtain ⟨l1, l2, l3⟩ := zH h
 obtain ⟨h1, h2⟩ := vQ off U 0 C
 have hl := hc.1
 simp only [Array.length_toList] at hl
 refine ⟨by simp only [Array.length_toList]; rw [h1, l1, hl], fun i v u hv' hu => ?_⟩
 rw [Array.getElem?_toList, h2] at hu
 rw [l3] at hv'
 have hlen := hv.1
 by_cases hin : off ≤ i ∧ i < off + vs.length
 ·rw [if_pos hin] at hv'
  have hne : vs ≠ [] := fun e => by subst e; simp at hin; omega
  have := l2 hne
  rw [if_pos (by omega)] at hu
  exact hv.2 _ _ _ hv' (by simpa using hu)
 ·rw [if_neg hin] at hv'
  rw [if_neg (by omega)] at hu
  exact hc.2 _ _ _ hv' (by simpa using hu)
theorem yQ (ha : AR ρ a A) {place : Nat → Option (Nat × Nat)} : ∀ {ps : List (Nat × Operand)} {qs : List (Nat × Nat × Lo)} {cells cs : List HV} {C : Array Value}, lowParts place ps = some qs → fillH cells (evParts a qs) = some cs → LR ρ cells C.toList →
  ∃ D : Array Value, Instr.fill place C (ps.map fun (i, x) => (i, A.eval x)) = some D ∧ LR ρ cs D.toList
 | [], qs, cells, cs, C, h1, h2, h3 => by
  cases h1
  cases h2
  exact ⟨C, rfl, h3⟩
 | (i, x) :: ps, qs, cells, cs, C, h1, h2, h3 => by
  unfold lowParts at h1
  split at h1
  ·rename_i off s y ps' e1 e2 e3
   cases h1
   have hv := zj ha e2
   simp only [evParts, List.map_cons, fillH] at h2
   cases hc : (Nat.beq (a.ev y).cells.length s && Nat.ble (off + s) cells.length) with
   | false => rw [hc] at h2; cases h2
   | true =>
    rw [hc] at h2
    simp only [cond_true, Option.bind_eq_some_iff] at h2
    simp only [Bool.and_eq_true, Nat.beq_eq, Nat.ble_eq] at hc
    obtain ⟨ds, hd, hr⟩ := h2
    have hlr := v7 h3 hv.cells hd
    obtain ⟨D, hD, hD2⟩ := yQ ha e3 hr hlr
    refine ⟨D, ?_, hD2⟩
    have hs : (A.eval x).cells.size = s := by have := hv.cells.1; simp at this; omega
    have hC : C.size = cells.length := by have := h3.1; simpa using this.symm
    have hlt : ¬ off + s > C.size := by omega
    simp only [List.map_cons, Instr.fill, e1]
    rw [if_neg (by simp [hs, hlt]), ← hD]
    congr 1
    rw [← Array.foldl_toList, Array.toList_zipIdx]
  ·cases h1
theorem uU {fs : List Field} (h : fs.all (fun f => (szOf P f.type).isSome) = true) : (fs.mapM fun (f : Field) => Prod.mk f.offset <$> sizeOf f.type : Sem (List (Nat × Nat))).run P W = .ok (fs.map fun f => (f.offset, P.cellsOf f.type)) W := by
 induction fs with
 | nil => simp
 | cons f fs ih =>
  simp only [List.all_cons, Bool.and_eq_true] at h
  obtain ⟨n, hn⟩ := Option.isSome_iff_exists.1 h.1
  obtain ⟨i, i1, i2⟩ := zi hn
  have hcells : P.cellsOf f.type = i.size := by simp [Program.cellsOf, i1]
  simp only [List.mapM_cons, Sem.run_bind, Sem.run_map, zg i1, Result.andThen_ok, Sem.run_pure, ih h.2, List.map_cons, hcells]
theorem vb {t : TypeId} {parts : Array (Nat × Operand)} {ps : List (Nat × Nat × Lo)} {fs : Array Field} {z : List HV} (ho : o.op = .build t parts) (hu : P.underlying t = some (.struct fs)) (hz : zeroV P t = some (.agg z)) (hall : fs.toList.all (fun f => (szOf P f.type).isSome) = true)
  (hp : lowParts (fun i => (fs[i]?).bind fun f => (szOf P f.type).map (f.offset, ·)) parts.toList = some ps) (h : oBuild z ps a σ = some (v, σ')) (hs : Sim P base σ.h.get ρ W) (ha : AR ρ a A) : HF fl σ.nx σ'.nx σ.h.get σ'.h.get ∧ Does P base fl σ σ' ρ W (execOp A.eval o) v := by
 obtain ⟨i, Z, i1, i2, i3⟩ := zC hz ρ
 unfold oBuild at h
 split at h
 ·rename_i cs hf
  cases h
  obtain ⟨D, hD, hlr⟩ := yQ ha hp hf i3.cells
  refine ⟨HF.refl _ _ _, zc hs (V := .agg D) ?_ (by simpa using VR.aggL hlr)⟩
  have hpl : (fs.mapM fun (f : Field) => Prod.mk f.offset <$> sizeOf f.type : Sem (Array (Nat × Nat))).run P W = .ok (fs.map fun (f : Field) => (f.offset, P.cellsOf f.type)) W := by
   rw [Array.mapM_eq_mapM_toList]
   simp only [Sem.run_map, uU hall, Result.andThen_ok]
   congr 1
   apply Array.ext'
   simp
  have hplace : (fun (i : Nat) => (fs[i]?).bind fun (f : Field) => (szOf P f.type).map (f.offset, ·)) = fun (i : Nat) => (fs.map fun (f : Field) => (f.offset, P.cellsOf f.type))[i]? := by
   funext j
   rw [Array.getElem?_map]
   cases hj : fs[j]? with
   | none => rfl
   | some f =>
    have hmem : f ∈ fs.toList := by rw [← Array.getElem?_toList] at hj; exact List.mem_of_getElem? hj
    obtain ⟨n, hn⟩ := Option.isSome_iff_exists.1 (List.all_eq_true.1 hall f hmem)
    obtain ⟨i, i1, i2⟩ := zi hn
    simp [hn, Program.cellsOf, i1, i2]
  rw [hplace] at hD
  have hD' : Instr.fill (fun x => (fs.map fun (f : Field) => (f.offset, P.cellsOf f.type))[x]?) Z.cells (List.map (fun x => (x.fst, A.eval x.snd)) parts.toList) = some D := hD
  simp only [Array.getElem?_map] at hD'
  simp [execOp, ho, Instr.build, zF i1 i2, za hu, hpl, hD']
 ·cases h
theorem vr {t e : TypeId} {n s : Nat} {parts : Array (Nat × Operand)} {ps : List (Nat × Nat × Lo)} {z : List HV} (ho : o.op = .build t parts) (hu : P.underlying t = some (.array n e)) (hz : zeroV P t = some (.agg z)) (hsz : szOf P e = some s)
  (hp : lowParts (fun i => some (i * s, s)) parts.toList = some ps) (h : oBuild z ps a σ = some (v, σ')) (hs : Sim P base σ.h.get ρ W) (ha : AR ρ a A) : HF fl σ.nx σ'.nx σ.h.get σ'.h.get ∧ Does P base fl σ σ' ρ W (execOp A.eval o) v := by
 obtain ⟨i, Z, i1, i2, i3⟩ := zC hz ρ
 obtain ⟨j, j1, j2⟩ := zi hsz
 unfold oBuild at h
 split at h
 ·rename_i cs hf
  cases h
  obtain ⟨D, hD, hlr⟩ := yQ ha hp hf i3.cells
  refine ⟨HF.refl _ _ _, zc hs (V := .agg D) ?_ (by simpa using VR.aggL hlr)⟩
  have hD' : Instr.fill (fun i => some (i * s, s)) Z.cells (List.map (fun x => (x.fst, A.eval x.snd)) parts.toList) = some D := hD
  simp [execOp, ho, Instr.build, zF i1 i2, za hu, zg j1, j2, hD']
 ·cases h
theorem vH {t e : TypeId} {len s : Nat} {z : HV} {parts : Array (Nat × Operand)} {ps : List (Nat × Nat × Lo)} (ho : o.op = .buildSlice t len parts) (hu : P.underlying t = some (.slice e)) (hsz : szOf P e = some s) (hz : zeroV P e = some z) (hle : len * s ≤ 100000) (hzl : z.cells.length = s)
  (hp : lowParts (fun i => some (i * s, s)) parts.toList = some ps) (h : oBuildSlice len z.cells ps a σ = some (v, σ')) (hs : Sim P base σ.h.get ρ W) (ha : AR ρ a A) (hb : base ≤ W.heap.size) (hn : ∀ b, σ.nx ≤ b → b < σ'.nx → ρ b = none) : HF fl σ.nx σ'.nx σ.h.get σ'.h.get ∧ Does P base fl σ σ' ρ W (execOp A.eval o) v := by
 obtain ⟨i, Z, i1, i2, i3⟩ := zC hz ρ
 have is : i.size = s := by simpa [szOf, i1] using hsz
 unfold oBuildSlice at h
 split at h
 ·rename_i cs hf
  cases h
  have hn0 := hn σ.nx (Nat.le_refl _) (by simp [HS.new])
  have hrow : LR ρ (repl len z.cells) ((Array.range (len * s)).map (Z.cells[· % Z.cells.size]!)).toList := v6 i3.cells hzl
  have hlim : ¬ 16777216 < len * s := by omega
  by_cases h0 : len * s = 0
  ·rw [h0, z4] at hrow
   obtain ⟨D, hD, hlr⟩ := yQ ha hp hf hrow
   refine ⟨zV (HS.get_new σ _), _, _, _, .inl ?_, (vi ρ σ.nx W.heap.size len len).2, yj (e := e) hs hb hn0 hlr⟩
   have hD' : Instr.fill (fun i => some (i * s, s)) #[] (List.map (fun x => (x.fst, A.eval x.snd)) parts.toList) = some D := hD
   simp [execOp, ho, Instr.buildSlice, za hu, zg i1, is, h0, newRow]
   rw [z4]
   simp [hD']
  ·obtain ⟨D, hD, hlr⟩ := yQ ha hp hf hrow
   refine ⟨zV (HS.get_new σ _), _, _, _, .inl ?_, (vi ρ σ.nx W.heap.size len len).2, yj (e := e) hs hb hn0 hlr⟩
   have hD' : Instr.fill (fun i => some (i * s, s)) ((Array.range (len * s)).map (Z.cells[· % Z.cells.size]!)) (List.map (fun x => (x.fst, A.eval x.snd)) parts.toList) = some D := hD
   simp [execOp, ho, Instr.buildSlice, za hu, zg i1, is, hlim, h0, zF i1 i2, hD', newRow]
 ·cases h
end Go.Hx

namespace Go.Hx
variable {P : Program} {base fl : Nat} {a : HAct} {σ σ' : HS} {v : HV} {ρ : Rho} {A : Act} {W : World} {o : Oper}
def leafFits : Leaf → TypeDesc → Prop
 | .b, .bool => True
 | .i k, .int k' => k' = k
 | .s, .string => True
 | _, _ => False
theorem bytes_eq {a b : ByteArray} (h : (a == b) = true) : a = b := by
 obtain ⟨x⟩ := a
 obtain ⟨y⟩ := b
 have h' : (x == y) = true := h
 rw [eq_of_beq h']
theorem z6 {k : Leaf} {x y : HV} {X Y : Value} {b : Bool} (h : eqLeaf k x y = some b) (hx : VR ρ x X) (hy : VR ρ y Y) :
  (b = true → X = Y) ∧ (∀ n, b = true → Instr.sameBits n X Y = true) ∧ (∀ d t td, P.underlying t = some td → leafFits k td → (Op.equalIn (d + 1) t X Y).run P W = .ok b W) ∧ (∀ td, leafFits k td → Instr.sameNow td X Y = some b) := by
 unfold eqLeaf at h
 split at h
 ·cases h
  rw [yI hx, yI hy]
  refine ⟨fun e => by simpa using e, fun n e => ?_, fun d t td hu hf => ?_, fun td hf => ?_⟩
  ·cases n <;> simpa [Instr.sameBits] using e
  ·cases td <;> simp [leafFits] at hf
   simp [Op.equalIn, za hu]
  ·cases td <;> simp [leafFits] at hf
   rfl
 ·split at h
  ·rename_i hk
   obtain ⟨rfl, rfl⟩ := hk
   cases h
   rw [zZ hx, zZ hy]
   refine ⟨fun e => by simpa using e, fun n e => ?_, fun d t td hu hf => ?_, fun td hf => ?_⟩
   ·cases n <;> simpa [Instr.sameBits] using e
   ·cases td <;> simp [leafFits] at hf
    simp [Op.equalIn, za hu]
   ·cases td <;> simp [leafFits] at hf
    simp [Instr.sameNow]
  ·cases h
 ·cases h
  rw [vh hx, vh hy]
  refine ⟨fun e => by rw [bytes_eq e], fun n e => ?_, fun d t td hu hf => ?_, fun td hf => ?_⟩
  ·cases n <;> simpa [Instr.sameBits] using e
  ·cases td <;> simp [leafFits] at hf
   simp [Op.equalIn, za hu]
  ·cases td <;> simp [leafFits] at hf
   rfl
 ·cases h
theorem z5 : ∀ {ks : List Leaf} {xs ys : List HV} {b : Bool}, eqRow ks xs ys = some b → xs.length = ks.length ∧ ys.length = ks.length
 | [], [], [], b, h => ⟨rfl, rfl⟩
 | k :: ks, x :: xs, y :: ys, b, h => by
  unfold eqRow at h
  split at h
  ·rename_i e1 e2
   have := z5 e2
   simp [this.1, this.2]
  ·cases h
 | [], [], _ :: _, b, h => by simp [eqRow] at h
 | [], _ :: _, _, b, h => by simp [eqRow] at h
 | _ :: _, [], _, b, h => by simp [eqRow] at h
 | _ :: _, _ :: _, [], b, h => by simp [eqRow] at h
theorem yf : ∀ {k1 k2 : List Leaf} {xs ys : List HV} {b : Bool}, eqRow (k1 ++ k2) xs ys = some b →
  ∃ b1 b2, eqRow k1 (xs.take k1.length) (ys.take k1.length) = some b1 ∧ eqRow k2 (xs.drop k1.length) (ys.drop k1.length) = some b2 ∧ b = (b1 && b2)
 | [], k2, xs, ys, b, h => ⟨true, b, by simp [eqRow], by simpa using h, by simp⟩
 | k :: k1, k2, xs, ys, b, h => by
  cases xs with
  | nil => simp [eqRow] at h
  | cons x xs =>
   cases ys with
   | nil => simp [eqRow] at h
   | cons y ys =>
    simp only [List.cons_append, eqRow] at h
    split at h
    ·rename_i a1 a2 e1 e2
     cases h
     obtain ⟨b1, b2, f1, f2, f3⟩ := yf e2
     refine ⟨a1 && b1, b2, ?_, by simpa using f2, by rw [f3, Bool.and_assoc]⟩
     simp [eqRow, e1, f1]
    ·cases h
theorem y8 : ∀ {ks : List Leaf} {xs ys : List HV} {X Y : List Value} {b : Bool}, eqRow ks xs ys = some b → LR ρ xs X → LR ρ ys Y → b = true → X = Y ∧ ∀ n, (X.zip Y).all (fun (p : Value × Value) => Instr.sameBits n p.1 p.2) = true
 | [], [], [], X, Y, b, h, hx, hy, _ => by
  rw [LR.inv_nil hx, LR.inv_nil hy]
  exact ⟨rfl, fun n => rfl⟩
 | k :: ks, x :: xs, y :: ys, X, Y, b, h, hx, hy, hb => by
  unfold eqRow at h
  split at h
  ·rename_i a1 a2 e1 e2
   cases h
   simp only [Bool.and_eq_true] at hb
   obtain ⟨u, X', rfl, hu, hx'⟩ := LR.inv hx
   obtain ⟨w, Y', rfl, hw, hy'⟩ := LR.inv hy
   obtain ⟨g1, g2⟩ := y8 e2 hx' hy' hb.2
   obtain ⟨f1, f2, _⟩ := z6 (P := default) (W := default) e1 hu hw
   refine ⟨by rw [f1 hb.1, g1], fun n => ?_⟩
   simp only [List.zip_cons_cons, List.all_cons, Bool.and_eq_true]
   exact ⟨f2 n hb.1, g2 n⟩
  ·cases h
 | [], [], _ :: _, X, Y, b, h, _, _, _ => by simp [eqRow] at h
 | [], _ :: _, _, X, Y, b, h, _, _, _ => by simp [eqRow] at h
 | _ :: _, [], _, X, Y, b, h, _, _, _ => by simp [eqRow] at h
 | _ :: _, _ :: _, [], X, Y, b, h, _, _, _ => by simp [eqRow] at h
theorem LR.take {ρ : Rho} {cs : List HV} {C : List Value} (h : LR ρ cs C) (n : Nat) : LR ρ (cs.take n) (C.take n) := by
 refine ⟨by simp [h.1], fun i v u hv hu => ?_⟩
 rw [List.getElem?_take] at hv hu
 split at hv
 ·rw [if_pos (by assumption)] at hu; exact h.2 i v u hv hu
 ·cases hv
theorem LR.drop {ρ : Rho} {cs : List HV} {C : List Value} (h : LR ρ cs C) (n : Nat) : LR ρ (cs.drop n) (C.drop n) := by
 refine ⟨by simp [h.1], fun i v u hv hu => ?_⟩
 rw [List.getElem?_drop] at hv hu
 exact h.2 _ v u hv hu
def mk (P : Program) (t : TypeId) (X : List Value) : Value :=
 match aggOf P t with
 | some true => .agg X.toArray
 | _ => X.getD 0 Go.undef
theorem yv {t : TypeId} {n off : Nat} {C : List Value} {g : Bool} (hg : aggOf P t = some g) (hz : szOf P t = some n) (hn : g = false → n = 1) (hl : off + n ≤ C.length) :
  (part t C.toArray off).run P W = .ok (mk P t ((C.drop off).take n)) W := by
 obtain ⟨i, hi, hi2⟩ := zi hz
 cases g with
 | true =>
  simp only [part, Sem.run_bind, zY hg, Result.andThen_ok, if_true, zg hi, hi2, Sem.run_pure, mk, hg]
  congr 2
  apply Array.ext'
  simp
 | false =>
  have := hn rfl
  subst this
  have hlt : off < C.length := by omega
  have e : ((C.drop off).take 1).getD 0 Go.undef = C[off] := by
   simp [List.getD, hlt]
  simp [part, zY hg, mk, hg, hlt]
theorem yc {d : Nat} {t : TypeId} {ks : List Leaf} (h : leaves P d t = some ks) : ∃ g, aggOf P t = some g ∧ (g = false → ks.length = 1) := by
 cases d with
 | zero => simp [leaves] at h
 | succ d =>
  unfold leaves at h
  split at h
  ·rename_i hu; cases h; exact ⟨false, by simp [aggOf, hu], fun _ => rfl⟩
  ·rename_i hu; cases h; exact ⟨false, by simp [aggOf, hu], fun _ => rfl⟩
  ·rename_i hu; cases h; exact ⟨false, by simp [aggOf, hu], fun _ => rfl⟩
  ·rename_i hu; exact ⟨true, by simp [aggOf, hu], fun h => by cases h⟩
  ·rename_i hu; exact ⟨true, by simp [aggOf, hu], fun h => by cases h⟩
  ·cases h
theorem yE {d : Nat} {e : TypeId} {n : Nat} {ks : List Leaf} (h : (match leaves P d e, szOf P e with
   | some ks, some s => bif Nat.beq s ks.length && Nat.ble 1 s then some (repL n ks) else none
   | _, _ => none) = some ks) : ∃ k1, leaves P d e = some k1 ∧ szOf P e = some k1.length ∧ 1 ≤ k1.length ∧ ks = repL n k1 := by
 split at h
 ·rename_i k1 s e1 e2
  cases hc : (Nat.beq s k1.length && Nat.ble 1 s) with
  | false => rw [hc] at h; cases h
  | true =>
   rw [hc] at h
   simp only [Bool.and_eq_true] at hc
   have h1 := Nat.eq_of_beq_eq_true hc.1
   have h2 := Nat.le_of_ble_eq_true hc.2
   subst h1
   cases h
   exact ⟨k1, e1, e2, h2, rfl⟩
 ·cases h
theorem repL_len (n : Nat) (ks : List Leaf) : (repL n ks).length = n * ks.length := by
 induction n with
 | zero => simp [repL]
 | succ n ih => simp [repL, ih, Nat.add_mul]; omega
theorem uA {d m s : Nat} {e : TypeId} {ks : List Leaf} (IH : ∀ (xs ys : List HV) (X Y : List Value) (b : Bool), eqRow ks xs ys = some b → LR ρ xs X → LR ρ ys Y → (Op.equalIn (d + m) e (mk P e X) (mk P e Y)).run P W = .ok b W) (hk : leaves P d e = some ks) (hz : szOf P e = some ks.length) (hs : s = ks.length) (hp : 1 ≤ ks.length) :
  ∀ (n off : Nat) (xs ys : List HV) (X Y : List Value) (b : Bool), eqRow (repL n ks) (xs.drop (off * s)) (ys.drop (off * s)) = some b → LR ρ xs X → LR ρ ys Y →
   (Op.eqItems (d + m) e s X.toArray Y.toArray (List.range' off n)).run P W = .ok b W
 | 0, off, xs, ys, X, Y, b, he, hx, hy => by
  have : b = true := by
   unfold repL at he
   cases h1 : xs.drop (off * s) <;> cases h2 : ys.drop (off * s) <;> simp [h1, h2, eqRow] at he
   exact he
  subst this
  simp [Op.eqItems]
 | n + 1, off, xs, ys, X, Y, b, he, hx, hy => by
  obtain ⟨g, hg, hgn⟩ := yc hk
  unfold repL at he
  obtain ⟨b1, b2, g1, g2, rfl⟩ := yf he
  obtain ⟨l1, l2⟩ := z5 he
  simp only [List.length_drop, List.length_append] at l1 l2
  have hxl := hx.1
  have hyl := hy.1
  have p1 := yv (P := P) (W := W) (off := off * s) (C := X) hg hz hgn (by omega)
  have p2 := yv (P := P) (W := W) (off := off * s) (C := Y) hg hz hgn (by omega)
  have hrun := IH _ _ _ _ b1 g1 ((hx.drop (off * s)).take ks.length) ((hy.drop (off * s)).take ks.length)
  have hrest := uA IH hk hz hs hp n (off + 1) xs ys X Y b2 (by rw [Nat.add_mul, Nat.one_mul, ← List.drop_drop, ← List.drop_drop, hs]; rw [hs] at g2; exact g2) hx hy
  simp only [List.range'_succ, Op.eqItems, Sem.run_bind, p1, p2, Result.andThen_ok, hrun]
  cases b1
  ·simp
  ·simpa using hrest
theorem y1 {d m : Nat} (IH : ∀ (t : TypeId) (ks : List Leaf), leaves P d t = some ks → ∀ (xs ys : List HV) (X Y : List Value) (b : Bool), eqRow ks xs ys = some b → LR ρ xs X → LR ρ ys Y → (Op.equalIn (d + m) t (mk P t X) (mk P t Y)).run P W = .ok b W) :
  ∀ (fs : List Field) (off : Nat) (ks : List Leaf), leavesF P (leaves P d) fs off = some ks → ∀ (xs ys : List HV) (X Y : List Value) (b : Bool), eqRow ks (xs.drop off) (ys.drop off) = some b → LR ρ xs X → LR ρ ys Y →
   (Op.eqFields (d + m) X.toArray Y.toArray fs).run P W = .ok b W
 | [], off, ks, h, xs, ys, X, Y, b, he, hx, hy => by
  cases h
  have : b = true := by
   cases h1 : xs.drop off <;> cases h2 : ys.drop off <;> simp [h1, h2, eqRow] at he
   exact he
  subst this
  simp [Op.eqFields]
 | f :: fs, off, ks, h, xs, ys, X, Y, b, he, hx, hy => by
  unfold leavesF at h
  split at h
  ·rename_i k1 n e1 e2
   cases hc : (f.name != "_" && Nat.beq f.offset off && Nat.beq n k1.length) with
   | false => rw [hc] at h; cases h
   | true =>
    rw [hc] at h
    simp only [cond_true, Option.map_eq_some_iff] at h
    simp only [Bool.and_eq_true, bne_iff_ne, ne_eq, Nat.beq_eq] at hc
    obtain ⟨⟨c1, c2⟩, c3⟩ := hc
    obtain ⟨k2, e3, rfl⟩ := h
    obtain ⟨b1, b2, g1, g2, rfl⟩ := yf he
    obtain ⟨l1, l2⟩ := z5 he
    simp only [List.length_drop, List.length_append] at l1 l2
    obtain ⟨g, hg, hgn⟩ := yc e1
    have hxl := hx.1
    have hyl := hy.1
    by_cases h0 : n = 0
    ·have hk : k1.length = 0 := by omega
     have hgt : g = true := by
      cases g
      ·have := hgn rfl; omega
      ·rfl
     subst hgt
     obtain ⟨i, hi, hi2⟩ := zi e2
     have pX : ∀ C : List Value, (part f.type C.toArray f.offset).run P W = .ok (mk P f.type []) W := fun C => by
      simp only [part, Sem.run_bind, zY hg, Result.andThen_ok, if_true, zg hi, hi2, h0, Sem.run_pure, mk, hg]
      congr 2
      apply Array.ext'
      simp
     have hrun := IH f.type k1 e1 [] [] [] [] b1 (by rw [hk] at g1; simpa using g1) (LR.nil ρ) (LR.nil ρ)
     have hrest := y1 IH fs (off + n) k2 e3 xs ys X Y b2 (by rw [h0]; rw [hk] at g2; simpa using g2) hx hy
     simp only [Op.eqFields, c1, ne_eq, not_false_eq_true, if_true, Sem.run_bind, pX, Result.andThen_ok, hrun]
     cases b1
     ·simp
     ·simpa using hrest
    ·have p1 := yv (P := P) (W := W) (off := f.offset) (C := X) hg e2 (fun e => by rw [c3]; exact hgn e) (by omega)
     have p2 := yv (P := P) (W := W) (off := f.offset) (C := Y) hg e2 (fun e => by rw [c3]; exact hgn e) (by omega)
     have hrun := IH f.type k1 e1 _ _ _ _ b1 g1 ((hx.drop off).take k1.length) ((hy.drop off).take k1.length)
     have hrest := y1 IH fs (off + n) k2 e3 xs ys X Y b2 (by rw [c3, ← List.drop_drop, ← List.drop_drop]; exact g2) hx hy
     rw [← c3] at hrun
     rw [c2] at p1 p2
     simp only [Op.eqFields, c1, ne_eq, not_false_eq_true, if_true, Sem.run_bind, c2, p1, p2, Result.andThen_ok, hrun]
     cases b1
     ·simp
     ·simpa using hrest
  ·cases h
theorem y0 (m : Nat) : ∀ (d : Nat) (t : TypeId) (ks : List Leaf), leaves P d t = some ks → ∀ (xs ys : List HV) (X Y : List Value) (b : Bool), eqRow ks xs ys = some b → LR ρ xs X → LR ρ ys Y → (Op.equalIn (d + m) t (mk P t X) (mk P t Y)).run P W = .ok b W
 | 0, t, ks, h, _, _, _, _, _, _, _, _ => by simp [leaves] at h
 | d + 1, t, ks, h, xs, ys, X, Y, b, he, hx, hy => by
  have one : ∀ (k : Leaf) (td : TypeDesc), P.underlying t = some td → leafFits k td → aggOf P t = some false → ks = [k] → (Op.equalIn (d + 1 + m) t (mk P t X) (mk P t Y)).run P W = .ok b W := by
   intro k td hu hf hg hk
   subst hk
   obtain ⟨l1, l2⟩ := z5 he
   cases xs with
   | nil => simp at l1
   | cons x xs =>
    cases ys with
    | nil => simp at l2
    | cons y ys =>
     have h1 : xs = [] := by simpa using l1
     have h2 : ys = [] := by simpa using l2
     subst h1; subst h2
     obtain ⟨u, X', rfl, hu', hX'⟩ := LR.inv hx
     obtain ⟨w, Y', rfl, hw', hY'⟩ := LR.inv hy
     have hb : eqLeaf k x y = some b := by
      simp only [eqRow] at he
      split at he
      ·rename_i a1 a2 e1 e2
       cases e2
       simp at he
       subst he
       exact e1
      ·cases he
     have := (z6 (P := P) (W := W) hb hu' hw').2.2.1 (d + m) t td hu hf
     have e : d + 1 + m = d + m + 1 := by omega
     rw [e]
     simpa [mk, hg] using this
  unfold leaves at h
  split at h
  ·rename_i hu; cases h; exact one .b _ hu trivial (by simp [aggOf, hu]) rfl
  ·rename_i k hu; cases h; exact one (.i k) _ hu rfl (by simp [aggOf, hu]) rfl
  ·rename_i hu; cases h; exact one .s _ hu trivial (by simp [aggOf, hu]) rfl
  ·rename_i fs hu
   cases hst : P.stoodInHeld t with
   | true => rw [hst] at h; cases h
   | false =>
    rw [hst] at h
    simp only [cond_false] at h
    have hfo : P.fieldsOf t = fs := by simp [Program.fieldsOf, hu]
    have hg : aggOf P t = some true := by simp [aggOf, hu]
    have e : d + 1 + m = d + m + 1 := by omega
    rw [e]
    simp only [mk, hg]
    rw [run_equalIn_struct W (d + m) t X.toArray Y.toArray (by rw [hfo]; exact hu) hst, hfo]
    exact y1 (y0 m d) fs.toList 0 ks h xs ys X Y b (by simpa using he) hx hy
  ·rename_i n e hu
   obtain ⟨k1, e1, e2, e3, rfl⟩ := yE h
   obtain ⟨i, hi, hi2⟩ := zi e2
   have hg : aggOf P t = some true := by simp [aggOf, hu]
   have hc : P.cellsOf e = k1.length := by simp [Program.cellsOf, hi, hi2]
   have ee : d + 1 + m = d + m + 1 := by omega
   rw [ee]
   simp only [mk, hg]
   rw [run_equalIn_array W (d + m) X.toArray Y.toArray hu hi, hc, List.range_eq_range']
   exact uA (y0 m d e k1 e1) e1 e2 rfl e3 n 0 xs ys X Y b (by simpa using he) hx hy
  ·cases h
end Go.Hx

namespace Go.Hx
variable {P : Program} {base fl : Nat} {a : HAct} {σ σ' : HS} {v : HV} {ρ : Rho} {A : Act} {W : World} {o : Oper}
theorem yO {d n : Nat} (IH : ∀ (t : TypeId) (ks : List Leaf), leaves P d t = some ks → P.eqGuardType n t = false) : ∀ (fs : List Field) (off : Nat) (ks : List Leaf), leavesF P (leaves P d) fs off = some ks →
  (fs.any fun f => f.name != "_" && P.eqGuardType n f.type) = false
 | [], _, _, _ => rfl
 | f :: fs, off, ks, h => by
  unfold leavesF at h
  split at h
  ·rename_i k1 m e1 e2
   cases hc : (f.name != "_" && Nat.beq f.offset off && Nat.beq m k1.length) with
   | false => rw [hc] at h; cases h
   | true =>
    rw [hc] at h
    simp only [cond_true, Option.map_eq_some_iff] at h
    obtain ⟨k2, e3, _⟩ := h
    simp [IH _ _ e1]
    have := yO IH fs _ _ e3
    simpa using this
  ·cases h
theorem yd : ∀ (d : Nat) (t : TypeId) (ks : List Leaf), leaves P d t = some ks → ∀ n, d ≤ n → P.eqGuardType n t = false
 | 0, t, ks, h, _, _ => by simp [leaves] at h
 | d + 1, t, ks, h, n, hn => by
  obtain ⟨m, rfl⟩ : ∃ m, n = m + 1 := ⟨n - 1, by omega⟩
  unfold leaves at h
  split at h
  ·rename_i hu; simp [Program.eqGuardType, hu]
  ·rename_i hu; simp [Program.eqGuardType, hu]
  ·rename_i hu; simp [Program.eqGuardType, hu]
  ·rename_i fs hu
   cases hst : P.stoodInHeld t with
   | true => rw [hst] at h; cases h
   | false =>
    rw [hst] at h
    simp only [cond_false] at h
    have := yO (fun t ks h => yd d t ks h m (by omega)) fs.toList 0 ks h
    simp only [Program.eqGuardType, hu]
    rw [← Array.any_toList]
    exact this
  ·rename_i e hu
   obtain ⟨k1, e1, _⟩ := yE h
   simp only [Program.eqGuardType, hu]
   exact yd d e k1 e1 m (by omega)
  ·cases h
def EdFits (P : Program) (t : TypeId) : ED → Prop
 | .cell k => ∃ td, P.underlying t = some td ∧ leafFits k td
 | .row ks => 20 ≤ P.depth ∧ leaves P 20 t = some ks ∧ aggOf P t = some true
 | .nilSlice => ∃ e, P.underlying t = some (.slice e)
 | .nilPtr => ∃ e, P.underlying t = some (.pointer e)
 | .nilMap => ∃ k e, P.underlying t = some (.map k e)
 | .nilFunc => ∃ p r q, P.underlying t = some (.func p r q)
theorem ve {t : TypeId} {d : ED} (h : edOf P t = some d) : EdFits P t d := by
 unfold edOf at h
 split at h
 ·rename_i hu; cases h; exact ⟨_, hu⟩
 ·rename_i hu; cases h; exact ⟨_, hu⟩
 ·rename_i hu; cases h; exact ⟨_, _, hu⟩
 ·rename_i hu; cases h; exact ⟨_, _, _, hu⟩
 ·rename_i hu; cases h; exact ⟨_, hu, trivial⟩
 ·rename_i hu; cases h; exact ⟨_, hu, rfl⟩
 ·rename_i hu; cases h; exact ⟨_, hu, trivial⟩
 ·rename_i hu
  cases hc : Nat.ble 20 P.depth with
  | false => rw [hc] at h; cases h
  | true =>
   rw [hc] at h
   simp only [cond_true, Option.map_eq_some_iff] at h
   obtain ⟨ks, h1, rfl⟩ := h
   exact ⟨Nat.le_of_ble_eq_true hc, h1, by simp [aggOf, hu]⟩
 ·rename_i hu
  cases hc : Nat.ble 20 P.depth with
  | false => rw [hc] at h; cases h
  | true =>
   rw [hc] at h
   simp only [cond_true, Option.map_eq_some_iff] at h
   obtain ⟨ks, h1, rfl⟩ := h
   exact ⟨Nat.le_of_ble_eq_true hc, h1, by simp [aggOf, hu]⟩
 ·cases h
theorem yr {ρ : Rho} {p : Option (Nat × Nat)} {V : Value} (h : VR ρ (.ptr p) V) : ∃ q, V = .pointer q ∧ p.isNone = q.isNone := by
 cases h
 ·exact ⟨_, rfl, rfl⟩
 ·exact ⟨_, rfl, rfl⟩
theorem yt {ρ : Rho} {p : Option Nat} {V : Value} (h : VR ρ (.map p) V) : ∃ q, V = .map q ∧ p.isNone = q.isNone := by
 cases h
 ·exact ⟨_, rfl, rfl⟩
 ·exact ⟨_, rfl, rfl⟩
theorem zp {ρ : Rho} {V : Value} (h : VR ρ .nilFunc V) : V = .nilFunc := by cases h; rfl
theorem jb (m : Nat) {d : ED} {t : TypeId} {x y : HV} {X Y : Value} {b : Bool} (hd : EdFits P t d) (h : eqH d x y = some b) (hx : VR ρ x X) (hy : VR ρ y Y) : (Op.equalIn (20 + m) t X Y).run P W = .ok b W := by
 have e : 20 + m = (19 + m) + 1 := by omega
 cases d with
 | cell k =>
  obtain ⟨td, hu, hf⟩ := hd
  rw [e]
  exact (z6 (P := P) (W := W) h hx hy).2.2.1 _ t td hu hf
 | row ks =>
  obtain ⟨_, hl, hg⟩ := hd
  unfold eqH at h
  split at h <;> first | contradiction | skip
  rename_i xs ys heq
  cases heq
  obtain ⟨C, rfl, hC⟩ := VR.inv_agg hx
  obtain ⟨D, rfl, hD⟩ := VR.inv_agg hy
  have := y0 (P := P) (W := W) (ρ := ρ) m 20 t ks hl xs ys C D b h hC hD
  simpa [mk, hg] using this
 | nilSlice =>
  obtain ⟨e', hu⟩ := hd
  rw [e]
  unfold eqH at h
  split at h <;> first | contradiction | skip
  obtain ⟨q1, d1, rfl, h1⟩ := zA hx
  obtain ⟨q2, d2, rfl, h2⟩ := zA hy
  rw [h1, h2] at h
  cases q1 with
  | none => cases h; cases hx; simp [Op.equalIn, za hu]
  | some q1 =>
   cases q2 with
   | none => cases h; cases hy; simp [Op.equalIn, za hu]
   | some q2 => cases h
 | nilPtr =>
  obtain ⟨e', hu⟩ := hd
  rw [e]
  unfold eqH at h
  split at h <;> first | contradiction | skip
  obtain ⟨q1, rfl, h1⟩ := yr hx
  obtain ⟨q2, rfl, h2⟩ := yr hy
  rw [h1, h2] at h
  cases q1 with
  | none => cases h; simp [Op.equalIn, za hu]
  | some q1 =>
   cases q2 with
   | none => cases h; simp [Op.equalIn, za hu]
   | some q2 => cases h
 | nilMap =>
  obtain ⟨k, e', hu⟩ := hd
  rw [e]
  unfold eqH at h
  split at h <;> first | contradiction | skip
  obtain ⟨q1, rfl, h1⟩ := yt hx
  obtain ⟨q2, rfl, h2⟩ := yt hy
  rw [h1, h2] at h
  cases q1 with
  | none => cases h; simp [Op.equalIn, za hu]
  | some q1 =>
   cases q2 with
   | none => cases h; simp [Op.equalIn, za hu]
   | some q2 => cases h
 | nilFunc =>
  obtain ⟨p, r, q, hu⟩ := hd
  rw [e]
  unfold eqH at h
  split at h <;> first | contradiction | skip
  ·cases h
   rw [zp hx, zp hy]
   simp [Op.equalIn, za hu]
  ·cases h
   obtain ⟨F, C, rfl, _, _⟩ := z8 hy
   rw [zp hx]
   simp [Op.equalIn, za hu]
  ·cases h
   obtain ⟨F, C, rfl, _, _⟩ := z8 hx
   rw [zp hy]
   simp [Op.equalIn, za hu]
theorem z7 {d : ED} {t : TypeId} {x y : HV} {X Y : Value} {b : Bool} (hd : EdFits P t d) (h : eqH d x y = some b) (hx : VR ρ x X) (hy : VR ρ y Y) : (Op.equal t X Y).run P W = .ok b W :=
 jb 9980 hd h hx hy
theorem eq_run {d : ED} {neg : Bool} {op : BinOp} {t : TypeId} {x y : HV} {X Y : Value} {b : Bool} (hop : op = if neg then .neq else .eql) (hd : EdFits P t d) (h : eqH d x y = some b) (hx : VR ρ x X) (hy : VR ρ y Y) (p q : Operand) :
  (eqGuard op t p q X Y).run P W = .ok () W ∧ (binOp op t X Y).run P W = .ok (.bool (b != neg)) W := by
 have he := z7 (W := W) hd h hx hy
 cases d with
 | cell k =>
  unfold eqH at h
  simp only at h
  unfold eqLeaf at h
  split at h
  ·cases h
   rw [yI hx, yI hy] at he ⊢
   subst hop
   cases neg <;> simp [eqGuard, binOp, he]
  ·split at h
   ·rename_i hk
    obtain ⟨rfl, rfl⟩ := hk
    cases h
    rw [zZ hx, zZ hy]
    subst hop
    cases neg <;> simp [eqGuard, binOp, Op.intCmp, bne]
   ·cases h
  ·cases h
   rw [vh hx, vh hy]
   subst hop
   cases neg <;> simp [eqGuard, binOp, Op.stringOp, beq_toListBytes]
  ·cases h
 | row ks =>
  obtain ⟨hdep, hl, hg⟩ := hd
  unfold eqH at h
  split at h <;> first | contradiction | skip
  rename_i xs ys heq
  cases heq
  obtain ⟨C, rfl, hC⟩ := VR.inv_agg hx
  obtain ⟨D, rfl, hD⟩ := VR.inv_agg hy
  have hgd := yd 20 t ks hl P.depth hdep
  subst hop
  cases neg <;> simp [eqGuard, binOp, he, hgd]
 | nilSlice =>
  unfold eqH at h
  split at h <;> first | contradiction | skip
  all_goals
   obtain ⟨q1, d1, rfl, _⟩ := zA hy
   obtain ⟨q2, d2, rfl, _⟩ := zA hx
   subst hop
   cases neg <;> simp [eqGuard, binOp, he]
 | nilPtr =>
  unfold eqH at h
  split at h <;> first | contradiction | skip
  all_goals
   obtain ⟨q1, rfl, _⟩ := yr hy
   obtain ⟨q2, rfl, _⟩ := yr hx
   subst hop
   cases neg <;> simp [eqGuard, binOp, he]
 | nilMap =>
  unfold eqH at h
  split at h <;> first | contradiction | skip
  all_goals
   obtain ⟨q1, rfl, _⟩ := yt hy
   obtain ⟨q2, rfl, _⟩ := yt hx
   subst hop
   cases neg <;> simp [eqGuard, binOp, he]
 | nilFunc =>
  unfold eqH at h
  split at h <;> first | contradiction | skip
  ·rw [zp hx, zp hy] at he ⊢
   subst hop
   cases neg <;> simp [eqGuard, binOp, he]
  ·obtain ⟨F, C, rfl, _, _⟩ := z8 hy
   rw [zp hx] at he ⊢
   subst hop
   cases neg <;> simp [eqGuard, binOp, he]
  ·obtain ⟨F, C, rfl, _, _⟩ := z8 hx
   rw [zp hy] at he ⊢
   subst hop
   cases neg <;> simp [eqGuard, binOp, he]
theorem op_eq {d : ED} {neg : Bool} {op : BinOp} {t t' : TypeId} {x z : Operand} {y w : Lo} (ho : o.op = .binOp op t x z t') (hop : op = if neg then .neq else .eql) (hd : edOf P t = some d) (hx : lowX x = some y) (hz : lowX z = some w) (h : oEq d neg y w a σ = some (v, σ'))
  (hs : Sim P base σ.h.get ρ W) (ha : AR ρ a A) : HF fl σ.nx σ'.nx σ.h.get σ'.h.get ∧ Does P base fl σ σ' ρ W (execOp A.eval o) v := by
 unfold oEq at h
 split at h
 ·rename_i b hb
  cases h
  obtain ⟨g1, g2⟩ := eq_run (W := W) hop (ve hd) hb (zj ha hx) (zj ha hz) x z
  exact ⟨HF.refl _ _ _, zc hs (V := .bool (b != neg)) (by simp [execOp, ho, g1, g2]) (.bool _)⟩
 ·cases h
end Go.Hx

namespace Go.Hx
variable {P : Program} {base fl : Nat} {a : HAct} {σ σ' : HS} {v : HV} {ρ : Rho} {A : Act} {W : World} {o : Oper}
theorem yR {d n : Nat} {em : Bool} (IH : ∀ (t : TypeId) (ks : List Leaf), leaves P d t = some ks → ∀ X : List Value, X.length = ks.length → (Instr.checkKey em n t (mk P t X)).run P W = .ok () W) :
  ∀ (fs : List Field) (off : Nat) (ks : List Leaf), leavesF P (leaves P d) fs off = some ks → ∀ X : List Value, X.length = off + ks.length →
   (forIn fs PUnit.unit (fun (f : Field) (_ : PUnit) => (if f.name ≠ "_" then do
     let y ← part f.type X.toArray f.offset
     Instr.checkKey em n f.type y
     pure (ForInStep.yield PUnit.unit)
    else pure (ForInStep.yield PUnit.unit) : Sem (ForInStep PUnit)))).run P W = .ok PUnit.unit W
 | [], _, _, _, _, _ => by simp
 | f :: fs, off, ks, h, X, hX => by
  unfold leavesF at h
  split at h
  ·rename_i k1 m e1 e2
   cases hc : (f.name != "_" && Nat.beq f.offset off && Nat.beq m k1.length) with
   | false => rw [hc] at h; cases h
   | true =>
    rw [hc] at h
    simp only [cond_true, Option.map_eq_some_iff] at h
    simp only [Bool.and_eq_true, bne_iff_ne, ne_eq, Nat.beq_eq] at hc
    obtain ⟨⟨c1, c2⟩, c3⟩ := hc
    obtain ⟨k2, e3, rfl⟩ := h
    simp only [List.length_append] at hX
    obtain ⟨g, hg, hgn⟩ := yc e1
    have p1 := yv (P := P) (W := W) (off := f.offset) (C := X) hg e2 (fun e => by rw [c3]; exact hgn e) (by omega)
    have hk := IH f.type k1 e1 ((X.drop f.offset).take m) (by simp; omega)
    have hrest := yR IH fs (off + m) k2 e3 X (by omega)
    simp only [List.forIn_cons, c1, ne_eq, not_false_eq_true, if_true, Sem.run_bind, p1, Result.andThen_ok, hk, Sem.run_pure]
    exact hrest
  ·cases h
theorem y9 {d n : Nat} {em : Bool} {e : TypeId} {ks : List Leaf} (IH : ∀ X : List Value, X.length = ks.length → (Instr.checkKey em n e (mk P e X)).run P W = .ok () W) (hk : leaves P d e = some ks) (hz : szOf P e = some ks.length) :
  ∀ (len off : Nat) (X : List Value), X.length = (off + len) * ks.length →
   (forIn (List.range' off len) PUnit.unit (fun (i : Nat) (_ : PUnit) => (do
     let z ← sizeOf e
     let y ← part e X.toArray (i * z)
     Instr.checkKey em n e y
     pure (ForInStep.yield PUnit.unit) : Sem (ForInStep PUnit)))).run P W = .ok PUnit.unit W
 | 0, off, X, hX => by simp
 | len + 1, off, X, hX => by
  obtain ⟨g, hg, hgn⟩ := yc hk
  obtain ⟨i, hi, hi2⟩ := zi hz
  have hX' : X.length = off * ks.length + ks.length + len * ks.length := by rw [hX, show off + (len + 1) = off + 1 + len by omega, Nat.add_mul, Nat.add_mul, Nat.one_mul]
  have p1 := yv (P := P) (W := W) (off := off * ks.length) (C := X) hg hz hgn (by omega)
  have hc := IH ((X.drop (off * ks.length)).take ks.length) (by simp; omega)
  have hrest := y9 IH hk hz len (off + 1) X (by rw [hX]; congr 1; omega)
  simp only [List.range'_succ, List.forIn_cons, Sem.run_bind, zg hi, hi2, p1, Result.andThen_ok, hc, Sem.run_pure]
  simpa only [Sem.run_bind] using hrest
theorem yg (em : Bool) : ∀ (d : Nat) (t : TypeId) (ks : List Leaf), leaves P d t = some ks → ∀ n, d ≤ n → ∀ X : List Value, X.length = ks.length → (Instr.checkKey em n t (mk P t X)).run P W = .ok () W
 | 0, t, ks, h, _, _, _, _ => by simp [leaves] at h
 | d + 1, t, ks, h, n, hn, X, hX => by
  obtain ⟨m, rfl⟩ : ∃ m, n = m + 1 := ⟨n - 1, by omega⟩
  have flat : ∀ V, (P.underlying t = some .bool ∨ (∃ k, P.underlying t = some (.int k)) ∨ P.underlying t = some .string) → (Instr.checkKey em (m + 1) t V).run P W = .ok () W := by
   intro V hu
   rcases hu with hu | ⟨k, hu⟩ | hu <;> simp [Instr.checkKey, za hu]
  have h' := h
  unfold leaves at h
  split at h
  ·rename_i hu; exact flat _ (.inl hu)
  ·rename_i k hu; exact flat _ (.inr (.inl ⟨k, hu⟩))
  ·rename_i hu; exact flat _ (.inr (.inr hu))
  ·rename_i fs hu
   cases hst : P.stoodInHeld t with
   | true => rw [hst] at h; cases h
   | false =>
    rw [hst] at h
    simp only [cond_false] at h
    have hg : aggOf P t = some true := by simp [aggOf, hu]
    have := yR (em := em) (W := W) (fun t ks h X hX => yg em d t ks h m (by omega) X hX) fs.toList 0 ks h X (by omega)
    simp only [mk, hg, Instr.checkKey, Sem.run_bind, za hu, Result.andThen_ok]
    rw [← Array.forIn_toList]
    simp at this ⊢
    rw [this]
    rfl
  ·rename_i len e hu
   obtain ⟨k1, e1, e2, _, rfl⟩ := yE h
   have hg : aggOf P t = some true := by simp [aggOf, hu]
   have := y9 (em := em) (W := W) (yg em d e k1 e1 m (by omega)) e1 e2 len 0 X (by rw [hX, repL_len, Nat.zero_add])
   simp only [mk, hg, Instr.checkKey, Sem.run_bind, za hu, Result.andThen_ok]
   simp only [Std.Legacy.Range.forIn_eq_forIn_range', Std.Legacy.Range.size, Nat.sub_zero, Nat.add_one_sub_one, Nat.div_one]
   simp at this ⊢
   rw [this]
   rfl
  ·cases h
theorem u8 {t : TypeId} {d : ED} (h : keyEd P t = some d) : edOf P t = some d ∧ ((∃ k, d = .cell k) ∨ ∃ ks, d = .row ks) := by
 unfold keyEd at h
 split at h
 ·rename_i k hk; cases h; exact ⟨hk, .inl ⟨k, rfl⟩⟩
 ·rename_i k hk; cases h; exact ⟨hk, .inr ⟨k, rfl⟩⟩
 ·cases h
theorem vR {em : Bool} {d : ED} {t : TypeId} {x : HV} {X : Value} (hd : keyEd P t = some d) (he : keyOk d x = true) (hx : VR ρ x X) : (Instr.checkKey em 10000 t X).run P W = .ok () W := by
 obtain ⟨b, hb⟩ := Option.isSome_iff_exists.1 he
 obtain ⟨h1, h2⟩ := u8 hd
 have hf := ve h1
 rcases h2 with ⟨k, rfl⟩ | ⟨ks, rfl⟩
 ·obtain ⟨td, hu, hl⟩ := hf
  show (Instr.checkKey em (9999 + 1) t X).run P W = .ok () W
  generalize 9999 = n
  cases td <;> cases k <;> simp [leafFits] at hl <;> simp [Instr.checkKey, za hu]
 ·obtain ⟨_, hl, hg⟩ := hf
  cases x <;> simp only [eqH] at hb <;> first | contradiction | skip
  rename_i xs
  obtain ⟨C, rfl, hC⟩ := VR.inv_agg hx
  have hlen := (z5 hb).1
  have := yg (P := P) (W := W) em 20 t ks hl 10000 (by omega) C (by rw [← hC.1]; exact hlen)
  simpa [mk, hg] using this
def Found (ρ : Rho) : Option HV → Option (Nat × Value) → Prop
 | none, none => True
 | some v, some (_, V) => VR ρ v V
 | _, _ => False
theorem y7 {d : ED} {t : TypeId} {k : HV} {K : Value} (hd : EdFits P t d) (hk : VR ρ k K) : ∀ (es : List (HV × HV)) (E : List MapEntry) (i : Nat) (r : Option HV), findH d k es = some r → ER ρ es E →
  ∃ R, (Instr.findAsking t K E i).run P W = .ok R W ∧ Found ρ r R
 | [], E, i, r, h, he => by
  have : E = [] := by have := he.1; simp at this; exact List.length_eq_zero_iff.1 this.symm
  subst this
  cases h
  exact ⟨none, by simp [Instr.findAsking], trivial⟩
 | (x, w) :: es, E, i, r, h, he => by
  cases E with
  | nil => have := he.1; simp at this
  | cons e E =>
   obtain ⟨hx, hw⟩ := he.2 0 _ _ rfl rfl
   have he' : ER ρ es E := ⟨by have := he.1; simpa using this, fun j p q hp hq => he.2 (j + 1) p q (by simpa using hp) (by simpa using hq)⟩
   unfold findH at h
   split at h
   ·rename_i hq
    cases h
    have := z7 (W := W) hd hq hk hx
    exact ⟨some (i, e.val), by simp [Instr.findAsking, this], hw⟩
   ·rename_i hq
    have := z7 (W := W) hd hq hk hx
    obtain ⟨R, h1, h2⟩ := y7 hd hk es E (i + 1) r h he'
    exact ⟨R, by simp [Instr.findAsking, this, h1], h2⟩
   ·cases h
theorem uz {k : Leaf} {td : TypeDesc} {x : HV} {K : Value} (hf : leafFits k td) (hk : VR ρ x K) : ∀ (es : List (HV × HV)) (E : List MapEntry) (i : Nat) (r : Option HV), findH (.cell k) x es = some r → ER ρ es E →
  ∃ R, Instr.findNow td K E i = some R ∧ Found ρ r R
 | [], E, i, r, h, he => by
  have : E = [] := by have := he.1; simp at this; exact List.length_eq_zero_iff.1 this.symm
  subst this
  cases h
  exact ⟨none, rfl, trivial⟩
 | (y, w) :: es, E, i, r, h, he => by
  cases E with
  | nil => have := he.1; simp at this
  | cons e E =>
   obtain ⟨hx, hw⟩ := he.2 0 _ _ rfl rfl
   have he' : ER ρ es E := ⟨by have := he.1; simpa using this, fun j p q hp hq => he.2 (j + 1) p q (by simpa using hp) (by simpa using hq)⟩
   unfold findH at h
   split at h
   ·rename_i hq
    cases h
    have := (z6 (P := default) (W := default) hq hk hx).2.2.2 td hf
    exact ⟨some (i, e.val), by simp [Instr.findNow, this], hw⟩
   ·rename_i hq
    have := (z6 (P := default) (W := default) hq hk hx).2.2.2 td hf
    obtain ⟨R, h1, h2⟩ := uz hf hk es E (i + 1) r h he'
    exact ⟨R, by simp [Instr.findNow, this, h1], h2⟩
   ·cases h
theorem vy {d : ED} {t : TypeId} {k : HV} {K : Value} (hd : keyEd P t = some d) (hk : VR ρ k K) {es : List (HV × HV)} {E : List MapEntry} {r : Option HV} (h : findH d k es = some r) (he : ER ρ es E) :
  ∃ R, (Instr.findKey t K E).run P W = .ok R W ∧ Found ρ r R := by
 obtain ⟨h1, h2⟩ := u8 hd
 have hf := ve h1
 rcases h2 with ⟨k, rfl⟩ | ⟨ks, rfl⟩
 ·obtain ⟨td, hu, hl⟩ := hf
  obtain ⟨R, g1, g2⟩ := uz hl hk es E 0 r h he
  exact ⟨R, by simp [Instr.findKey, za hu, g1], g2⟩
 ·obtain ⟨R, g1, g2⟩ := y7 (W := W) hf hk es E 0 r h he
  obtain ⟨_, hl, hg⟩ := hf
  have hu : (∃ fs, P.underlying t = some (.struct fs)) ∨ ∃ n e, P.underlying t = some (.array n e) := by
   unfold leaves at hl
   split at hl
   ·rename_i hu; simp [aggOf, hu] at hg
   ·rename_i hu; simp [aggOf, hu] at hg
   ·rename_i hu; simp [aggOf, hu] at hg
   ·rename_i fs hu; exact .inl ⟨fs, hu⟩
   ·rename_i n e hu; exact .inr ⟨n, e, hu⟩
   ·cases hl
  rcases hu with ⟨fs, hu⟩ | ⟨n, e', hu⟩
  ·cases E with
   | nil =>
    have : es = [] := by have := he.1; simp at this; exact this
    subst this
    cases h
    exact ⟨none, by simp [Instr.findKey, za hu, Instr.findNow], trivial⟩
   | cons e E => exact ⟨R, by simp [Instr.findKey, za hu, Instr.findNow, Instr.sameNow, g1], g2⟩
  ·cases E with
   | nil =>
    have : es = [] := by have := he.1; simp at this; exact this
    subst this
    cases h
    exact ⟨none, by simp [Instr.findKey, za hu, Instr.findNow], trivial⟩
   | cons e E => exact ⟨R, by simp [Instr.findKey, za hu, Instr.findNow, Instr.sameNow, g1], g2⟩
theorem jC {t kt e : TypeId} {m k : Operand} {m' k' : Lo} {ok : Bool} {d : ED} {z : HV} (ho : o.op = .lookup t m k ok) (hu : P.underlying t = some (.map kt e)) (hd : keyEd P kt = some d) (hz : zeroV P e = some z) (hm : lowX m = some m') (hk : lowX k = some k')
  (h : oLookup d z ok m' k' a σ = some (v, σ')) (hs : Sim P base σ.h.get ρ W) (ha : AR ρ a A) : HF fl σ.nx σ'.nx σ.h.get σ'.h.get ∧ Does P base fl σ σ' ρ W (execOp A.eval o) v := by
 obtain ⟨i, Z, i1, i2, i3⟩ := zC hz ρ
 have h1 := zj ha hm
 have h2 := zj ha hk
 have fin : ∀ (w : HV) (is : Bool) (U : Value), found ok w is σ = some (v, σ') → VR ρ w U → ((execOp A.eval o).run P W = .ok (.value (if ok then .tuple #[U, .bool is] else U)) W) → HF fl σ.nx σ'.nx σ.h.get σ'.h.get ∧ Does P base fl σ σ' ρ W (execOp A.eval o) v := by
  intro w is U hf hw hr
  unfold found at hf
  cases ok with
  | true =>
   cases hf
   refine ⟨HF.refl _ _ _, zc hs hr ?_⟩
   exact VR.tupleL (LR.cons hw (LR.cons (.bool is) (LR.nil ρ)))
  | false =>
   cases hf
   exact ⟨HF.refl _ _ _, zc hs hr hw⟩
 unfold oLookup at h
 cases hc : keyOk d (a.ev k') with
 | false => rw [hc] at h; cases h
 | true =>
  rw [hc] at h
  simp only [cond_true] at h
  have hck : ∀ em, (Instr.checkKey em 10000 kt (A.eval k)).run P W = .ok () W := fun em => vR hd hc h2
  split at h
  ·rename_i e1
   rw [e1] at h1
   have hV := vK h1
   obtain ⟨R, g1, g2⟩ := vy (W := W) hd h2 (es := []) (E := []) (r := none) rfl ⟨rfl, fun j p q hp => by simp at hp⟩
   cases R with
   | some R => exact g2.elim
   | none =>
    refine fin z false Z h i3 ?_
    cases ok <;> simp [execOp, ho, hV, Instr.lookup, za hu, hck, g1, zF i1 i2]
  ·rename_i r e1
   rw [e1] at h1
   obtain ⟨q, hq, hV⟩ := uN h1
   split at h
   ·rename_i es hes
    obtain ⟨q', E, cl, hq', hw, _, her⟩ := hs.ok _ _ hes
    rw [hq] at hq'; cases hq'
    have hobj : (getObj q.blk).run P W = .ok (.map E cl) W := by simp [getObj, Sem.run, hw]
    split at h
    ·rename_i w hf
     obtain ⟨R, g1, g2⟩ := vy (W := W) hd h2 hf her
     cases R with
     | none => exact g2.elim
     | some R =>
      obtain ⟨j, U⟩ := R
      refine fin w true U h g2 ?_
      cases ok <;> simp [execOp, ho, hV, Instr.lookup, za hu, hobj, hck, g1]
    ·rename_i hf
     obtain ⟨R, g1, g2⟩ := vy (W := W) hd h2 hf her
     cases R with
     | some R => exact g2.elim
     | none =>
      refine fin z false Z h i3 ?_
      cases ok <;> simp [execOp, ho, hV, Instr.lookup, za hu, hobj, hck, g1, zF i1 i2]
    ·cases h
   ·cases h
  ·cases h
end Go.Hx

namespace Go.Hx
variable {P : Program} {base fl : Nat} {a : HAct} {σ σ' : HS} {v : HV} {ρ : Rho} {A : Act} {W : World} {o : Oper}
theorem vm {d : ED} {x y : HV} {X Y : Value} (hd : (∃ k, d = .cell k) ∨ ∃ ks, d = .row ks) (h : eqH d x y = some true) (hx : VR ρ x X) (hy : VR ρ y Y) : ∀ n, Instr.sameBits (n + 1) Y X = true := by
 intro n
 rcases hd with ⟨k, rfl⟩ | ⟨ks, rfl⟩
 ·obtain ⟨h1, h2, _⟩ := z6 (P := default) (W := default) h hx hy
  have := h1 rfl
  subst this
  exact h2 (n + 1) rfl
 ·cases x <;> simp only [eqH] at h <;> first | contradiction | skip
  rename_i xs
  cases y <;> simp only [eqH] at h <;> first | contradiction | skip
  rename_i ys
  obtain ⟨C, rfl, hC⟩ := VR.inv_agg hx
  obtain ⟨D, rfl, hD⟩ := VR.inv_agg hy
  obtain ⟨h1, h2⟩ := y8 h hC hD rfl
  subst h1
  simp only [Instr.sameBits, beq_self_eq_true, Bool.true_and]
  exact h2 n
inductive Put (k v : HV) (es es' : List (HV × HV)) (E : List MapEntry) (K : Value) (i : Nat) : Option (Nat × Value) → Prop
 | here (j : Nat) (e : MapEntry) (U : Value) (h1 : E[j]? = some e) (h2 : ∀ n, Instr.sameBits (n + 1) e.key K = true) (h3 : es' = es.set j (k, v)) : Put k v es es' E K i (some (i + j, U))
 | new (h : es' = es ++ [(k, v)]) : Put k v es es' E K i none
theorem Put.cons {k v : HV} {x : HV × HV} {e : MapEntry} {es es' : List (HV × HV)} {E : List MapEntry} {K : Value} {i : Nat} {R : Option (Nat × Value)} (h : Put k v es es' E K (i + 1) R) : Put k v (x :: es) (x :: es') (e :: E) K i R := by
 cases h with
 | here j e' U h1 h2 h3 =>
  have : i + 1 + j = i + (j + 1) := by omega
  rw [this]
  exact .here (j + 1) e' U (by simpa using h1) h2 (by rw [h3]; rfl)
 | new h => exact .new (by rw [h]; rfl)
theorem vj {d : ED} {t : TypeId} {k v : HV} {K : Value} (hd : EdFits P t d) (hc : (∃ k, d = .cell k) ∨ ∃ ks, d = .row ks) (hk : VR ρ k K) : ∀ (es es' : List (HV × HV)) (E : List MapEntry) (i : Nat), updH d k v es = some es' → ER ρ es E →
  ∃ R, (Instr.findAsking t K E i).run P W = .ok R W ∧ Put k v es es' E K i R
 | [], es', E, i, h, he => by
  have : E = [] := by have := he.1; simp at this; exact List.length_eq_zero_iff.1 this.symm
  subst this
  cases h
  exact ⟨none, by simp [Instr.findAsking], .new rfl⟩
 | (x, w) :: es, es', E, i, h, he => by
  cases E with
  | nil => have := he.1; simp at this
  | cons e E =>
   obtain ⟨hx, hw⟩ := he.2 0 _ _ rfl rfl
   have he' : ER ρ es E := ⟨by have := he.1; simpa using this, fun j p q hp hq => he.2 (j + 1) p q (by simpa using hp) (by simpa using hq)⟩
   unfold updH at h
   split at h
   ·rename_i hq
    cases h
    have := z7 (W := W) hd hq hk hx
    exact ⟨some (i, e.val), by simp [Instr.findAsking, this], .here 0 e e.val rfl (vm hc hq hk hx) rfl⟩
   ·rename_i hq
    simp only [Option.map_eq_some_iff] at h
    obtain ⟨es2, h1, rfl⟩ := h
    have := z7 (W := W) hd hq hk hx
    obtain ⟨R, h2, h3⟩ := vj hd hc hk es es2 E (i + 1) h1 he'
    exact ⟨R, by simp [Instr.findAsking, this, h2], h3.cons⟩
   ·cases h
theorem jh {k : Leaf} {td : TypeDesc} {x v : HV} {K : Value} (hf : leafFits k td) (hk : VR ρ x K) : ∀ (es es' : List (HV × HV)) (E : List MapEntry) (i : Nat), updH (.cell k) x v es = some es' → ER ρ es E →
  ∃ R, Instr.findNow td K E i = some R ∧ Put x v es es' E K i R
 | [], es', E, i, h, he => by
  have : E = [] := by have := he.1; simp at this; exact List.length_eq_zero_iff.1 this.symm
  subst this
  cases h
  exact ⟨none, rfl, .new rfl⟩
 | (y, w) :: es, es', E, i, h, he => by
  cases E with
  | nil => have := he.1; simp at this
  | cons e E =>
   obtain ⟨hx, hw⟩ := he.2 0 _ _ rfl rfl
   have he' : ER ρ es E := ⟨by have := he.1; simpa using this, fun j p q hp hq => he.2 (j + 1) p q (by simpa using hp) (by simpa using hq)⟩
   unfold updH at h
   split at h
   ·rename_i hq
    cases h
    have := (z6 (P := default) (W := default) hq hk hx).2.2.2 td hf
    exact ⟨some (i, e.val), by simp [Instr.findNow, this], .here 0 e e.val rfl (vm (.inl ⟨k, rfl⟩) hq hk hx) rfl⟩
   ·rename_i hq
    simp only [Option.map_eq_some_iff] at h
    obtain ⟨es2, h1, rfl⟩ := h
    have := (z6 (P := default) (W := default) hq hk hx).2.2.2 td hf
    obtain ⟨R, h2, h3⟩ := jh hf hk es es2 E (i + 1) h1 he'
    exact ⟨R, by simp [Instr.findNow, this, h2], h3.cons⟩
   ·cases h
theorem upd_key {d : ED} {t : TypeId} {k v : HV} {K : Value} (hd : keyEd P t = some d) (hk : VR ρ k K) {es es' : List (HV × HV)} {E : List MapEntry} (h : updH d k v es = some es') (he : ER ρ es E) :
  ∃ R, (Instr.findKey t K E).run P W = .ok R W ∧ Put k v es es' E K 0 R := by
 obtain ⟨h1, h2⟩ := u8 hd
 have hf := ve h1
 rcases h2 with ⟨k, rfl⟩ | ⟨ks, rfl⟩
 ·obtain ⟨td, hu, hl⟩ := hf
  obtain ⟨R, g1, g2⟩ := jh hl hk es es' E 0 h he
  exact ⟨R, by simp [Instr.findKey, za hu, g1], g2⟩
 ·obtain ⟨R, g1, g2⟩ := vj (W := W) hf (.inr ⟨ks, rfl⟩) hk es es' E 0 h he
  obtain ⟨_, hl, hg⟩ := hf
  have hu : (∃ fs, P.underlying t = some (.struct fs)) ∨ ∃ n e, P.underlying t = some (.array n e) := by
   unfold leaves at hl
   split at hl
   ·rename_i hu; simp [aggOf, hu] at hg
   ·rename_i hu; simp [aggOf, hu] at hg
   ·rename_i hu; simp [aggOf, hu] at hg
   ·rename_i fs hu; exact .inl ⟨fs, hu⟩
   ·rename_i n e hu; exact .inr ⟨n, e, hu⟩
   ·cases hl
  rcases hu with ⟨fs, hu⟩ | ⟨n, e', hu⟩
  ·cases E with
   | nil =>
    have : es = [] := by have := he.1; simp at this; exact this
    subst this
    cases h
    exact ⟨none, by simp [Instr.findKey, za hu, Instr.findNow], .new rfl⟩
   | cons e E => exact ⟨R, by simp [Instr.findKey, za hu, Instr.findNow, Instr.sameNow, g1], g2⟩
  ·cases E with
   | nil =>
    have : es = [] := by have := he.1; simp at this; exact this
    subst this
    cases h
    exact ⟨none, by simp [Instr.findKey, za hu, Instr.findNow], .new rfl⟩
   | cons e E => exact ⟨R, by simp [Instr.findKey, za hu, Instr.findNow, Instr.sameNow, g1], g2⟩
theorem yL {t kt e : TypeId} {m k w : Operand} {m' k' w' : Lo} {d : ED} (ho : o.op = .mapUpdate t m k w ∨ o.op = .insert t m k w) (hu : P.underlying t = some (.map kt e)) (hd : keyEd P kt = some d) (hm : lowX m = some m') (hk : lowX k = some k') (hw : lowX w = some w')
  (h : oMapUpdate fl d m' k' w' a σ = some (v, σ')) (hs : Sim P base σ.h.get ρ W) (ha : AR ρ a A) (hj : ∀ b x, σ.h.get b = some x → b < σ.nx) : HF fl σ.nx σ'.nx σ.h.get σ'.h.get ∧ Does P base fl σ σ' ρ W (execOp A.eval o) v := by
 have h1 := zj ha hm
 have h2 := zj ha hk
 have h3 := zj ha hw
 unfold oMapUpdate at h
 cases hc : keyOk d (a.ev k') with
 | false => rw [hc] at h; cases h
 | true =>
  rw [hc] at h
  simp only [cond_true] at h
  have hck : ∀ em, (Instr.checkKey em 10000 kt (A.eval k)).run P W = .ok () W := fun em => vR hd hc h2
  split at h
  ·rename_i r e1
   rw [e1] at h1
   obtain ⟨q, hq, hV⟩ := uN h1
   split at h
   ·rename_i es hes
    obtain ⟨q', E, cl, hq', hw', hbase, her⟩ := hs.ok _ _ hes
    rw [hq] at hq'; cases hq'
    have hobj : (getObj q.blk).run P W = .ok (.map E cl) W := by simp [getObj, Sem.run, hw']
    cases hfl : Nat.ble fl r with
    | false => rw [hfl] at h; cases h
    | true =>
     rw [hfl] at h
     simp only [cond_true] at h
     have hfl := Nat.le_of_ble_eq_true hfl
     split at h
     ·rename_i es' hupd
      cases h
      obtain ⟨R, g1, g2⟩ := upd_key (W := W) hd h2 hupd her
      have hlt := (Array.getElem?_eq_some_iff.1 hw').1
      have setO : ∀ O : Obj, (setObj q.blk O).run P W = .ok () { W with heap := W.heap.setIfInBounds q.blk O } := fun O => by simp [setObj, Sem.run, hw']
      have run : ∃ E' cl', (execOp A.eval o).run P W = .ok .skip { W with heap := W.heap.setIfInBounds q.blk (.map E' cl') } ∧ ER ρ es' E'.toList := by
       cases g2 with
       | here j en U e1 e2 e3 =>
        refine ⟨E.modify (0 + j) (fun e => { e with key := A.eval k, val := A.eval w }), cl, ?_, ?_⟩
        ·have hen : E[0 + j]? = some en := by rw [Nat.zero_add, ← Array.getElem?_toList]; exact e1
         have hks : (Instr.keyThatStays (((E[0 + j]?).map (·.key)).getD (A.eval k)) (A.eval k)).run P W = .ok (A.eval k) W := by
          rw [hen]
          simp only [Option.map_some, Option.getD_some, Instr.keyThatStays]
          rw [if_pos (e2 9999)]
          rfl
         rcases ho with ho | ho <;> simp only [execOp, ho, hV, Instr.mapUpdate, Sem.run_bind, za hu, Result.andThen_ok, hobj, hck, g1, hks, setO, Sem.run_pure]
        ·subst e3
         refine ⟨by have := her.1; simpa using this, fun i p x hp hx => ?_⟩
         rw [Nat.zero_add, Array.getElem?_toList, Array.getElem?_modify] at hx
         rw [List.getElem?_set] at hp
         by_cases e : j = i
         ·subst e
          rw [if_pos rfl] at hx hp
          split at hp
          ·cases hp
           rw [← Array.getElem?_toList, e1] at hx
           cases hx
           exact ⟨h2, h3⟩
          ·cases hp
         ·rw [if_neg e] at hx hp
          exact her.2 i p x hp (by rw [Array.getElem?_toList]; exact hx)
       | new e3 =>
        refine ⟨E.push { key := A.eval k, val := A.eval w, born := cl }, cl + 1, ?_, ?_⟩
        ·rcases ho with ho | ho <;> simp only [execOp, ho, hV, Instr.mapUpdate, Sem.run_bind, za hu, Result.andThen_ok, hobj, hck, g1, setO, Sem.run_pure]
        ·subst e3
         refine ⟨by have := her.1; simp at this ⊢; exact this, fun i p x hp hx => ?_⟩
         have hl := her.1
         simp only [Array.toList_push] at hx
         by_cases e : i < es.length
         ·rw [List.getElem?_append_left e] at hp
          rw [List.getElem?_append_left (by omega)] at hx
          exact her.2 i p x hp hx
         ·rw [List.getElem?_append_right (by omega)] at hp hx
          rw [hl] at hp
          cases hi : i - E.toList.length with
          | zero => rw [hi] at hp hx; cases hp; cases hx; exact ⟨h2, h3⟩
          | succ n => rw [hi] at hp; cases hp
      obtain ⟨E', cl', hrun, her'⟩ := run
      refine ⟨zU hfl (hj _ _ hes) (HS.get_upd σ _ _), Go.undef, _, ρ, .inr ⟨hrun, rfl⟩, VR.undef ρ, ?_⟩
      refine zP hs hes rfl hfl hq (HS.get_upd σ _ _) rfl rfl rfl (yP hw' rfl) (by simp) (fun n _ hn => ?_) (fun z hz => ?_)
      ·simp only
       rw [Array.getElem?_setIfInBounds_ne (fun e => hn e.symm)]
      ·cases hz
       exact ⟨q, E', cl', hq, by simp [hlt], hbase, her'⟩
     ·cases h
   ·cases h
  ·cases h
end Go.Hx

