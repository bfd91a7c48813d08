import Derived.Test.YtcejjaaoainfjaaH00
import Derived.ChangeKeysEq
import Derived.RangeFuncNested
import Derived.Scope
set_option linter.all false
namespace Go.Hx
variable {P : Program} {base fl : Nat} {a : HAct} {σ σ' : HS} {v : HV} {ρ : Rho} {A : Act} {W : World} {o : Oper}
theorem kA (off : Nat) : ∀ (U : List Value) (k : Nat) (C : Array Value),
  ((U.zipIdx k).foldl (fun cs (p : Value × Nat) => cs.setIfInBounds (off + p.2) p.1) C).size = C.size ∧
  ∀ i, ((U.zipIdx k).foldl (fun cs (p : Value × Nat) => cs.setIfInBounds (off + p.2) p.1) C)[i]? = if off + k ≤ i ∧ i < off + k + U.length ∧ i < C.size then U[i - (off + k)]? else C[i]?
 | [], k, C => ⟨rfl, fun i => by simp only [List.zipIdx_nil, List.foldl_nil]; rw [if_neg (by simp only [List.length_nil]; omega)]⟩
 | u :: U, k, C => by
  simp only [List.zipIdx_cons, List.foldl_cons]
  obtain ⟨h1, h2⟩ := kA off U (k + 1) (C.setIfInBounds (off + k) u)
  refine ⟨by rw [h1]; simp, fun i => ?_⟩
  rw [h2, Array.size_setIfInBounds]
  by_cases e : i = off + k
  ·subst e
   rw [if_neg (by omega)]
   by_cases hlt : off + k < C.size
   ·rw [if_pos (by simp only [List.length_cons]; omega)]
    simp [hlt]
   ·rw [if_neg (by omega)]
    simp [hlt]
  ·rw [Array.getElem?_setIfInBounds_ne (by omega)]
   by_cases hin : off + (k + 1) ≤ i ∧ i < off + (k + 1) + U.length ∧ i < C.size
   ·rw [if_pos hin, if_pos (by simp only [List.length_cons]; omega)]
    have : i - (off + k) = (i - (off + (k + 1))) + 1 := by omega
    rw [this]; simp
   ·rw [if_neg hin, if_neg (by simp only [List.length_cons]; omega)]
theorem kT {cs vs cs' : List HV} {off : Nat} {C : Array Value} {U : List Value} (hc : LR ρ cs C.toList) (hv : LR ρ vs U) (h : overwrite cs off vs = some cs') :
  LR ρ cs' (((U.zipIdx 0).foldl (fun cs (p : Value × Nat) => cs.setIfInBounds (off + p.2) p.1) C)).toList := by
 obtain ⟨l1, l2, l3⟩ := yP h
 obtain ⟨h1, h2⟩ := kA off U 0 C
 have hl := hc.1
 simp only [Array.length_toList] at hl
 refine ⟨by simp only [Array.length_toList]; rw [h1, l1, hl], fun i v u hv' hu => ?_⟩
 rw [Array.getElem?_toList, h2] at hu
 rw [l3] at hv'
 have hlen := hv.1
 by_cases hin : off ≤ i ∧ i < off + vs.length
 ·rw [if_pos hin] at hv'
  have hne : vs ≠ [] := fun e => by subst e; simp at hin; omega
  have := l2 hne
  rw [if_pos (by omega)] at hu
  exact hv.2 _ _ _ hv' (by simpa using hu)
 ·rw [if_neg hin] at hv'
  rw [if_neg (by omega)] at hu
  exact hc.2 _ _ _ hv' (by simpa using hu)
theorem uO (ha : AR ρ a A) {place : Nat → Option (Nat × Nat)} : ∀ {ps : List (Nat × Operand)} {qs : List (Nat × Nat × Lo)} {cells cs : List HV} {C : Array Value}, lowParts place ps = some qs → fillH cells (evParts a qs) = some cs → LR ρ cells C.toList →
  ∃ D : Array Value, Instr.fill place C (ps.map fun (i, x) => (i, A.eval x)) = some D ∧ LR ρ cs D.toList
 | [], qs, cells, cs, C, h1, h2, h3 => by
  cases h1
  cases h2
  exact ⟨C, rfl, h3⟩
 | (i, x) :: ps, qs, cells, cs, C, h1, h2, h3 => by
  unfold lowParts at h1
  split at h1
  ·rename_i off s y ps' e1 e2 e3
   cases h1
   have hv := zX ha e2
   simp only [evParts, List.map_cons, fillH] at h2
   cases hc : (Nat.beq (a.ev y).cells.length s && Nat.ble (off + s) cells.length) with
   | false => rw [hc] at h2; cases h2
   | true =>
    rw [hc] at h2
    simp only [cond_true, Option.bind_eq_some_iff] at h2
    simp only [Bool.and_eq_true, Nat.beq_eq, Nat.ble_eq] at hc
    obtain ⟨ds, hd, hr⟩ := h2
    have hlr := kT h3 hv.cells hd
    obtain ⟨D, hD, hD2⟩ := uO ha e3 hr hlr
    refine ⟨D, ?_, hD2⟩
    have hs : (A.eval x).cells.size = s := by have := hv.cells.1; simp at this; omega
    have hC : C.size = cells.length := by have := h3.1; simpa using this.symm
    have hlt : ¬ off + s > C.size := by omega
    simp only [List.map_cons, Instr.fill, e1]
    rw [if_neg (by simp [hs, hlt]), ← hD]
    congr 1
    rw [← Array.foldl_toList, Array.toList_zipIdx]
  ·cases h1
theorem X3 {fs : List Field} (h : fs.all (fun f => (szOf P f.type).isSome) = true) : (fs.mapM fun (f : Field) => Prod.mk f.offset <$> sizeOf f.type : Sem (List (Nat × Nat))).run P W = .ok (fs.map fun f => (f.offset, P.cellsOf f.type)) W := by
 induction fs with
 | nil => simp
 | cons f fs ih =>
  simp only [List.all_cons, Bool.and_eq_true] at h
  obtain ⟨n, hn⟩ := Option.isSome_iff_exists.1 h.1
  obtain ⟨i, i1, i2⟩ := zV hn
  have hcells : P.cellsOf f.type = i.size := by simp [Program.cellsOf, i1]
  simp only [List.mapM_cons, Sem.run_bind, Sem.run_map, zH i1, Result.andThen_ok, Sem.run_pure, ih h.2, List.map_cons, hcells]
theorem jn {t : TypeId} {parts : Array (Nat × Operand)} {ps : List (Nat × Nat × Lo)} {fs : Array Field} {z : List HV} (ho : o.op = .build t parts) (hu : P.underlying t = some (.struct fs)) (hz : zeroV P t = some (.agg z)) (hall : fs.toList.all (fun f => (szOf P f.type).isSome) = true)
  (hp : lowParts (fun i => (fs[i]?).bind fun f => (szOf P f.type).map (f.offset, ·)) parts.toList = some ps) (h : oBuild z ps a σ = some (v, σ')) (hs : Sim P base σ.h.get ρ W) (ha : AR ρ a A) : HF fl σ.nx σ'.nx σ.h.get σ'.h.get ∧ Does P base fl σ σ' ρ W (execOp A.eval o) v := by
 obtain ⟨i, Z, i1, i2, i3⟩ := yI hz ρ
 unfold oBuild at h
 split at h
 ·rename_i cs hf
  cases h
  obtain ⟨D, hD, hlr⟩ := uO ha hp hf i3.cells
  refine ⟨HF.refl _ _ _, zt hs (V := .agg D) ?_ (by simpa using VR.aggL hlr)⟩
  have hpl : (fs.mapM fun (f : Field) => Prod.mk f.offset <$> sizeOf f.type : Sem (Array (Nat × Nat))).run P W = .ok (fs.map fun (f : Field) => (f.offset, P.cellsOf f.type)) W := by
   rw [Array.mapM_eq_mapM_toList]
   simp only [Sem.run_map, X3 hall, Result.andThen_ok]
   congr 1
   apply Array.ext'
   simp
  have hplace : (fun (i : Nat) => (fs[i]?).bind fun (f : Field) => (szOf P f.type).map (f.offset, ·)) = fun (i : Nat) => (fs.map fun (f : Field) => (f.offset, P.cellsOf f.type))[i]? := by
   funext j
   rw [Array.getElem?_map]
   cases hj : fs[j]? with
   | none => rfl
   | some f =>
    have hmem : f ∈ fs.toList := by rw [← Array.getElem?_toList] at hj; exact List.mem_of_getElem? hj
    obtain ⟨n, hn⟩ := Option.isSome_iff_exists.1 (List.all_eq_true.1 hall f hmem)
    obtain ⟨i, i1, i2⟩ := zV hn
    simp [hn, Program.cellsOf, i1, i2]
  rw [hplace] at hD
  have hD' : Instr.fill (fun x => (fs.map fun (f : Field) => (f.offset, P.cellsOf f.type))[x]?) Z.cells (List.map (fun x => (x.fst, A.eval x.snd)) parts.toList) = some D := hD
  simp only [Array.getElem?_map] at hD'
  simp [execOp, ho, Instr.build, yN i1 i2, zm hu, hpl, hD']
 ·cases h
theorem jQ {t e : TypeId} {n s : Nat} {parts : Array (Nat × Operand)} {ps : List (Nat × Nat × Lo)} {z : List HV} (ho : o.op = .build t parts) (hu : P.underlying t = some (.array n e)) (hz : zeroV P t = some (.agg z)) (hsz : szOf P e = some s)
  (hp : lowParts (fun i => some (i * s, s)) parts.toList = some ps) (h : oBuild z ps a σ = some (v, σ')) (hs : Sim P base σ.h.get ρ W) (ha : AR ρ a A) : HF fl σ.nx σ'.nx σ.h.get σ'.h.get ∧ Does P base fl σ σ' ρ W (execOp A.eval o) v := by
 obtain ⟨i, Z, i1, i2, i3⟩ := yI hz ρ
 obtain ⟨j, j1, j2⟩ := zV hsz
 unfold oBuild at h
 split at h
 ·rename_i cs hf
  cases h
  obtain ⟨D, hD, hlr⟩ := uO ha hp hf i3.cells
  refine ⟨HF.refl _ _ _, zt hs (V := .agg D) ?_ (by simpa using VR.aggL hlr)⟩
  have hD' : Instr.fill (fun i => some (i * s, s)) Z.cells (List.map (fun x => (x.fst, A.eval x.snd)) parts.toList) = some D := hD
  simp [execOp, ho, Instr.build, yN i1 i2, zm hu, zH j1, j2, hD']
 ·cases h
theorem kd {t e : TypeId} {len s : Nat} {z : HV} {parts : Array (Nat × Operand)} {ps : List (Nat × Nat × Lo)} (ho : o.op = .buildSlice t len parts) (hu : P.underlying t = some (.slice e)) (hsz : szOf P e = some s) (hz : zeroV P e = some z) (hle : len * s ≤ 100000) (hzl : z.cells.length = s)
  (hp : lowParts (fun i => some (i * s, s)) parts.toList = some ps) (h : oBuildSlice len z.cells ps a σ = some (v, σ')) (hs : Sim P base σ.h.get ρ W) (ha : AR ρ a A) (hb : base ≤ W.heap.size) (hn : ∀ b, σ.nx ≤ b → b < σ'.nx → ρ b = none) : HF fl σ.nx σ'.nx σ.h.get σ'.h.get ∧ Does P base fl σ σ' ρ W (execOp A.eval o) v := by
 obtain ⟨i, Z, i1, i2, i3⟩ := yI hz ρ
 have is : i.size = s := by simpa [szOf, i1] using hsz
 unfold oBuildSlice at h
 split at h
 ·rename_i cs hf
  cases h
  have hn0 := hn σ.nx (Nat.le_refl _) (by simp [HS.new])
  have hrow : LR ρ (repl len z.cells) ((Array.range (len * s)).map (Z.cells[· % Z.cells.size]!)).toList := kS i3.cells hzl
  have hlim : ¬ 16777216 < len * s := by omega
  by_cases h0 : len * s = 0
  ·rw [h0, vi] at hrow
   obtain ⟨D, hD, hlr⟩ := uO ha hp hf hrow
   refine ⟨y8 (HS.get_new σ _), _, _, _, .inl ?_, (jy ρ σ.nx W.heap.size len len).2, vQ (e := e) hs hb hn0 hlr⟩
   have hD' : Instr.fill (fun i => some (i * s, s)) #[] (List.map (fun x => (x.fst, A.eval x.snd)) parts.toList) = some D := hD
   simp [execOp, ho, Instr.buildSlice, zm hu, zH i1, is, h0, newRow]
   rw [vi]
   simp [hD']
  ·obtain ⟨D, hD, hlr⟩ := uO ha hp hf hrow
   refine ⟨y8 (HS.get_new σ _), _, _, _, .inl ?_, (jy ρ σ.nx W.heap.size len len).2, vQ (e := e) hs hb hn0 hlr⟩
   have hD' : Instr.fill (fun i => some (i * s, s)) ((Array.range (len * s)).map (Z.cells[· % Z.cells.size]!)) (List.map (fun x => (x.fst, A.eval x.snd)) parts.toList) = some D := hD
   simp [execOp, ho, Instr.buildSlice, zm hu, zH i1, is, hlim, h0, yN i1 i2, hD', newRow]
 ·cases h
end Go.Hx

namespace Go.Hx
variable {P : Program} {base fl : Nat} {a : HAct} {σ σ' : HS} {v : HV} {ρ : Rho} {A : Act} {W : World} {o : Oper}
def leafFits : Leaf → TypeDesc → Prop
 | .b, .bool => True
 | .i k, .int k' => k' = k
 | .s, .string => True
 | _, _ => False
theorem bytes_eq {a b : ByteArray} (h : (a == b) = true) : a = b := by
 obtain ⟨x⟩ := a
 obtain ⟨y⟩ := b
 have h' : (x == y) = true := h
 rw [eq_of_beq h']
theorem vp {k : Leaf} {x y : HV} {X Y : Value} {b : Bool} (h : eqLeaf k x y = some b) (hx : VR ρ x X) (hy : VR ρ y Y) :
  (b = true → X = Y) ∧ (∀ n, b = true → Instr.sameBits n X Y = true) ∧ (∀ d t td, P.underlying t = some td → leafFits k td → (Op.equalIn (d + 1) t X Y).run P W = .ok b W) ∧ (∀ td, leafFits k td → Instr.sameNow td X Y = some b) := by
 unfold eqLeaf at h
 split at h
 ·cases h
  rw [uz hx, uz hy]
  refine ⟨fun e => by simpa using e, fun n e => ?_, fun d t td hu hf => ?_, fun td hf => ?_⟩
  ·cases n <;> simpa [Instr.sameBits] using e
  ·cases td <;> simp [leafFits] at hf
   simp [Op.equalIn, zm hu]
  ·cases td <;> simp [leafFits] at hf
   rfl
 ·split at h
  ·rename_i hk
   obtain ⟨rfl, rfl⟩ := hk
   cases h
   rw [ve hx, ve hy]
   refine ⟨fun e => by simpa using e, fun n e => ?_, fun d t td hu hf => ?_, fun td hf => ?_⟩
   ·cases n <;> simpa [Instr.sameBits] using e
   ·cases td <;> simp [leafFits] at hf
    simp [Op.equalIn, zm hu]
   ·cases td <;> simp [leafFits] at hf
    simp [Instr.sameNow]
  ·cases h
 ·cases h
  rw [jx hx, jx hy]
  refine ⟨fun e => by rw [bytes_eq e], fun n e => ?_, fun d t td hu hf => ?_, fun td hf => ?_⟩
  ·cases n <;> simpa [Instr.sameBits] using e
  ·cases td <;> simp [leafFits] at hf
   simp [Op.equalIn, zm hu]
  ·cases td <;> simp [leafFits] at hf
   rfl
 ·cases h
theorem vj : ∀ {ks : List Leaf} {xs ys : List HV} {b : Bool}, eqRow ks xs ys = some b → xs.length = ks.length ∧ ys.length = ks.length
 | [], [], [], b, h => ⟨rfl, rfl⟩
 | k :: ks, x :: xs, y :: ys, b, h => by
  unfold eqRow at h
  split at h
  ·rename_i e1 e2
   have := vj e2
   simp [this.1, this.2]
  ·cases h
 | [], [], _ :: _, b, h => by simp [eqRow] at h
 | [], _ :: _, _, b, h => by simp [eqRow] at h
 | _ :: _, [], _, b, h => by simp [eqRow] at h
 | _ :: _, _ :: _, [], b, h => by simp [eqRow] at h
theorem vJ : ∀ {k1 k2 : List Leaf} {xs ys : List HV} {b : Bool}, eqRow (k1 ++ k2) xs ys = some b →
  ∃ b1 b2, eqRow k1 (xs.take k1.length) (ys.take k1.length) = some b1 ∧ eqRow k2 (xs.drop k1.length) (ys.drop k1.length) = some b2 ∧ b = (b1 && b2)
 | [], k2, xs, ys, b, h => ⟨true, b, by simp [eqRow], by simpa using h, by simp⟩
 | k :: k1, k2, xs, ys, b, h => by
  cases xs with
  | nil => simp [eqRow] at h
  | cons x xs =>
   cases ys with
   | nil => simp [eqRow] at h
   | cons y ys =>
    simp only [List.cons_append, eqRow] at h
    split at h
    ·rename_i a1 a2 e1 e2
     cases h
     obtain ⟨b1, b2, f1, f2, f3⟩ := vJ e2
     refine ⟨a1 && b1, b2, ?_, by simpa using f2, by rw [f3, Bool.and_assoc]⟩
     simp [eqRow, e1, f1]
    ·cases h
theorem jk : ∀ {ks : List Leaf} {xs ys : List HV} {X Y : List Value} {b : Bool}, eqRow ks xs ys = some b → LR ρ xs X → LR ρ ys Y → b = true → X = Y ∧ ∀ n, (X.zip Y).all (fun (p : Value × Value) => Instr.sameBits n p.1 p.2) = true
 | [], [], [], X, Y, b, h, hx, hy, _ => by
  rw [LR.inv_nil hx, LR.inv_nil hy]
  exact ⟨rfl, fun n => rfl⟩
 | k :: ks, x :: xs, y :: ys, X, Y, b, h, hx, hy, hb => by
  unfold eqRow at h
  split at h
  ·rename_i a1 a2 e1 e2
   cases h
   simp only [Bool.and_eq_true] at hb
   obtain ⟨u, X', rfl, hu, hx'⟩ := LR.inv hx
   obtain ⟨w, Y', rfl, hw, hy'⟩ := LR.inv hy
   obtain ⟨g1, g2⟩ := jk e2 hx' hy' hb.2
   obtain ⟨f1, f2, _⟩ := vp (P := default) (W := default) e1 hu hw
   refine ⟨by rw [f1 hb.1, g1], fun n => ?_⟩
   simp only [List.zip_cons_cons, List.all_cons, Bool.and_eq_true]
   exact ⟨f2 n hb.1, g2 n⟩
  ·cases h
 | [], [], _ :: _, X, Y, b, h, _, _, _ => by simp [eqRow] at h
 | [], _ :: _, _, X, Y, b, h, _, _, _ => by simp [eqRow] at h
 | _ :: _, [], _, X, Y, b, h, _, _, _ => by simp [eqRow] at h
 | _ :: _, _ :: _, [], X, Y, b, h, _, _, _ => by simp [eqRow] at h
theorem LR.take {ρ : Rho} {cs : List HV} {C : List Value} (h : LR ρ cs C) (n : Nat) : LR ρ (cs.take n) (C.take n) := by
 refine ⟨by simp [h.1], fun i v u hv hu => ?_⟩
 rw [List.getElem?_take] at hv hu
 split at hv
 ·rw [if_pos (by assumption)] at hu; exact h.2 i v u hv hu
 ·cases hv
theorem LR.drop {ρ : Rho} {cs : List HV} {C : List Value} (h : LR ρ cs C) (n : Nat) : LR ρ (cs.drop n) (C.drop n) := by
 refine ⟨by simp [h.1], fun i v u hv hu => ?_⟩
 rw [List.getElem?_drop] at hv hu
 exact h.2 _ v u hv hu
def mk (P : Program) (t : TypeId) (X : List Value) : Value :=
 match aggOf P t with
 | some true => .agg X.toArray
 | _ => X.getD 0 Go.undef
theorem ue {t : TypeId} {n off : Nat} {C : List Value} {g : Bool} (hg : aggOf P t = some g) (hz : szOf P t = some n) (hn : g = false → n = 1) (hl : off + n ≤ C.length) :
  (part t C.toArray off).run P W = .ok (mk P t ((C.drop off).take n)) W := by
 obtain ⟨i, hi, hi2⟩ := zV hz
 cases g with
 | true =>
  simp only [part, Sem.run_bind, va hg, Result.andThen_ok, if_true, zH hi, hi2, Sem.run_pure, mk, hg]
  congr 2
  apply Array.ext'
  simp
 | false =>
  have := hn rfl
  subst this
  have hlt : off < C.length := by omega
  have e : ((C.drop off).take 1).getD 0 Go.undef = C[off] := by
   simp [List.getD, hlt]
  simp [part, va hg, mk, hg, hlt]
theorem vF {d : Nat} {t : TypeId} {ks : List Leaf} (h : leaves P d t = some ks) : ∃ g, aggOf P t = some g ∧ (g = false → ks.length = 1) := by
 cases d with
 | zero => simp [leaves] at h
 | succ d =>
  unfold leaves at h
  split at h
  ·rename_i hu; cases h; exact ⟨false, by simp [aggOf, hu], fun _ => rfl⟩
  ·rename_i hu; cases h; exact ⟨false, by simp [aggOf, hu], fun _ => rfl⟩
  ·rename_i hu; cases h; exact ⟨false, by simp [aggOf, hu], fun _ => rfl⟩
  ·rename_i hu; exact ⟨true, by simp [aggOf, hu], fun h => by cases h⟩
  ·rename_i hu; exact ⟨true, by simp [aggOf, hu], fun h => by cases h⟩
  ·cases h
theorem vE {d : Nat} {e : TypeId} {n : Nat} {ks : List Leaf} (h : (match leaves P d e, szOf P e with
   | some ks, some s => bif Nat.beq s ks.length && Nat.ble 1 s then some (repL n ks) else none
   | _, _ => none) = some ks) : ∃ k1, leaves P d e = some k1 ∧ szOf P e = some k1.length ∧ 1 ≤ k1.length ∧ ks = repL n k1 := by
 split at h
 ·rename_i k1 s e1 e2
  cases hc : (Nat.beq s k1.length && Nat.ble 1 s) with
  | false => rw [hc] at h; cases h
  | true =>
   rw [hc] at h
   simp only [Bool.and_eq_true] at hc
   have h1 := Nat.eq_of_beq_eq_true hc.1
   have h2 := Nat.le_of_ble_eq_true hc.2
   subst h1
   cases h
   exact ⟨k1, e1, e2, h2, rfl⟩
 ·cases h
theorem Xh (n : Nat) (ks : List Leaf) : (repL n ks).length = n * ks.length := by
 induction n with
 | zero => simp [repL]
 | succ n ih => simp [repL, ih, Nat.add_mul]; omega
theorem XC {d m s : Nat} {e : TypeId} {ks : List Leaf} (IH : ∀ (xs ys : List HV) (X Y : List Value) (b : Bool), eqRow ks xs ys = some b → LR ρ xs X → LR ρ ys Y → (Op.equalIn (d + m) e (mk P e X) (mk P e Y)).run P W = .ok b W) (hk : leaves P d e = some ks) (hz : szOf P e = some ks.length) (hs : s = ks.length) (hp : 1 ≤ ks.length) :
  ∀ (n off : Nat) (xs ys : List HV) (X Y : List Value) (b : Bool), eqRow (repL n ks) (xs.drop (off * s)) (ys.drop (off * s)) = some b → LR ρ xs X → LR ρ ys Y →
   (Op.eqItems (d + m) e s X.toArray Y.toArray (List.range' off n)).run P W = .ok b W
 | 0, off, xs, ys, X, Y, b, he, hx, hy => by
  have : b = true := by
   unfold repL at he
   cases h1 : xs.drop (off * s) <;> cases h2 : ys.drop (off * s) <;> simp [h1, h2, eqRow] at he
   exact he
  subst this
  simp [Op.eqItems]
 | n + 1, off, xs, ys, X, Y, b, he, hx, hy => by
  obtain ⟨g, hg, hgn⟩ := vF hk
  unfold repL at he
  obtain ⟨b1, b2, g1, g2, rfl⟩ := vJ he
  obtain ⟨l1, l2⟩ := vj he
  simp only [List.length_drop, List.length_append] at l1 l2
  have hxl := hx.1
  have hyl := hy.1
  have p1 := ue (P := P) (W := W) (off := off * s) (C := X) hg hz hgn (by omega)
  have p2 := ue (P := P) (W := W) (off := off * s) (C := Y) hg hz hgn (by omega)
  have hrun := IH _ _ _ _ b1 g1 ((hx.drop (off * s)).take ks.length) ((hy.drop (off * s)).take ks.length)
  have hrest := XC IH hk hz hs hp n (off + 1) xs ys X Y b2 (by rw [Nat.add_mul, Nat.one_mul, ← List.drop_drop, ← List.drop_drop, hs]; rw [hs] at g2; exact g2) hx hy
  simp only [List.range'_succ, Op.eqItems, Sem.run_bind, p1, p2, Result.andThen_ok, hrun]
  cases b1
  ·simp
  ·simpa using hrest
theorem jc {d m : Nat} (IH : ∀ (t : TypeId) (ks : List Leaf), leaves P d t = some ks → ∀ (xs ys : List HV) (X Y : List Value) (b : Bool), eqRow ks xs ys = some b → LR ρ xs X → LR ρ ys Y → (Op.equalIn (d + m) t (mk P t X) (mk P t Y)).run P W = .ok b W) :
  ∀ (fs : List Field) (off : Nat) (ks : List Leaf), leavesF P (leaves P d) fs off = some ks → ∀ (xs ys : List HV) (X Y : List Value) (b : Bool), eqRow ks (xs.drop off) (ys.drop off) = some b → LR ρ xs X → LR ρ ys Y →
   (Op.eqFields (d + m) X.toArray Y.toArray fs).run P W = .ok b W
 | [], off, ks, h, xs, ys, X, Y, b, he, hx, hy => by
  cases h
  have : b = true := by
   cases h1 : xs.drop off <;> cases h2 : ys.drop off <;> simp [h1, h2, eqRow] at he
   exact he
  subst this
  simp [Op.eqFields]
 | f :: fs, off, ks, h, xs, ys, X, Y, b, he, hx, hy => by
  unfold leavesF at h
  split at h
  ·rename_i k1 n e1 e2
   cases hc : (f.name != "_" && Nat.beq f.offset off && Nat.beq n k1.length) with
   | false => rw [hc] at h; cases h
   | true =>
    rw [hc] at h
    simp only [cond_true, Option.map_eq_some_iff] at h
    simp only [Bool.and_eq_true, bne_iff_ne, ne_eq, Nat.beq_eq] at hc
    obtain ⟨⟨c1, c2⟩, c3⟩ := hc
    obtain ⟨k2, e3, rfl⟩ := h
    obtain ⟨b1, b2, g1, g2, rfl⟩ := vJ he
    obtain ⟨l1, l2⟩ := vj he
    simp only [List.length_drop, List.length_append] at l1 l2
    obtain ⟨g, hg, hgn⟩ := vF e1
    have hxl := hx.1
    have hyl := hy.1
    by_cases h0 : n = 0
    ·have hk : k1.length = 0 := by omega
     have hgt : g = true := by
      cases g
      ·have := hgn rfl; omega
      ·rfl
     subst hgt
     obtain ⟨i, hi, hi2⟩ := zV e2
     have pX : ∀ C : List Value, (part f.type C.toArray f.offset).run P W = .ok (mk P f.type []) W := fun C => by
      simp only [part, Sem.run_bind, va hg, Result.andThen_ok, if_true, zH hi, hi2, h0, Sem.run_pure, mk, hg]
      congr 2
      apply Array.ext'
      simp
     have hrun := IH f.type k1 e1 [] [] [] [] b1 (by rw [hk] at g1; simpa using g1) (LR.nil ρ) (LR.nil ρ)
     have hrest := jc IH fs (off + n) k2 e3 xs ys X Y b2 (by rw [h0]; rw [hk] at g2; simpa using g2) hx hy
     simp only [Op.eqFields, c1, ne_eq, not_false_eq_true, if_true, Sem.run_bind, pX, Result.andThen_ok, hrun]
     cases b1
     ·simp
     ·simpa using hrest
    ·have p1 := ue (P := P) (W := W) (off := f.offset) (C := X) hg e2 (fun e => by rw [c3]; exact hgn e) (by omega)
     have p2 := ue (P := P) (W := W) (off := f.offset) (C := Y) hg e2 (fun e => by rw [c3]; exact hgn e) (by omega)
     have hrun := IH f.type k1 e1 _ _ _ _ b1 g1 ((hx.drop off).take k1.length) ((hy.drop off).take k1.length)
     have hrest := jc IH fs (off + n) k2 e3 xs ys X Y b2 (by rw [c3, ← List.drop_drop, ← List.drop_drop]; exact g2) hx hy
     rw [← c3] at hrun
     rw [c2] at p1 p2
     simp only [Op.eqFields, c1, ne_eq, not_false_eq_true, if_true, Sem.run_bind, c2, p1, p2, Result.andThen_ok, hrun]
     cases b1
     ·simp
     ·simpa using hrest
  ·cases h
theorem jb (m : Nat) : ∀ (d : Nat) (t : TypeId) (ks : List Leaf), leaves P d t = some ks → ∀ (xs ys : List HV) (X Y : List Value) (b : Bool), eqRow ks xs ys = some b → LR ρ xs X → LR ρ ys Y → (Op.equalIn (d + m) t (mk P t X) (mk P t Y)).run P W = .ok b W
 | 0, t, ks, h, _, _, _, _, _, _, _, _ => by simp [leaves] at h
 | d + 1, t, ks, h, xs, ys, X, Y, b, he, hx, hy => by
  have one : ∀ (k : Leaf) (td : TypeDesc), P.underlying t = some td → leafFits k td → aggOf P t = some false → ks = [k] → (Op.equalIn (d + 1 + m) t (mk P t X) (mk P t Y)).run P W = .ok b W := by
   intro k td hu hf hg hk
   subst hk
   obtain ⟨l1, l2⟩ := vj he
   cases xs with
   | nil => simp at l1
   | cons x xs =>
    cases ys with
    | nil => simp at l2
    | cons y ys =>
     have h1 : xs = [] := by simpa using l1
     have h2 : ys = [] := by simpa using l2
     subst h1; subst h2
     obtain ⟨u, X', rfl, hu', hX'⟩ := LR.inv hx
     obtain ⟨w, Y', rfl, hw', hY'⟩ := LR.inv hy
     have hb : eqLeaf k x y = some b := by
      simp only [eqRow] at he
      split at he
      ·rename_i a1 a2 e1 e2
       cases e2
       simp at he
       subst he
       exact e1
      ·cases he
     have := (vp (P := P) (W := W) hb hu' hw').2.2.1 (d + m) t td hu hf
     have e : d + 1 + m = d + m + 1 := by omega
     rw [e]
     simpa [mk, hg] using this
  unfold leaves at h
  split at h
  ·rename_i hu; cases h; exact one .b _ hu trivial (by simp [aggOf, hu]) rfl
  ·rename_i k hu; cases h; exact one (.i k) _ hu rfl (by simp [aggOf, hu]) rfl
  ·rename_i hu; cases h; exact one .s _ hu trivial (by simp [aggOf, hu]) rfl
  ·rename_i fs hu
   cases hst : P.stoodInHeld t with
   | true => rw [hst] at h; cases h
   | false =>
    rw [hst] at h
    simp only [cond_false] at h
    have hfo : P.fieldsOf t = fs := by simp [Program.fieldsOf, hu]
    have hg : aggOf P t = some true := by simp [aggOf, hu]
    have e : d + 1 + m = d + m + 1 := by omega
    rw [e]
    simp only [mk, hg]
    rw [run_equalIn_struct W (d + m) t X.toArray Y.toArray (by rw [hfo]; exact hu) hst, hfo]
    exact jc (jb m d) fs.toList 0 ks h xs ys X Y b (by simpa using he) hx hy
  ·rename_i n e hu
   obtain ⟨k1, e1, e2, e3, rfl⟩ := vE h
   obtain ⟨i, hi, hi2⟩ := zV e2
   have hg : aggOf P t = some true := by simp [aggOf, hu]
   have hc : P.cellsOf e = k1.length := by simp [Program.cellsOf, hi, hi2]
   have ee : d + 1 + m = d + m + 1 := by omega
   rw [ee]
   simp only [mk, hg]
   rw [run_equalIn_array W (d + m) X.toArray Y.toArray hu hi, hc, List.range_eq_range']
   exact XC (jb m d e k1 e1) e1 e2 rfl e3 n 0 xs ys X Y b (by simpa using he) hx hy
  ·cases h
end Go.Hx

namespace Go.Hx
variable {P : Program} {base fl : Nat} {a : HAct} {σ σ' : HS} {v : HV} {ρ : Rho} {A : Act} {W : World} {o : Oper}
theorem uM {d n : Nat} (IH : ∀ (t : TypeId) (ks : List Leaf), leaves P d t = some ks → P.eqGuardType n t = false) : ∀ (fs : List Field) (off : Nat) (ks : List Leaf), leavesF P (leaves P d) fs off = some ks →
  (fs.any fun f => f.name != "_" && P.eqGuardType n f.type) = false
 | [], _, _, _ => rfl
 | f :: fs, off, ks, h => by
  unfold leavesF at h
  split at h
  ·rename_i k1 m e1 e2
   cases hc : (f.name != "_" && Nat.beq f.offset off && Nat.beq m k1.length) with
   | false => rw [hc] at h; cases h
   | true =>
    rw [hc] at h
    simp only [cond_true, Option.map_eq_some_iff] at h
    obtain ⟨k2, e3, _⟩ := h
    simp [IH _ _ e1]
    have := uM IH fs _ _ e3
    simpa using this
  ·cases h
theorem vH : ∀ (d : Nat) (t : TypeId) (ks : List Leaf), leaves P d t = some ks → ∀ n, d ≤ n → P.eqGuardType n t = false
 | 0, t, ks, h, _, _ => by simp [leaves] at h
 | d + 1, t, ks, h, n, hn => by
  obtain ⟨m, rfl⟩ : ∃ m, n = m + 1 := ⟨n - 1, by omega⟩
  unfold leaves at h
  split at h
  ·rename_i hu; simp [Program.eqGuardType, hu]
  ·rename_i hu; simp [Program.eqGuardType, hu]
  ·rename_i hu; simp [Program.eqGuardType, hu]
  ·rename_i fs hu
   cases hst : P.stoodInHeld t with
   | true => rw [hst] at h; cases h
   | false =>
    rw [hst] at h
    simp only [cond_false] at h
    have := uM (fun t ks h => vH d t ks h m (by omega)) fs.toList 0 ks h
    simp only [Program.eqGuardType, hu]
    rw [← Array.any_toList]
    exact this
  ·rename_i e hu
   obtain ⟨k1, e1, _⟩ := vE h
   simp only [Program.eqGuardType, hu]
   exact vH d e k1 e1 m (by omega)
  ·cases h
def EdFits (P : Program) (t : TypeId) : ED → Prop
 | .cell k => ∃ td, P.underlying t = some td ∧ leafFits k td
 | .row ks => 20 ≤ P.depth ∧ leaves P 20 t = some ks ∧ aggOf P t = some true
 | .nilSlice => ∃ e, P.underlying t = some (.slice e)
 | .nilPtr => ∃ e, P.underlying t = some (.pointer e)
 | .nilMap => ∃ k e, P.underlying t = some (.map k e)
 | .nilFunc => ∃ p r q, P.underlying t = some (.func p r q)
theorem ju {t : TypeId} {d : ED} (h : edOf P t = some d) : EdFits P t d := by
 unfold edOf at h
 split at h
 ·rename_i hu; cases h; exact ⟨_, hu⟩
 ·rename_i hu; cases h; exact ⟨_, hu⟩
 ·rename_i hu; cases h; exact ⟨_, _, hu⟩
 ·rename_i hu; cases h; exact ⟨_, _, _, hu⟩
 ·rename_i hu; cases h; exact ⟨_, hu, trivial⟩
 ·rename_i hu; cases h; exact ⟨_, hu, rfl⟩
 ·rename_i hu; cases h; exact ⟨_, hu, trivial⟩
 ·rename_i hu
  cases hc : Nat.ble 20 P.depth with
  | false => rw [hc] at h; cases h
  | true =>
   rw [hc] at h
   simp only [cond_true, Option.map_eq_some_iff] at h
   obtain ⟨ks, h1, rfl⟩ := h
   exact ⟨Nat.le_of_ble_eq_true hc, h1, by simp [aggOf, hu]⟩
 ·rename_i hu
  cases hc : Nat.ble 20 P.depth with
  | false => rw [hc] at h; cases h
  | true =>
   rw [hc] at h
   simp only [cond_true, Option.map_eq_some_iff] at h
   obtain ⟨ks, h1, rfl⟩ := h
   exact ⟨Nat.le_of_ble_eq_true hc, h1, by simp [aggOf, hu]⟩
 ·cases h
theorem vZ {ρ : Rho} {p : Option (Nat × Nat)} {V : Value} (h : VR ρ (.ptr p) V) : ∃ q, V = .pointer q ∧ p.isNone = q.isNone := by
 cases h
 ·exact ⟨_, rfl, rfl⟩
 ·exact ⟨_, rfl, rfl⟩
theorem v6 {ρ : Rho} {p : Option Nat} {V : Value} (h : VR ρ (.map p) V) : ∃ q, V = .map q ∧ p.isNone = q.isNone := by
 cases h
 ·exact ⟨_, rfl, rfl⟩
 ·exact ⟨_, rfl, rfl⟩
theorem yu {ρ : Rho} {V : Value} (h : VR ρ .nilFunc V) : V = .nilFunc := by cases h; rfl
theorem Yn (m : Nat) {d : ED} {t : TypeId} {x y : HV} {X Y : Value} {b : Bool} (hd : EdFits P t d) (h : eqH d x y = some b) (hx : VR ρ x X) (hy : VR ρ y Y) : (Op.equalIn (20 + m) t X Y).run P W = .ok b W := by
 have e : 20 + m = (19 + m) + 1 := by omega
 cases d with
 | cell k =>
  obtain ⟨td, hu, hf⟩ := hd
  rw [e]
  exact (vp (P := P) (W := W) h hx hy).2.2.1 _ t td hu hf
 | row ks =>
  obtain ⟨_, hl, hg⟩ := hd
  unfold eqH at h
  split at h <;> first | contradiction | skip
  rename_i xs ys heq
  cases heq
  obtain ⟨C, rfl, hC⟩ := VR.inv_agg hx
  obtain ⟨D, rfl, hD⟩ := VR.inv_agg hy
  have := jb (P := P) (W := W) (ρ := ρ) m 20 t ks hl xs ys C D b h hC hD
  simpa [mk, hg] using this
 | nilSlice =>
  obtain ⟨e', hu⟩ := hd
  rw [e]
  unfold eqH at h
  split at h <;> first | contradiction | skip
  obtain ⟨q1, d1, rfl, h1⟩ := yG hx
  obtain ⟨q2, d2, rfl, h2⟩ := yG hy
  rw [h1, h2] at h
  cases q1 with
  | none => cases h; cases hx; simp [Op.equalIn, zm hu]
  | some q1 =>
   cases q2 with
   | none => cases h; cases hy; simp [Op.equalIn, zm hu]
   | some q2 => cases h
 | nilPtr =>
  obtain ⟨e', hu⟩ := hd
  rw [e]
  unfold eqH at h
  split at h <;> first | contradiction | skip
  obtain ⟨q1, rfl, h1⟩ := vZ hx
  obtain ⟨q2, rfl, h2⟩ := vZ hy
  rw [h1, h2] at h
  cases q1 with
  | none => cases h; simp [Op.equalIn, zm hu]
  | some q1 =>
   cases q2 with
   | none => cases h; simp [Op.equalIn, zm hu]
   | some q2 => cases h
 | nilMap =>
  obtain ⟨k, e', hu⟩ := hd
  rw [e]
  unfold eqH at h
  split at h <;> first | contradiction | skip
  obtain ⟨q1, rfl, h1⟩ := v6 hx
  obtain ⟨q2, rfl, h2⟩ := v6 hy
  rw [h1, h2] at h
  cases q1 with
  | none => cases h; simp [Op.equalIn, zm hu]
  | some q1 =>
   cases q2 with
   | none => cases h; simp [Op.equalIn, zm hu]
   | some q2 => cases h
 | nilFunc =>
  obtain ⟨p, r, q, hu⟩ := hd
  rw [e]
  unfold eqH at h
  split at h <;> first | contradiction | skip
  ·cases h
   rw [yu hx, yu hy]
   simp [Op.equalIn, zm hu]
  ·cases h
   obtain ⟨F, C, rfl, _, _⟩ := vz hy
   rw [yu hx]
   simp [Op.equalIn, zm hu]
  ·cases h
   obtain ⟨F, C, rfl, _, _⟩ := vz hx
   rw [yu hy]
   simp [Op.equalIn, zm hu]
theorem vq {d : ED} {t : TypeId} {x y : HV} {X Y : Value} {b : Bool} (hd : EdFits P t d) (h : eqH d x y = some b) (hx : VR ρ x X) (hy : VR ρ y Y) : (Op.equal t X Y).run P W = .ok b W :=
 Yn 9980 hd h hx hy
theorem eq_run {d : ED} {neg : Bool} {op : BinOp} {t : TypeId} {x y : HV} {X Y : Value} {b : Bool} (hop : op = if neg then .neq else .eql) (hd : EdFits P t d) (h : eqH d x y = some b) (hx : VR ρ x X) (hy : VR ρ y Y) (p q : Operand) :
  (eqGuard op t p q X Y).run P W = .ok () W ∧ (binOp op t X Y).run P W = .ok (.bool (b != neg)) W := by
 have he := vq (W := W) hd h hx hy
 cases d with
 | cell k =>
  unfold eqH at h
  simp only at h
  unfold eqLeaf at h
  split at h
  ·cases h
   rw [uz hx, uz hy] at he ⊢
   subst hop
   cases neg <;> simp [eqGuard, binOp, he]
  ·split at h
   ·rename_i hk
    obtain ⟨rfl, rfl⟩ := hk
    cases h
    rw [ve hx, ve hy]
    subst hop
    cases neg <;> simp [eqGuard, binOp, Op.intCmp, bne]
   ·cases h
  ·cases h
   rw [jx hx, jx hy]
   subst hop
   cases neg <;> simp [eqGuard, binOp, Op.stringOp, beq_toListBytes]
  ·cases h
 | row ks =>
  obtain ⟨hdep, hl, hg⟩ := hd
  unfold eqH at h
  split at h <;> first | contradiction | skip
  rename_i xs ys heq
  cases heq
  obtain ⟨C, rfl, hC⟩ := VR.inv_agg hx
  obtain ⟨D, rfl, hD⟩ := VR.inv_agg hy
  have hgd := vH 20 t ks hl P.depth hdep
  subst hop
  cases neg <;> simp [eqGuard, binOp, he, hgd]
 | nilSlice =>
  unfold eqH at h
  split at h <;> first | contradiction | skip
  all_goals
   obtain ⟨q1, d1, rfl, _⟩ := yG hy
   obtain ⟨q2, d2, rfl, _⟩ := yG hx
   subst hop
   cases neg <;> simp [eqGuard, binOp, he]
 | nilPtr =>
  unfold eqH at h
  split at h <;> first | contradiction | skip
  all_goals
   obtain ⟨q1, rfl, _⟩ := vZ hy
   obtain ⟨q2, rfl, _⟩ := vZ hx
   subst hop
   cases neg <;> simp [eqGuard, binOp, he]
 | nilMap =>
  unfold eqH at h
  split at h <;> first | contradiction | skip
  all_goals
   obtain ⟨q1, rfl, _⟩ := v6 hy
   obtain ⟨q2, rfl, _⟩ := v6 hx
   subst hop
   cases neg <;> simp [eqGuard, binOp, he]
 | nilFunc =>
  unfold eqH at h
  split at h <;> first | contradiction | skip
  ·rw [yu hx, yu hy] at he ⊢
   subst hop
   cases neg <;> simp [eqGuard, binOp, he]
  ·obtain ⟨F, C, rfl, _, _⟩ := vz hy
   rw [yu hx] at he ⊢
   subst hop
   cases neg <;> simp [eqGuard, binOp, he]
  ·obtain ⟨F, C, rfl, _, _⟩ := vz hx
   rw [yu hy] at he ⊢
   subst hop
   cases neg <;> simp [eqGuard, binOp, he]
theorem op_eq {d : ED} {neg : Bool} {op : BinOp} {t t' : TypeId} {x z : Operand} {y w : Lo} (ho : o.op = .binOp op t x z t') (hop : op = if neg then .neq else .eql) (hd : edOf P t = some d) (hx : lowX x = some y) (hz : lowX z = some w) (h : oEq d neg y w a σ = some (v, σ'))
  (hs : Sim P base σ.h.get ρ W) (ha : AR ρ a A) : HF fl σ.nx σ'.nx σ.h.get σ'.h.get ∧ Does P base fl σ σ' ρ W (execOp A.eval o) v := by
 unfold oEq at h
 split at h
 ·rename_i b hb
  cases h
  obtain ⟨g1, g2⟩ := eq_run (W := W) hop (ju hd) hb (zX ha hx) (zX ha hz) x z
  exact ⟨HF.refl _ _ _, zt hs (V := .bool (b != neg)) (by simp [execOp, ho, g1, g2]) (.bool _)⟩
 ·cases h
end Go.Hx

namespace Go.Hx
variable {P : Program} {base fl : Nat} {a : HAct} {σ σ' : HS} {v : HV} {ρ : Rho} {A : Act} {W : World} {o : Oper}
theorem uQ {d n : Nat} {em : Bool} (IH : ∀ (t : TypeId) (ks : List Leaf), leaves P d t = some ks → ∀ X : List Value, X.length = ks.length → (Instr.checkKey em n t (mk P t X)).run P W = .ok () W) :
  ∀ (fs : List Field) (off : Nat) (ks : List Leaf), leavesF P (leaves P d) fs off = some ks → ∀ X : List Value, X.length = off + ks.length →
   (forIn fs PUnit.unit (fun (f : Field) (_ : PUnit) => (if f.name ≠ "_" then do
     let y ← part f.type X.toArray f.offset
     Instr.checkKey em n f.type y
     pure (ForInStep.yield PUnit.unit)
    else pure (ForInStep.yield PUnit.unit) : Sem (ForInStep PUnit)))).run P W = .ok PUnit.unit W
 | [], _, _, _, _, _ => by simp
 | f :: fs, off, ks, h, X, hX => by
  unfold leavesF at h
  split at h
  ·rename_i k1 m e1 e2
   cases hc : (f.name != "_" && Nat.beq f.offset off && Nat.beq m k1.length) with
   | false => rw [hc] at h; cases h
   | true =>
    rw [hc] at h
    simp only [cond_true, Option.map_eq_some_iff] at h
    simp only [Bool.and_eq_true, bne_iff_ne, ne_eq, Nat.beq_eq] at hc
    obtain ⟨⟨c1, c2⟩, c3⟩ := hc
    obtain ⟨k2, e3, rfl⟩ := h
    simp only [List.length_append] at hX
    obtain ⟨g, hg, hgn⟩ := vF e1
    have p1 := ue (P := P) (W := W) (off := f.offset) (C := X) hg e2 (fun e => by rw [c3]; exact hgn e) (by omega)
    have hk := IH f.type k1 e1 ((X.drop f.offset).take m) (by simp; omega)
    have hrest := uQ IH fs (off + m) k2 e3 X (by omega)
    simp only [List.forIn_cons, c1, ne_eq, not_false_eq_true, if_true, Sem.run_bind, p1, Result.andThen_ok, hk, Sem.run_pure]
    exact hrest
  ·cases h
theorem jl {d n : Nat} {em : Bool} {e : TypeId} {ks : List Leaf} (IH : ∀ X : List Value, X.length = ks.length → (Instr.checkKey em n e (mk P e X)).run P W = .ok () W) (hk : leaves P d e = some ks) (hz : szOf P e = some ks.length) :
  ∀ (len off : Nat) (X : List Value), X.length = (off + len) * ks.length →
   (forIn (List.range' off len) PUnit.unit (fun (i : Nat) (_ : PUnit) => (do
     let z ← sizeOf e
     let y ← part e X.toArray (i * z)
     Instr.checkKey em n e y
     pure (ForInStep.yield PUnit.unit) : Sem (ForInStep PUnit)))).run P W = .ok PUnit.unit W
 | 0, off, X, hX => by simp
 | len + 1, off, X, hX => by
  obtain ⟨g, hg, hgn⟩ := vF hk
  obtain ⟨i, hi, hi2⟩ := zV hz
  have hX' : X.length = off * ks.length + ks.length + len * ks.length := by rw [hX, show off + (len + 1) = off + 1 + len by omega, Nat.add_mul, Nat.add_mul, Nat.one_mul]
  have p1 := ue (P := P) (W := W) (off := off * ks.length) (C := X) hg hz hgn (by omega)
  have hc := IH ((X.drop (off * ks.length)).take ks.length) (by simp; omega)
  have hrest := jl IH hk hz len (off + 1) X (by rw [hX]; congr 1; omega)
  simp only [List.range'_succ, List.forIn_cons, Sem.run_bind, zH hi, hi2, p1, Result.andThen_ok, hc, Sem.run_pure]
  simpa only [Sem.run_bind] using hrest
theorem vK (em : Bool) : ∀ (d : Nat) (t : TypeId) (ks : List Leaf), leaves P d t = some ks → ∀ n, d ≤ n → ∀ X : List Value, X.length = ks.length → (Instr.checkKey em n t (mk P t X)).run P W = .ok () W
 | 0, t, ks, h, _, _, _, _ => by simp [leaves] at h
 | d + 1, t, ks, h, n, hn, X, hX => by
  obtain ⟨m, rfl⟩ : ∃ m, n = m + 1 := ⟨n - 1, by omega⟩
  have flat : ∀ V, (P.underlying t = some .bool ∨ (∃ k, P.underlying t = some (.int k)) ∨ P.underlying t = some .string) → (Instr.checkKey em (m + 1) t V).run P W = .ok () W := by
   intro V hu
   rcases hu with hu | ⟨k, hu⟩ | hu <;> simp [Instr.checkKey, zm hu]
  have h' := h
  unfold leaves at h
  split at h
  ·rename_i hu; exact flat _ (.inl hu)
  ·rename_i k hu; exact flat _ (.inr (.inl ⟨k, hu⟩))
  ·rename_i hu; exact flat _ (.inr (.inr hu))
  ·rename_i fs hu
   cases hst : P.stoodInHeld t with
   | true => rw [hst] at h; cases h
   | false =>
    rw [hst] at h
    simp only [cond_false] at h
    have hg : aggOf P t = some true := by simp [aggOf, hu]
    have := uQ (em := em) (W := W) (fun t ks h X hX => vK em d t ks h m (by omega) X hX) fs.toList 0 ks h X (by omega)
    simp only [mk, hg, Instr.checkKey, Sem.run_bind, zm hu, Result.andThen_ok]
    rw [← Array.forIn_toList]
    simp at this ⊢
    rw [this]
    rfl
  ·rename_i len e hu
   obtain ⟨k1, e1, e2, _, rfl⟩ := vE h
   have hg : aggOf P t = some true := by simp [aggOf, hu]
   have := jl (em := em) (W := W) (vK em d e k1 e1 m (by omega)) e1 e2 len 0 X (by rw [hX, Xh, Nat.zero_add])
   simp only [mk, hg, Instr.checkKey, Sem.run_bind, zm hu, Result.andThen_ok]
   simp only [Std.Legacy.Range.forIn_eq_forIn_range', Std.Legacy.Range.size, Nat.sub_zero, Nat.add_one_sub_one, Nat.div_one]
   simp at this ⊢
   rw [this]
   rfl
  ·cases h
theorem Yi {t : TypeId} {d : ED} (h : keyEd P t = some d) : edOf P t = some d ∧ ((∃ k, d = .cell k) ∨ ∃ ks, d = .row ks) := by
 unfold keyEd at h
 split at h
 ·rename_i k hk; cases h; exact ⟨hk, .inl ⟨k, rfl⟩⟩
 ·rename_i k hk; cases h; exact ⟨hk, .inr ⟨k, rfl⟩⟩
 ·cases h
theorem kE {em : Bool} {d : ED} {t : TypeId} {x : HV} {X : Value} (hd : keyEd P t = some d) (he : keyOk d x = true) (hx : VR ρ x X) : (Instr.checkKey em 10000 t X).run P W = .ok () W := by
 obtain ⟨b, hb⟩ := Option.isSome_iff_exists.1 he
 obtain ⟨h1, h2⟩ := Yi hd
 have hf := ju h1
 rcases h2 with ⟨k, rfl⟩ | ⟨ks, rfl⟩
 ·obtain ⟨td, hu, hl⟩ := hf
  show (Instr.checkKey em (9999 + 1) t X).run P W = .ok () W
  generalize 9999 = n
  cases td <;> cases k <;> simp [leafFits] at hl <;> simp [Instr.checkKey, zm hu]
 ·obtain ⟨_, hl, hg⟩ := hf
  cases x <;> simp only [eqH] at hb <;> first | contradiction | skip
  rename_i xs
  obtain ⟨C, rfl, hC⟩ := VR.inv_agg hx
  have hlen := (vj hb).1
  have := vK (P := P) (W := W) em 20 t ks hl 10000 (by omega) C (by rw [← hC.1]; exact hlen)
  simpa [mk, hg] using this
def Found (ρ : Rho) : Option HV → Option (Nat × Value) → Prop
 | none, none => True
 | some v, some (_, V) => VR ρ v V
 | _, _ => False
theorem jj {d : ED} {t : TypeId} {k : HV} {K : Value} (hd : EdFits P t d) (hk : VR ρ k K) : ∀ (es : List (HV × HV)) (E : List MapEntry) (i : Nat) (r : Option HV), findH d k es = some r → ER ρ es E →
  ∃ R, (Instr.findAsking t K E i).run P W = .ok R W ∧ Found ρ r R
 | [], E, i, r, h, he => by
  have : E = [] := by have := he.1; simp at this; exact List.length_eq_zero_iff.1 this.symm
  subst this
  cases h
  exact ⟨none, by simp [Instr.findAsking], trivial⟩
 | (x, w) :: es, E, i, r, h, he => by
  cases E with
  | nil => have := he.1; simp at this
  | cons e E =>
   obtain ⟨hx, hw⟩ := he.2 0 _ _ rfl rfl
   have he' : ER ρ es E := ⟨by have := he.1; simpa using this, fun j p q hp hq => he.2 (j + 1) p q (by simpa using hp) (by simpa using hq)⟩
   unfold findH at h
   split at h
   ·rename_i hq
    cases h
    have := vq (W := W) hd hq hk hx
    exact ⟨some (i, e.val), by simp [Instr.findAsking, this], hw⟩
   ·rename_i hq
    have := vq (W := W) hd hq hk hx
    obtain ⟨R, h1, h2⟩ := jj hd hk es E (i + 1) r h he'
    exact ⟨R, by simp [Instr.findAsking, this, h1], h2⟩
   ·cases h
theorem XB {k : Leaf} {td : TypeDesc} {x : HV} {K : Value} (hf : leafFits k td) (hk : VR ρ x K) : ∀ (es : List (HV × HV)) (E : List MapEntry) (i : Nat) (r : Option HV), findH (.cell k) x es = some r → ER ρ es E →
  ∃ R, Instr.findNow td K E i = some R ∧ Found ρ r R
 | [], E, i, r, h, he => by
  have : E = [] := by have := he.1; simp at this; exact List.length_eq_zero_iff.1 this.symm
  subst this
  cases h
  exact ⟨none, rfl, trivial⟩
 | (y, w) :: es, E, i, r, h, he => by
  cases E with
  | nil => have := he.1; simp at this
  | cons e E =>
   obtain ⟨hx, hw⟩ := he.2 0 _ _ rfl rfl
   have he' : ER ρ es E := ⟨by have := he.1; simpa using this, fun j p q hp hq => he.2 (j + 1) p q (by simpa using hp) (by simpa using hq)⟩
   unfold findH at h
   split at h
   ·rename_i hq
    cases h
    have := (vp (P := default) (W := default) hq hk hx).2.2.2 td hf
    exact ⟨some (i, e.val), by simp [Instr.findNow, this], hw⟩
   ·rename_i hq
    have := (vp (P := default) (W := default) hq hk hx).2.2.2 td hf
    obtain ⟨R, h1, h2⟩ := XB hf hk es E (i + 1) r h he'
    exact ⟨R, by simp [Instr.findNow, this, h1], h2⟩
   ·cases h
theorem j4 {d : ED} {t : TypeId} {k : HV} {K : Value} (hd : keyEd P t = some d) (hk : VR ρ k K) {es : List (HV × HV)} {E : List MapEntry} {r : Option HV} (h : findH d k es = some r) (he : ER ρ es E) :
  ∃ R, (Instr.findKey t K E).run P W = .ok R W ∧ Found ρ r R := by
 obtain ⟨h1, h2⟩ := Yi hd
 have hf := ju h1
 rcases h2 with ⟨k, rfl⟩ | ⟨ks, rfl⟩
 ·obtain ⟨td, hu, hl⟩ := hf
  obtain ⟨R, g1, g2⟩ := XB hl hk es E 0 r h he
  exact ⟨R, by simp [Instr.findKey, zm hu, g1], g2⟩
 ·obtain ⟨R, g1, g2⟩ := jj (W := W) hf hk es E 0 r h he
  obtain ⟨_, hl, hg⟩ := hf
  have hu : (∃ fs, P.underlying t = some (.struct fs)) ∨ ∃ n e, P.underlying t = some (.array n e) := by
   unfold leaves at hl
   split at hl
   ·rename_i hu; simp [aggOf, hu] at hg
   ·rename_i hu; simp [aggOf, hu] at hg
   ·rename_i hu; simp [aggOf, hu] at hg
   ·rename_i fs hu; exact .inl ⟨fs, hu⟩
   ·rename_i n e hu; exact .inr ⟨n, e, hu⟩
   ·cases hl
  rcases hu with ⟨fs, hu⟩ | ⟨n, e', hu⟩
  ·cases E with
   | nil =>
    have : es = [] := by have := he.1; simp at this; exact this
    subst this
    cases h
    exact ⟨none, by simp [Instr.findKey, zm hu, Instr.findNow], trivial⟩
   | cons e E => exact ⟨R, by simp [Instr.findKey, zm hu, Instr.findNow, Instr.sameNow, g1], g2⟩
  ·cases E with
   | nil =>
    have : es = [] := by have := he.1; simp at this; exact this
    subst this
    cases h
    exact ⟨none, by simp [Instr.findKey, zm hu, Instr.findNow], trivial⟩
   | cons e E => exact ⟨R, by simp [Instr.findKey, zm hu, Instr.findNow, Instr.sameNow, g1], g2⟩
theorem Zd {t kt e : TypeId} {m k : Operand} {m' k' : Lo} {ok : Bool} {d : ED} {z : HV} (ho : o.op = .lookup t m k ok) (hu : P.underlying t = some (.map kt e)) (hd : keyEd P kt = some d) (hz : zeroV P e = some z) (hm : lowX m = some m') (hk : lowX k = some k')
  (h : oLookup d z ok m' k' a σ = some (v, σ')) (hs : Sim P base σ.h.get ρ W) (ha : AR ρ a A) : HF fl σ.nx σ'.nx σ.h.get σ'.h.get ∧ Does P base fl σ σ' ρ W (execOp A.eval o) v := by
 obtain ⟨i, Z, i1, i2, i3⟩ := yI hz ρ
 have h1 := zX ha hm
 have h2 := zX ha hk
 have fin : ∀ (w : HV) (is : Bool) (U : Value), found ok w is σ = some (v, σ') → VR ρ w U → ((execOp A.eval o).run P W = .ok (.value (if ok then .tuple #[U, .bool is] else U)) W) → HF fl σ.nx σ'.nx σ.h.get σ'.h.get ∧ Does P base fl σ σ' ρ W (execOp A.eval o) v := by
  intro w is U hf hw hr
  unfold found at hf
  cases ok with
  | true =>
   cases hf
   refine ⟨HF.refl _ _ _, zt hs hr ?_⟩
   exact VR.tupleL (LR.cons hw (LR.cons (.bool is) (LR.nil ρ)))
  | false =>
   cases hf
   exact ⟨HF.refl _ _ _, zt hs hr hw⟩
 unfold oLookup at h
 cases hc : keyOk d (a.ev k') with
 | false => rw [hc] at h; cases h
 | true =>
  rw [hc] at h
  simp only [cond_true] at h
  have hck : ∀ em, (Instr.checkKey em 10000 kt (A.eval k)).run P W = .ok () W := fun em => kE hd hc h2
  split at h
  ·rename_i e1
   rw [e1] at h1
   have hV := ko h1
   obtain ⟨R, g1, g2⟩ := j4 (W := W) hd h2 (es := []) (E := []) (r := none) rfl ⟨rfl, fun j p q hp => by simp at hp⟩
   cases R with
   | some R => exact g2.elim
   | none =>
    refine fin z false Z h i3 ?_
    cases ok <;> simp [execOp, ho, hV, Instr.lookup, zm hu, hck, g1, yN i1 i2]
  ·rename_i r e1
   rw [e1] at h1
   obtain ⟨q, hq, hV⟩ := XT h1
   split at h
   ·rename_i es hes
    obtain ⟨q', E, cl, hq', hw, _, her⟩ := hs.ok _ _ hes
    rw [hq] at hq'; cases hq'
    have hobj : (getObj q.blk).run P W = .ok (.map E cl) W := by simp [getObj, Sem.run, hw]
    split at h
    ·rename_i w hf
     obtain ⟨R, g1, g2⟩ := j4 (W := W) hd h2 hf her
     cases R with
     | none => exact g2.elim
     | some R =>
      obtain ⟨j, U⟩ := R
      refine fin w true U h g2 ?_
      cases ok <;> simp [execOp, ho, hV, Instr.lookup, zm hu, hobj, hck, g1]
    ·rename_i hf
     obtain ⟨R, g1, g2⟩ := j4 (W := W) hd h2 hf her
     cases R with
     | some R => exact g2.elim
     | none =>
      refine fin z false Z h i3 ?_
      cases ok <;> simp [execOp, ho, hV, Instr.lookup, zm hu, hobj, hck, g1, yN i1 i2]
    ·cases h
   ·cases h
  ·cases h
end Go.Hx

namespace Go.Hx
variable {P : Program} {base fl : Nat} {a : HAct} {σ σ' : HS} {v : HV} {ρ : Rho} {A : Act} {W : World} {o : Oper}
theorem jH {d : ED} {x y : HV} {X Y : Value} (hd : (∃ k, d = .cell k) ∨ ∃ ks, d = .row ks) (h : eqH d x y = some true) (hx : VR ρ x X) (hy : VR ρ y Y) : ∀ n, Instr.sameBits (n + 1) Y X = true := by
 intro n
 rcases hd with ⟨k, rfl⟩ | ⟨ks, rfl⟩
 ·obtain ⟨h1, h2, _⟩ := vp (P := default) (W := default) h hx hy
  have := h1 rfl
  subst this
  exact h2 (n + 1) rfl
 ·cases x <;> simp only [eqH] at h <;> first | contradiction | skip
  rename_i xs
  cases y <;> simp only [eqH] at h <;> first | contradiction | skip
  rename_i ys
  obtain ⟨C, rfl, hC⟩ := VR.inv_agg hx
  obtain ⟨D, rfl, hD⟩ := VR.inv_agg hy
  obtain ⟨h1, h2⟩ := jk h hC hD rfl
  subst h1
  simp only [Instr.sameBits, beq_self_eq_true, Bool.true_and]
  exact h2 n
inductive Put (k v : HV) (es es' : List (HV × HV)) (E : List MapEntry) (K : Value) (i : Nat) : Option (Nat × Value) → Prop
 | here (j : Nat) (e : MapEntry) (U : Value) (h1 : E[j]? = some e) (h2 : ∀ n, Instr.sameBits (n + 1) e.key K = true) (h3 : es' = es.set j (k, v)) : Put k v es es' E K i (some (i + j, U))
 | new (h : es' = es ++ [(k, v)]) : Put k v es es' E K i none
theorem Put.cons {k v : HV} {x : HV × HV} {e : MapEntry} {es es' : List (HV × HV)} {E : List MapEntry} {K : Value} {i : Nat} {R : Option (Nat × Value)} (h : Put k v es es' E K (i + 1) R) : Put k v (x :: es) (x :: es') (e :: E) K i R := by
 cases h with
 | here j e' U h1 h2 h3 =>
  have : i + 1 + j = i + (j + 1) := by omega
  rw [this]
  exact .here (j + 1) e' U (by simpa using h1) h2 (by rw [h3]; rfl)
 | new h => exact .new (by rw [h]; rfl)
theorem jA {d : ED} {t : TypeId} {k v : HV} {K : Value} (hd : EdFits P t d) (hc : (∃ k, d = .cell k) ∨ ∃ ks, d = .row ks) (hk : VR ρ k K) : ∀ (es es' : List (HV × HV)) (E : List MapEntry) (i : Nat), updH d k v es = some es' → ER ρ es E →
  ∃ R, (Instr.findAsking t K E i).run P W = .ok R W ∧ Put k v es es' E K i R
 | [], es', E, i, h, he => by
  have : E = [] := by have := he.1; simp at this; exact List.length_eq_zero_iff.1 this.symm
  subst this
  cases h
  exact ⟨none, by simp [Instr.findAsking], .new rfl⟩
 | (x, w) :: es, es', E, i, h, he => by
  cases E with
  | nil => have := he.1; simp at this
  | cons e E =>
   obtain ⟨hx, hw⟩ := he.2 0 _ _ rfl rfl
   have he' : ER ρ es E := ⟨by have := he.1; simpa using this, fun j p q hp hq => he.2 (j + 1) p q (by simpa using hp) (by simpa using hq)⟩
   unfold updH at h
   split at h
   ·rename_i hq
    cases h
    have := vq (W := W) hd hq hk hx
    exact ⟨some (i, e.val), by simp [Instr.findAsking, this], .here 0 e e.val rfl (jH hc hq hk hx) rfl⟩
   ·rename_i hq
    simp only [Option.map_eq_some_iff] at h
    obtain ⟨es2, h1, rfl⟩ := h
    have := vq (W := W) hd hq hk hx
    obtain ⟨R, h2, h3⟩ := jA hd hc hk es es2 E (i + 1) h1 he'
    exact ⟨R, by simp [Instr.findAsking, this, h2], h3.cons⟩
   ·cases h
theorem YE {k : Leaf} {td : TypeDesc} {x v : HV} {K : Value} (hf : leafFits k td) (hk : VR ρ x K) : ∀ (es es' : List (HV × HV)) (E : List MapEntry) (i : Nat), updH (.cell k) x v es = some es' → ER ρ es E →
  ∃ R, Instr.findNow td K E i = some R ∧ Put x v es es' E K i R
 | [], es', E, i, h, he => by
  have : E = [] := by have := he.1; simp at this; exact List.length_eq_zero_iff.1 this.symm
  subst this
  cases h
  exact ⟨none, rfl, .new rfl⟩
 | (y, w) :: es, es', E, i, h, he => by
  cases E with
  | nil => have := he.1; simp at this
  | cons e E =>
   obtain ⟨hx, hw⟩ := he.2 0 _ _ rfl rfl
   have he' : ER ρ es E := ⟨by have := he.1; simpa using this, fun j p q hp hq => he.2 (j + 1) p q (by simpa using hp) (by simpa using hq)⟩
   unfold updH at h
   split at h
   ·rename_i hq
    cases h
    have := (vp (P := default) (W := default) hq hk hx).2.2.2 td hf
    exact ⟨some (i, e.val), by simp [Instr.findNow, this], .here 0 e e.val rfl (jH (.inl ⟨k, rfl⟩) hq hk hx) rfl⟩
   ·rename_i hq
    simp only [Option.map_eq_some_iff] at h
    obtain ⟨es2, h1, rfl⟩ := h
    have := (vp (P := default) (W := default) hq hk hx).2.2.2 td hf
    obtain ⟨R, h2, h3⟩ := YE hf hk es es2 E (i + 1) h1 he'
    exact ⟨R, by simp [Instr.findNow, this, h2], h3.cons⟩
   ·cases h
theorem upd_key {d : ED} {t : TypeId} {k v : HV} {K : Value} (hd : keyEd P t = some d) (hk : VR ρ k K) {es es' : List (HV × HV)} {E : List MapEntry} (h : updH d k v es = some es') (he : ER ρ es E) :
  ∃ R, (Instr.findKey t K E).run P W = .ok R W ∧ Put k v es es' E K 0 R := by
 obtain ⟨h1, h2⟩ := Yi hd
 have hf := ju h1
 rcases h2 with ⟨k, rfl⟩ | ⟨ks, rfl⟩
 ·obtain ⟨td, hu, hl⟩ := hf
  obtain ⟨R, g1, g2⟩ := YE hl hk es es' E 0 h he
  exact ⟨R, by simp [Instr.findKey, zm hu, g1], g2⟩
 ·obtain ⟨R, g1, g2⟩ := jA (W := W) hf (.inr ⟨ks, rfl⟩) hk es es' E 0 h he
  obtain ⟨_, hl, hg⟩ := hf
  have hu : (∃ fs, P.underlying t = some (.struct fs)) ∨ ∃ n e, P.underlying t = some (.array n e) := by
   unfold leaves at hl
   split at hl
   ·rename_i hu; simp [aggOf, hu] at hg
   ·rename_i hu; simp [aggOf, hu] at hg
   ·rename_i hu; simp [aggOf, hu] at hg
   ·rename_i fs hu; exact .inl ⟨fs, hu⟩
   ·rename_i n e hu; exact .inr ⟨n, e, hu⟩
   ·cases hl
  rcases hu with ⟨fs, hu⟩ | ⟨n, e', hu⟩
  ·cases E with
   | nil =>
    have : es = [] := by have := he.1; simp at this; exact this
    subst this
    cases h
    exact ⟨none, by simp [Instr.findKey, zm hu, Instr.findNow], .new rfl⟩
   | cons e E => exact ⟨R, by simp [Instr.findKey, zm hu, Instr.findNow, Instr.sameNow, g1], g2⟩
  ·cases E with
   | nil =>
    have : es = [] := by have := he.1; simp at this; exact this
    subst this
    cases h
    exact ⟨none, by simp [Instr.findKey, zm hu, Instr.findNow], .new rfl⟩
   | cons e E => exact ⟨R, by simp [Instr.findKey, zm hu, Instr.findNow, Instr.sameNow, g1], g2⟩
theorem uF {t kt e : TypeId} {m k w : Operand} {m' k' w' : Lo} {d : ED} (ho : o.op = .mapUpdate t m k w ∨ o.op = .insert t m k w) (hu : P.underlying t = some (.map kt e)) (hd : keyEd P kt = some d) (hm : lowX m = some m') (hk : lowX k = some k') (hw : lowX w = some w')
  (h : oMapUpdate fl d m' k' w' a σ = some (v, σ')) (hs : Sim P base σ.h.get ρ W) (ha : AR ρ a A) (hj : ∀ b x, σ.h.get b = some x → b < σ.nx) : HF fl σ.nx σ'.nx σ.h.get σ'.h.get ∧ Does P base fl σ σ' ρ W (execOp A.eval o) v := by
 have h1 := zX ha hm
 have h2 := zX ha hk
 have h3 := zX ha hw
 unfold oMapUpdate at h
 cases hc : keyOk d (a.ev k') with
 | false => rw [hc] at h; cases h
 | true =>
  rw [hc] at h
  simp only [cond_true] at h
  have hck : ∀ em, (Instr.checkKey em 10000 kt (A.eval k)).run P W = .ok () W := fun em => kE hd hc h2
  split at h
  ·rename_i r e1
   rw [e1] at h1
   obtain ⟨q, hq, hV⟩ := XT h1
   split at h
   ·rename_i es hes
    obtain ⟨q', E, cl, hq', hw', hbase, her⟩ := hs.ok _ _ hes
    rw [hq] at hq'; cases hq'
    have hobj : (getObj q.blk).run P W = .ok (.map E cl) W := by simp [getObj, Sem.run, hw']
    cases hfl : Nat.ble fl r with
    | false => rw [hfl] at h; cases h
    | true =>
     rw [hfl] at h
     simp only [cond_true] at h
     have hfl := Nat.le_of_ble_eq_true hfl
     split at h
     ·rename_i es' hupd
      cases h
      obtain ⟨R, g1, g2⟩ := upd_key (W := W) hd h2 hupd her
      have hlt := (Array.getElem?_eq_some_iff.1 hw').1
      have setO : ∀ O : Obj, (setObj q.blk O).run P W = .ok () { W with heap := W.heap.setIfInBounds q.blk O } := fun O => by simp [setObj, Sem.run, hw']
      have run : ∃ E' cl', (execOp A.eval o).run P W = .ok .skip { W with heap := W.heap.setIfInBounds q.blk (.map E' cl') } ∧ ER ρ es' E'.toList := by
       cases g2 with
       | here j en U e1 e2 e3 =>
        refine ⟨E.modify (0 + j) (fun e => { e with key := A.eval k, val := A.eval w }), cl, ?_, ?_⟩
        ·have hen : E[0 + j]? = some en := by rw [Nat.zero_add, ← Array.getElem?_toList]; exact e1
         have hks : (Instr.keyThatStays (((E[0 + j]?).map (·.key)).getD (A.eval k)) (A.eval k)).run P W = .ok (A.eval k) W := by
          rw [hen]
          simp only [Option.map_some, Option.getD_some, Instr.keyThatStays]
          rw [if_pos (e2 9999)]
          rfl
         rcases ho with ho | ho <;> simp only [execOp, ho, hV, Instr.mapUpdate, Sem.run_bind, zm hu, Result.andThen_ok, hobj, hck, g1, hks, setO, Sem.run_pure]
        ·subst e3
         refine ⟨by have := her.1; simpa using this, fun i p x hp hx => ?_⟩
         rw [Nat.zero_add, Array.getElem?_toList, Array.getElem?_modify] at hx
         rw [List.getElem?_set] at hp
         by_cases e : j = i
         ·subst e
          rw [if_pos rfl] at hx hp
          split at hp
          ·cases hp
           rw [← Array.getElem?_toList, e1] at hx
           cases hx
           exact ⟨h2, h3⟩
          ·cases hp
         ·rw [if_neg e] at hx hp
          exact her.2 i p x hp (by rw [Array.getElem?_toList]; exact hx)
       | new e3 =>
        refine ⟨E.push { key := A.eval k, val := A.eval w, born := cl }, cl + 1, ?_, ?_⟩
        ·rcases ho with ho | ho <;> simp only [execOp, ho, hV, Instr.mapUpdate, Sem.run_bind, zm hu, Result.andThen_ok, hobj, hck, g1, setO, Sem.run_pure]
        ·subst e3
         refine ⟨by have := her.1; simp at this ⊢; exact this, fun i p x hp hx => ?_⟩
         have hl := her.1
         simp only [Array.toList_push] at hx
         by_cases e : i < es.length
         ·rw [List.getElem?_append_left e] at hp
          rw [List.getElem?_append_left (by omega)] at hx
          exact her.2 i p x hp hx
         ·rw [List.getElem?_append_right (by omega)] at hp hx
          rw [hl] at hp
          cases hi : i - E.toList.length with
          | zero => rw [hi] at hp hx; cases hp; cases hx; exact ⟨h2, h3⟩
          | succ n => rw [hi] at hp; cases hp
      obtain ⟨E', cl', hrun, her'⟩ := run
      refine ⟨y7 hfl (hj _ _ hes) (HS.get_upd σ _ _), Go.undef, _, ρ, .inr ⟨hrun, rfl⟩, VR.undef ρ, ?_⟩
      refine yZ hs hes rfl hfl hq (HS.get_upd σ _ _) rfl rfl rfl (uN hw' rfl) (by simp) (fun n _ hn => ?_) (fun z hz => ?_)
      ·simp only
       rw [Array.getElem?_setIfInBounds_ne (fun e => hn e.symm)]
      ·cases hz
       exact ⟨q, E', cl', hq, by simp [hlt], hbase, her'⟩
     ·cases h
   ·cases h
  ·cases h
end Go.Hx

namespace Go.Hx
variable {P : Program} {base fl : Nat} {ρ : Rho} {W : World} {σ σ' : HS} {a : HAct} {A : Act} {v : HV} {o : Oper}
theorem Xe {x y : Option Operand} {n l h : Nat} (h1 : (y = none ∧ h = n) ∨ ∃ w k, y = some w ∧ A.eval w = .int k (h : Int)) (h2 : (x = none ∧ l = 0) ∨ ∃ w k, x = some w ∧ A.eval w = .int k (l : Int))
  (hle : l ≤ h) (hc : h ≤ n) (W : World) : (Instr.sliceBounds false n n (x.map A.eval) (y.map A.eval) none).run P W = .ok (l, h, n) W := by
 rcases h1 with ⟨rfl, rfl⟩ | ⟨w, k, rfl, hw⟩ <;> rcases h2 with ⟨rfl, rfl⟩ | ⟨w', k', rfl, hw'⟩
 ·simp [Instr.sliceBounds]
 ·simp [Instr.sliceBounds, Instr.sliceBound, asIntOf, hw', hle]
 ·simp [Instr.sliceBounds, Instr.sliceBound, asIntOf, hw, hc]
 ·simp [Instr.sliceBounds, Instr.sliceBound, asIntOf, hw, hw', hc, hle]
theorem Zc {t e : TypeId} {n s : Nat} {x : Operand} {y : Lo} {lo hi : Option Operand} {lo' hi' : Option Lo} (ho : o.op = .slice t x lo hi none) (hu : P.underlying t = some (.array n e)) (hz : szOf P e = some s) (hx : lowX x = some y)
  (hlo : lowO lo = some lo') (hhi : lowO hi = some hi') (h : oSliceA n s y lo' hi' a σ = some (v, σ')) (hs : Sim P base σ.h.get ρ W) (ha : AR ρ a A) : HF fl σ.nx σ'.nx σ.h.get σ'.h.get ∧ Does P base fl σ σ' ρ W (execOp A.eval o) v := by
 have h1 := zX ha hx
 obtain ⟨i, i1, i2⟩ := zV hz
 unfold oSliceA at h
 cases hb : sliceArrH σ n s (a.ev y) (lo'.map a.ev) (hi'.map a.ev) with
 | none => rw [hb] at h; cases h
 | some v' =>
  rw [hb] at h
  cases h
  refine ⟨HF.refl _ _ _, ?_⟩
  unfold sliceArrH at hb
  split at hb
  ·rename_i b q e1
   rw [e1] at h1
   obtain ⟨r, hr, hV⟩ := vM h1
   split at hb
   ·rename_i cs m l hg hm hl
    have b1 := yX (d := n) ha hhi hm
    have b2 := yX (d := 0) ha hlo hl
    revert hb
    cases hc : (Nat.ble l m && Nat.ble m n && Nat.blt l n) with
    | false => intro hb; cases hb
    | true =>
     intro hb
     cases hb
     simp only [Bool.and_eq_true, Nat.ble_eq, Nat.blt_eq] at hc
     obtain ⟨⟨c1, c2⟩, c3⟩ := hc
     obtain ⟨r', C, e', z, hr', _, _, hk⟩ := hs.ok _ _ hg
     rw [hr] at hr'; cases hr'
     have hx0 : r.extra = 0 := hk.2.2
     have hrun := Xe (P := P) (n := n) b1 b2 c1 c2 W
     refine zt hs (V := .slice (some ⟨r.blk, r.off + (q + l * s), none⟩) (m - l) (n - l + r.extra)) ?_ (.slice hr)
     have e0 : ¬ n = l := by omega
     simp [execOp, ho, Instr.sliceAt, Instr.sureAddr, zm hu, hV, hrun, zH i1, i2, e0, yy, Nat.add_assoc, hx0]
   ·cases hb
  ·cases hb
theorem op_copy {xs : Array Operand} {y z : Lo} {t0 e : TypeId} {sz : Nat} {ts : Array TypeId} (ho : o.op = .call { callee := .builtin .copy, args := xs, argTypes := ts }) (hx : lowXs xs.toList = some [y, z]) (ht0 : ts[0]? = some t0)
  (hu0 : P.underlying t0 = some (.slice e)) (hsz : szOf P e = some sz)
  (h : oCopy fl sz y z a σ = some (v, σ')) (hs : Sim P base σ.h.get ρ W) (ha : AR ρ a A) (hj : ∀ b x, σ.h.get b = some x → b < σ.nx) :
  HF fl σ.nx σ'.nx σ.h.get σ'.h.get ∧ Does P base fl σ σ' ρ W (execOp A.eval o) v := by
 obtain ⟨x1, x2, e1, hx1, hx2⟩ := u3 hx
 have e1 := kW e1
 subst e1
 have h1 := zX ha hx1
 have h2 := zX ha hx2
 obtain ⟨i, i1, i2⟩ := zV hsz
 have hrunB : ∀ V W', (Builtin.copy_ ts o.type #[A.eval x1, A.eval x2]).run P W = .ok V W' → (execOp A.eval o).run P W = .ok (.value V) W' := fun V W' hr => by
  rw [z4 ho]; simp [builtin, hr]
 unfold oCopy copyH at h
 split at h
 ·rename_i da dl dc sa sl sc ey ez
  rw [ey] at h1
  rw [ez] at h2
  split at h
  ·cases h
  ·rename_i news hnews
   obtain ⟨U, hU, hUl, hf1, _⟩ := vU (P := P) (n := Nat.min sl dl) (size := sz) (news := news) h2 ⟨_, _, _, rfl, hnews, Nat.min_le_left _ _⟩ hs
   have hlen := y3 (P := P) h2 W
   have is : i.size = sz := i2
   rw [← is] at hf1
   rcases yS h1 with ⟨rfl, rfl, rfl, hV⟩ | ⟨b, q, r, rfl, hr, hV⟩ | ⟨b, q, a', rfl, rfl, rfl, hV⟩
   case inr.inr =>
    have hm : Nat.min sl 0 = 0 := Nat.min_zero _
    have hnews0 : news = [] := List.length_eq_zero_iff.1 (by rw [hUl, hm, Nat.zero_mul])
    subst hnews0
    cases h
    have hU0 := LR.inv_nil hU
    subst hU0
    rw [hm] at hf1
    refine ⟨HF.refl _ _ _, zt hs (V := .int .i64 (Nat.min sl 0 : Nat)) (hrunB _ _ ?_) (.int _ _)⟩
    simp [Builtin.copy_, ht0, zm hu0, hV, hlen, zH i1, hf1, goInt, storeCells]
   ·have hm : Nat.min sl 0 = 0 := Nat.min_zero _
    have hnews0 : news = [] := List.length_eq_zero_iff.1 (by rw [hUl, hm, Nat.zero_mul])
    subst hnews0
    cases h
    rw [hm] at hf1
    refine ⟨HF.refl _ _ _, zt hs (V := .int .i64 (Nat.min sl 0 : Nat)) (hrunB _ _ ?_) (.int _ _)⟩
    simp [Builtin.copy_, ht0, zm hu0, hV, hlen, zH i1, hf1, goInt]
   ·by_cases hne : news = []
    ·subst hne
     cases h
     have hU0 := LR.inv_nil hU
     subst hU0
     refine ⟨HF.refl _ _ _, zt hs (V := .int .i64 (Nat.min sl dl : Nat)) (hrunB _ _ ?_) (.int _ _)⟩
     simp [Builtin.copy_, ht0, zm hu0, hV, hlen, zH i1, hf1, goInt, storeCells]
    ·have h : ((σ.write fl (b, q) news).map fun σ => (HV.int .i64 (Nat.min sl dl : Nat), σ)) = some (v, σ') := by
      cases news with
      | nil => exact absurd rfl hne
      | cons n ns => exact h
     simp only [Option.map_eq_some_iff] at h
     obtain ⟨σ1, hw, he⟩ := h
     cases he
     obtain ⟨e2, r', W', hr', hrun, hpost⟩ := uX hs hw hU
     rw [hr] at hr'; cases hr'
     have hup : ∃ y, fl ≤ b ∧ b < σ.nx ∧ σ'.h.get = fun j => if j = b then y else σ.h.get j := by
      unfold HS.write at hw
      split at hw
      ·cases hw
      ·rename_i hb
       cases hc : (Nat.ble fl b && news.all HV.one) with
       | false => rw [hc] at hw; cases hw
       | true =>
        rw [hc] at hw
        simp only [cond_true, Option.map_eq_some_iff] at hw
        simp only [Bool.and_eq_true, Nat.ble_eq] at hc
        obtain ⟨cs', _, rfl⟩ := hw
        exact ⟨_, hc.1, hj _ _ hb, funext fun j => HS.get_upd σ _ _ j⟩
      ·cases hw
     obtain ⟨y, hy1, hy2, hy3⟩ := hup
     refine ⟨by rw [e2, hy3]; exact y7 hy1 hy2 (fun _ => rfl), .int .i64 (Nat.min sl dl : Nat), W', ρ, .inl (hrunB _ _ ?_), .int _ _, by rw [e2]; exact hpost⟩
     simp [Builtin.copy_, ht0, zm hu0, hV, hlen, zH i1, hf1, goInt, hrun]
 ·cases h
end Go.Hx

namespace Go.Hx
variable {P : Program} {o : Oper}
theorem kU {op : Op} {l : LOp} (h : lowOp P op = some l) : ∀ c, op ≠ .defer c := by
 intro c e
 subst e
 simp [lowOp] at h
def Plain (P : Program) (o : Oper) (l : LOp) : Prop :=
 ∀ (lp : Nat → Option zp) (ex : Ex) (fl : Nat) (a : HAct) (σ σ' : HS) (v : HV), opH lp ex fl l a σ = some (v, σ') → (∀ b x, σ.h.get b = some x → b < σ.nx) →
  ∀ (base : Nat) (ρ : Rho) (A : Act) (W : World), Sim P base σ.h.get ρ W → AR ρ a A → base ≤ W.heap.size → (∀ b, σ.nx ≤ b → b < σ'.nx → ρ b = none) →
  HF fl σ.nx σ'.nx σ.h.get σ'.h.get ∧ Does P base fl σ σ' ρ W (execOp A.eval o) v
theorem zG {l : LOp} (h : Plain P o l) : Plain P o l := h
def IsCall (o : Oper) (l : LOp) : Prop := ∃ f args g xs ts, l = .call f args ∧ o.op = .call { callee := .value g, args := xs, argTypes := ts } ∧ lowX g = some f ∧ lowXs xs.toList = some args
theorem op_any {l : LOp} (hl : lowOp P o.op = some l) : IsCall o l ∨ Plain P o l := by
 unfold lowOp at hl
 split at hl
 ·rename_i x ho
  simp only [Option.map_eq_some_iff] at hl
  obtain ⟨y, hy, rfl⟩ := hl
  exact .inr (zG fun lp ex fl a σ σ' v h hj base ρ A W hs ha hb hn => YQ (.inl ho) hy h hs ha)
 ·rename_i x ho
  simp only [Option.map_eq_some_iff] at hl
  obtain ⟨y, hy, rfl⟩ := hl
  exact .inr (zG fun lp ex fl a σ σ' v h hj base ρ A W hs ha hb hn => YQ (.inr ho) hy h hs ha)
 ·rename_i c x y ho
  split at hl
  ·rename_i e1 e2 e3; cases hl
   exact .inr (zG fun lp ex fl a σ σ' v h hj base ρ A W hs ha hb hn => op_pick ho e1 e2 e3 h hs ha)
  ·cases hl
 ·rename_i t ho
  simp only [Option.map_eq_some_iff] at hl
  obtain ⟨z, hz, rfl⟩ := hl
  exact .inr (zG fun lp ex fl a σ σ' v h hj base ρ A W hs ha hb hn => op_alloc (a := a) ho hz h hs hb (hn _ (Nat.le_refl _) (by cases h; simp [HS.new])))
 ·rename_i t x ho
  simp only [Option.map_eq_some_iff] at hl
  obtain ⟨y, hy, rfl⟩ := hl
  exact .inr (zG fun lp ex fl a σ σ' v h hj base ρ A W hs ha hb hn => op_box ho hy h hs ha hb (hn _ (Nat.le_refl _) (by cases h; simp [HS.new])))
 ·rename_i t parts ho
  split at hl
  ·rename_i fs z hu hz
   cases hall : fs.toList.all (fun f => (szOf P f.type).isSome) with
   | false => rw [hall] at hl; cases hl
   | true =>
    rw [hall] at hl
    simp only [Bool.not_true, cond_false, Option.map_eq_some_iff] at hl
    obtain ⟨ps, hp, rfl⟩ := hl
    exact .inr (zG fun lp ex fl a σ σ' v h hj base ρ A W hs ha hb hn => jn ho hu hz hall hp h hs ha)
  ·rename_i n e z hu hz
   split at hl
   ·rename_i s hs'
    simp only [Option.map_eq_some_iff] at hl
    obtain ⟨ps, hp, rfl⟩ := hl
    exact .inr (zG fun lp ex fl a σ σ' v h hj base ρ A W hs ha hb hn => jQ ho hu hz hs' hp h hs ha)
   ·cases hl
  ·cases hl
 ·rename_i t len parts ho
  split at hl
  ·rename_i e hu
   split at hl
   ·rename_i s z hs' hz
    cases hc : (Nat.ble (len * s) 100000 && Nat.beq z.cells.length s) with
    | false => rw [hc] at hl; cases hl
    | true =>
     rw [hc] at hl
     simp only [cond_true, Option.map_eq_some_iff] at hl
     simp only [Bool.and_eq_true, Nat.ble_eq, Nat.beq_eq] at hc
     obtain ⟨ps, hp, rfl⟩ := hl
     exact .inr (zG fun lp ex fl a σ σ' v h hj base ρ A W hs ha hb hn => kd ho hu hs' hz hc.1 hc.2 hp h hs ha hb hn)
   ·cases hl
  ·cases hl
 ·rename_i t x ho
  split at hl
  ·rename_i n y e1 e2 e3; cases hl
   exact .inr (zG fun lp ex fl a σ σ' v h hj base ρ A W hs ha hb hn => YR ho e1 e2 rfl e3 h hs ha)
  ·rename_i n y e1 e2 e3; cases hl
   exact .inr (zG fun lp ex fl a σ σ' v h hj base ρ A W hs ha hb hn => YR ho e1 e2 rfl e3 h hs ha)
  ·cases hl
 ·rename_i t x w ho
  split at hl
  ·rename_i e1 e2 e3; cases hl
   exact .inr (zG fun lp ex fl a σ σ' v h hj base ρ A W hs ha hb hn => op_store ho e1 e2 e3 h hs ha hj)
  ·cases hl
 ·rename_i x ho
  simp only [Option.map_eq_some_iff] at hl
  obtain ⟨y, hy, rfl⟩ := hl
  exact .inr (zG fun lp ex fl a σ σ' v h hj base ρ A W hs ha hb hn => Xm ho hy h hs ha)
 ·rename_i op t x y t' ho
  split at hl
  ·rename_i e1 e2
   split at hl
   ·simp only [Option.map_eq_some_iff] at hl
    obtain ⟨d, hd, rfl⟩ := hl
    exact .inr (zG fun lp ex fl a σ σ' v h hj base ρ A W hs ha hb hn => op_eq ho rfl hd e1 e2 h hs ha)
   ·simp only [Option.map_eq_some_iff] at hl
    obtain ⟨d, hd, rfl⟩ := hl
    exact .inr (zG fun lp ex fl a σ σ' v h hj base ρ A W hs ha hb hn => op_eq ho rfl hd e1 e2 h hs ha)
   ·cases hl
    exact .inr (zG fun lp ex fl a σ σ' v h hj base ρ A W hs ha hb hn => op_bin ho e1 e2 h hs ha)
  ·cases hl
 ·rename_i op t x ho
  simp only [Option.map_eq_some_iff] at hl
  obtain ⟨y, hy, rfl⟩ := hl
  exact .inr (zG fun lp ex fl a σ σ' v h hj base ρ A W hs ha hb hn => op_un ho hy h hs ha)
 ·rename_i s d x ho
  split at hl
  ·rename_i e1 e2 e3; cases hl
   exact .inr (zG fun lp ex fl a σ σ' v h hj base ρ A W hs ha hb hn => Yd ho e1 e2 e3 h hs ha)
  ·cases hl
 ·rename_i f xs cs ho
  split at hl
  ·rename_i e1 e2; cases hl
   exact .inr (zG fun lp ex fl a σ σ' v h hj base ρ A W hs ha hb hn => Xn ho e1 e2 h hs ha)
  ·cases hl
 ·rename_i t name xs cs ho
  split at hl
  ·rename_i e1 e2 e0; cases hl
   have e3 : xs = #[] := by simpa using e2
   have e4 : cs = #[] := by simpa using e0
   subst e3; subst e4
   exact .inr (zG fun lp ex fl a σ σ' v h hj base ρ A W hs ha hb hn => op_via ho h hs ha)
  ·cases hl
 ·rename_i t ho
  cases hl
  exact .inr (zG fun lp ex fl a σ σ' v h hj base ρ A W hs ha hb hn => Ya (a := a) ho h hs hb (hn _ (Nat.le_refl _) (by cases h; simp [HS.new])))
 ·rename_i t l c ho
  split at hl
  ·rename_i e hu
   split at hl
   ·rename_i b s z l' c' e1 e2 e3 e4 e5
    rw [yD] at hl
    split at hl
    ·rename_i hzl
     cases hl
     refine .inr (zG fun lp ex fl a σ σ' v h hj base ρ A W hs ha hb hn => kQ ho hu e1 e2 e3 hzl e4 e5 h hs ha hb (hn _ (Nat.le_refl _) ?_))
     have h' : oMakeSlice z.cells b l' c' a σ = some (v, σ') := h
     unfold oMakeSlice at h'
     split at h'
     ·rename_i m n _ _
      cases hcond : (Nat.ble m n && Nat.ble (n * b) 35184372088832 && Nat.ble n 35184372088832) with
      | false => rw [hcond] at h'; cases h'
      | true => rw [hcond] at h'; cases h'; simp [HS.new]
     ·cases h'
    ·cases hl
   ·cases hl
  ·cases hl
 ·rename_i t x lo hi ho
  split at hl
  ·rename_i e hu
   split at hl
   ·rename_i e1 e2 e3 e4; cases hl
    exact .inr (zG fun lp ex fl a σ σ' v h hj base ρ A W hs ha hb hn => Zb ho hu e1 e2 e3 e4 h hs ha hn)
   ·cases hl
  ·rename_i n e hu
   split at hl
   ·rename_i e1 e2 e3 e4; cases hl
    exact .inr (zG fun lp ex fl a σ σ' v h hj base ρ A W hs ha hb hn => Zc ho hu e1 e2 e3 e4 h hs ha)
   ·cases hl
  ·cases hl
 ·rename_i t x f ho
  split at hl
  ·rename_i fs hu
   split at hl
   ·rename_i fd hf
    split at hl
    ·rename_i e1 e2; cases hl
     exact .inr (zG fun lp ex fl a σ σ' v h hj base ρ A W hs ha hb hn => kR ho hu hf e1 e2 h hs ha)
    ·cases hl
   ·cases hl
  ·cases hl
 ·rename_i t x f ho
  split at hl
  ·rename_i fs hu
   split at hl
   ·rename_i fd hf
    split at hl
    ·rename_i e1 e2 e3; cases hl
     exact .inr (zG fun lp ex fl a σ σ' v h hj base ρ A W hs ha hb hn => op_field ho hu hf e1 e2 e3 h hs ha)
    ·cases hl
   ·cases hl
  ·cases hl
 ·rename_i t x i ho
  split at hl
  ·rename_i e hu
   split at hl
   ·rename_i e1 e2 e3; cases hl
    exact .inr (zG fun lp ex fl a σ σ' v h hj base ρ A W hs ha hb hn => kb ho hu e1 e2 e3 h hs ha)
   ·cases hl
  ·rename_i len e hu
   split at hl
   ·rename_i e1 e2 e3; cases hl
    exact .inr (zG fun lp ex fl a σ σ' v h hj base ρ A W hs ha hb hn => kc ho hu e1 e2 e3 h hs ha)
   ·cases hl
  ·cases hl
 ·rename_i t x i ho
  split at hl
  ·rename_i len e hu
   split at hl
   ·rename_i e1 e2 e3 e4; cases hl
    exact .inr (zG fun lp ex fl a σ σ' v h hj base ρ A W hs ha hb hn => Ze ho hu e1 e2 e3 e4 h hs ha)
   ·cases hl
  ·cases hl
 ·rename_i t m k ok ho
  split at hl
  ·rename_i kt e hu
   split at hl
   ·rename_i e1 e2 e3 e4; cases hl
    exact .inr (zG fun lp ex fl a σ σ' v h hj base ρ A W hs ha hb hn => Zd ho hu e1 e2 e3 e4 h hs ha)
   ·cases hl
  ·cases hl
 ·rename_i t m k w ho
  split at hl
  ·rename_i kt e hu
   split at hl
   ·rename_i e1 e2 e3 e4; cases hl
    exact .inr (zG fun lp ex fl a σ σ' v h hj base ρ A W hs ha hb hn => uF (.inl ho) hu e1 e2 e3 e4 h hs ha hj)
   ·cases hl
  ·cases hl
 ·rename_i t m k w ho
  split at hl
  ·rename_i kt e hu
   split at hl
   ·rename_i e1 e2 e3 e4; cases hl
    exact .inr (zG fun lp ex fl a σ σ' v h hj base ρ A W hs ha hb hn => uF (.inr ho) hu e1 e2 e3 e4 h hs ha hj)
   ·cases hl
  ·cases hl
 ·rename_i x i ho
  simp only [Option.map_eq_some_iff] at hl
  obtain ⟨y, hy, rfl⟩ := hl
  exact .inr (zG fun lp ex fl a σ σ' v h hj base ρ A W hs ha hb hn => Yc ho hy h hs ha)
 ·rename_i f xs ts ho
  split at hl
  ·rename_i e1 e2; cases hl
   exact .inl ⟨_, _, f, xs, ts, rfl, ho, e1, e2⟩
  ·cases hl
 ·rename_i b xs ts ho
  split at hl
  ·rename_i y t e1 e2
   split at hl
   ·rename_i hu; cases hl
    exact .inr (zG fun lp ex fl a σ σ' v h hj base ρ A W hs ha hb hn => Yb (k := .str) ho e1 e2 hu h hs ha)
   ·rename_i hu; cases hl
    exact .inr (zG fun lp ex fl a σ σ' v h hj base ρ A W hs ha hb hn => Yb (k := .slice) ho e1 e2 ⟨_, hu⟩ h hs ha)
   ·rename_i hu; cases hl
    exact .inr (zG fun lp ex fl a σ σ' v h hj base ρ A W hs ha hb hn => Yb (k := .map) ho e1 e2 ⟨_, _, hu⟩ h hs ha)
   ·cases hl
  ·rename_i y t e1 e2
   split at hl
   ·rename_i hu; cases hl
    exact .inr (zG fun lp ex fl a σ σ' v h hj base ρ A W hs ha hb hn => op_cap ho e1 e2 hu h hs ha)
   ·cases hl
  ·rename_i ys e1; cases hl
   exact .inr (zG fun lp ex fl a σ σ' v h hj base ρ A W hs ha hb hn => op_min ho e1 h hs ha)
  ·rename_i ys e1; cases hl
   exact .inr (zG fun lp ex fl a σ σ' v h hj base ρ A W hs ha hb hn => op_max ho e1 h hs ha)
  ·rename_i y z t e1 e2
   split at hl
   ·rename_i e e' hu0 hu1
    simp only [Option.bind_eq_some_iff] at hu1
    obtain ⟨t1, ht1, hu1⟩ := hu1
    split at hl
    ·rename_i sz by_ zv e3 e4 e5
     rw [yD] at hl
     split at hl
     ·rename_i hzl
      cases hl
      exact .inr (zG fun lp ex fl a σ σ' v h hj base ρ A W hs ha hb hn => Zf ho e1 e2 ht1 hu0 hu1 e3 e4 e5 hzl h hs ha hb hn hj)
     ·cases hl
    ·cases hl
   ·rename_i e k hu0 hu1
    simp only [Option.bind_eq_some_iff] at hu1
    obtain ⟨t1, ht1, hu1⟩ := hu1
    split at hl
    ·rename_i sz by_ zv e3 e4 e5
     rw [yD] at hl
     split at hl
     ·rename_i hzl
      cases hl
      exact .inr (zG fun lp ex fl a σ σ' v h hj base ρ A W hs ha hb hn => Ye ho e1 e2 ht1 hu0 hu1 e3 e4 e5 hzl h hs ha hb hn)
     ·cases hl
    ·cases hl
   ·cases hl
  ·rename_i t e1 e2
   split at hl
   ·rename_i e hu0
    simp only [Option.map_eq_some_iff] at hl
    obtain ⟨sz, e3, rfl⟩ := hl
    exact .inr (zG fun lp ex fl a σ σ' v h hj base ρ A W hs ha hb hn => op_copy ho e1 e2 hu0 e3 h hs ha hj)
   ·cases hl
  ·cases hl
 ·cases hl
end Go.Hx

namespace Go.Hx
variable {P : Program}
def FR (R : Option Nat) : Fence := { Fence.wide with round := R }
def exitOf : HExit → Exit
 | .normal => .normal
 | .exit id => .exit id
 | .ret => .ret
def RdOk (ρ : Rho) : Option Nat → Option Nat → Prop
 | none, none => True
 | some l, some L => ∃ r, ρ l = some r ∧ r.blk = L
 | _, _ => False
theorem RdOk.mono {ρ ρ' : Rho} (hle : Rho.le ρ ρ') {rd R : Option Nat} (h : RdOk ρ rd R) : RdOk ρ' rd R := by
 cases rd <;> cases R <;> first | trivial | exact h | (obtain ⟨r, h1, h2⟩ := h; exact ⟨r, hle _ _ h1, h2⟩)
def Dom (σ : HS) : Prop := ∀ b x, σ.h.get b = some x → b < σ.nx
theorem HF.dom {fl : Nat} {σ σ' : HS} (h : HF fl σ.nx σ'.nx σ.h.get σ'.h.get) (hd : Dom σ) : Dom σ' := fun b x hx => by
 by_cases hb : b < σ'.nx
 ·exact hb
 ·rw [h.high b (by omega)] at hx
  have := hd b x hx
  have := h.le
  omega
structure In (P : Program) (base : Nat) (σ σ' : HS) (ρ : Rho) (W : World) : Prop where
 low : base ≤ W.heap.size
 sim : Sim P base σ.h.get ρ W
 fresh : ∀ b, σ.nx ≤ b → b < σ'.nx → ρ b = none
abbrev PostS (P : Program) (base fl : Nat) (σ σ' : HS) (ρ ρ' : Rho) (W W' : World) : Prop := Post P base fl σ.nx σ'.nx σ.h.get σ'.h.get ρ ρ' W W'
abbrev HFS (fl : Nat) (σ σ' : HS) : Prop := HF fl σ.nx σ'.nx σ.h.get σ'.h.get
theorem In.next {base fl : Nat} {σ σ1 σ' : HS} {ρ ρ1 : Rho} {W W1 : World} (h : In P base σ σ' ρ W) (p : PostS P base fl σ σ1 ρ ρ1 W W1) (hf : σ.nx ≤ σ1.nx) : In P base σ1 σ' ρ1 W1 :=
 ⟨Nat.le_trans h.low p.size, p.sim, fun b h1 h2 => by rw [p.out b (.inr h1)]; exact h.fresh b (by omega) h2⟩
theorem In.less {base : Nat} {σ σ1 σ' : HS} {ρ : Rho} {W : World} (h : In P base σ σ' ρ W) (hn : σ1.nx ≤ σ'.nx) : In P base σ σ1 ρ W :=
 ⟨h.low, h.sim, fun b h1 h2 => h.fresh b h1 (by omega)⟩
def ExSound (P : Program) (ex : Ex) : Prop :=
 ∀ (c : Code) (fl : Nat) (rd : Option Nat) (a : HAct) (σ : HS) (e : HExit) (a' : HAct) (σ' : HS), ex fl rd (lowC P c) a σ = some (e, a', σ') → Dom σ →
  ∀ (base : Nat) (ρ : Rho) (A : Act) (W : World) (R : Option Nat), In P base σ σ' ρ W → AR ρ a A → RdOk ρ rd R →
   HFS fl σ σ' ∧ c.wpIn (FR R) 0 P (fun E A' W' => ∃ ρ', PostS P base fl σ σ' ρ ρ' W W' ∧ E = exitOf e ∧ AR ρ' a' A') A W
def ExLe (ex : Ex) : Prop := ∀ (fl : Nat) (rd : Option Nat) (lc : ze) (a : HAct) (σ : HS) (e : HExit) (a' : HAct) (σ' : HS), ex fl rd lc a σ = some (e, a', σ') → σ.nx ≤ σ'.nx
def SpecOk (P : Program) (f : Nat) (g : List HV → HS → Option (HV × HS)) : Prop := ∀ (args : List HV) (σ : HS) (v : HV) (σ' : HS), g args σ = some (v, σ') → Dom σ → ∀ (fl base : Nat) (ρ : Rho) (Args : Array Value) (W : World), In P base σ σ' ρ W → LR ρ args Args.toList →
 HFS fl σ σ' ∧ (∃ fn, P.funcs[f]? = some fn ∧ fn.body.isSome = true ∧ (fn.name == "runtime.NumGoroutine") = false) ∧
 CallsIn (FR none) 0 P f Args W (fun E W' => ∃ V ρ', E = .returned V ∧ VR ρ' v V ∧ PostS P base fl σ σ' ρ ρ' W W')
def LpOk (P : Program) (lp : Nat → Option zp) : Prop := ∀ f lf, lp f = some lf → (∀ g, lf.spec = some g → SpecOk P f g) ∧ (lf.spec = none → ∃ fn c, P.funcs[f]? = some fn ∧ fn.body = some c ∧ (fn.name == "runtime.NumGoroutine") = false ∧ lf.nt = fn.ntmps ∧ lf.body = lowC P c ∧ lowRes P fn.results.toList = some lf.res) ∧ (∀ t name r, lf.via t name = some r → viaOff P t name = some r)
theorem YU {imps : List Nat} : LpOk P (lowP P imps) := by
 intro f lf h
 simp only [lowP, Option.bind_eq_some_iff] at h
 obtain ⟨fn, h1, h2⟩ := h
 unfold lowF at h2
 split at h2
 ·rename_i c rs h3 h4
  cases hn : (fn.name == "runtime.NumGoroutine") with
  | true => rw [hn] at h2; cases h2
  | false => rw [hn] at h2; cases h2; exact ⟨fun g hg => (by cases hg), fun _ => ⟨fn, c, h1, h3, hn, rfl, rfl, h4⟩, fun _ _ _ h => h⟩
 ·cases h2
theorem yx : ∀ (vs : List HV) (t : Tr HV) (i j : Nat), (putAll t i vs).get j = if i ≤ j ∧ j < i + vs.length then vs[j - i]? else t.get j
 | [], t, i, j => by simp only [putAll, List.length_nil]; rw [if_neg (by omega)]
 | v :: vs, t, i, j => by
  simp only [putAll, yx vs, Tr.get_set, List.length_cons]
  by_cases e : j = i
  ·subst e; rw [if_neg (by omega), if_pos rfl, if_pos (by omega)]; simp
  ·by_cases h : i + 1 ≤ j ∧ j < i + 1 + vs.length
   ·rw [if_pos h, if_pos (by omega)]
    have : j - i = (j - (i + 1)) + 1 := by omega
    rw [this]; simp
   ·rw [if_neg h, if_neg e, if_neg (by omega)]
theorem ar_enter {ρ : Rho} {args : List HV} {Args : Array Value} {nt : Nat} (h : LR ρ args Args.toList) :
  AR ρ ⟨Nat.max nt args.length, putAll .e 0 args, []⟩ { tmps := Args ++ Array.replicate (nt - Args.size) Go.undef, defers := [] } := by
 have hl : args.length = Args.size := by have := h.1; simpa using this
 refine ⟨⟨?_, fun t => ?_⟩, rfl, fun m hm => by cases hm⟩
 ·simp only [Array.size_append, Array.size_replicate]
  show _ = max nt args.length
  omega
 ·rw [yx]
  by_cases ht : t < args.length
  ·rw [if_pos (by omega)]
   have h1 : args[t - 0]? = some args[t] := by simp [ht]
   have h2 : Args.toList[t]? = some Args[t] := by simp [hl ▸ ht]
   rw [h1]
   have : (Args ++ Array.replicate (nt - Args.size) Go.undef).getD t Go.undef = Args[t] := by
    simp [Array.getD_eq_getD_getElem?, Array.getElem?_append, hl ▸ ht]
   rw [this]
   exact h.2 t _ _ (by simpa using h1) h2
  ·rw [if_neg (by omega), Tr.get_e]
   have : (Args ++ Array.replicate (nt - Args.size) Go.undef).getD t Go.undef = Go.undef := by
    rw [Array.getD_eq_getD_getElem?, Array.getElem?_append, if_neg (by omega), Array.getElem?_replicate]
    split <;> rfl
   rw [this]
   exact VR.undef ρ
theorem jD {base fl : Nat} {ρ : Rho} {fn : Func} {T : Array Value} {R : Ending → World → Prop} : ∀ (ms : List Nat) (σ σ' : HS) (W : World), takeMarks fl ms σ = some σ' → Dom σ → Sim P base σ.h.get ρ W →
  (∀ m ∈ ms, (ρ m).isSome = true) → HFS fl σ σ' ∧ σ'.nx = σ.nx ∧ ∃ W', PostS P base fl σ σ' ρ ρ W W' ∧ ((LeavesInM (FR none) 0 P fn T R [] .returning W') → LeavesInM (FR none) 0 P fn T R (ms.map fun m => ⟨.collected ((ρ m).elim 0 RI.blk), #[]⟩) .returning W)
 | [], σ, σ', W, h, hd, hs, hm => by
  cases h
  exact ⟨HF.refl _ _ _, rfl, W, Post.refl hs, fun h => h⟩
 | m :: ms, σ, σ', W, h, hd, hs, hm => by
  unfold takeMarks at h
  split at h
  ·rename_i hmk
   cases hfl : Nat.ble fl m with
   | false => rw [hfl] at h; cases h
   | true =>
    rw [hfl] at h
    simp only [cond_true] at h
    have hfl := Nat.le_of_ble_eq_true hfl
    obtain ⟨r, hr, hw, hbase⟩ := hs.ok _ _ hmk
    have hlt := (Array.getElem?_eq_some_iff.1 hw).1
    have p1 : PostS P base fl σ (σ.upd m none) ρ ρ W (W.putObj r.blk (.deferred none)) :=
     yZ hs hmk rfl hfl hr (HS.get_upd σ _ _) rfl rfl rfl (uN hw rfl) (by simp) (fun k _ hk => World.putObj_heap_other hk) (fun z hz => by cases hz)
    have f1 : HFS fl σ (σ.upd m none) := y7 hfl (hd _ _ hmk) (HS.get_upd σ _ _)
    obtain ⟨f2, e2, W', p2, hl⟩ := jD ms (σ.upd m none) σ' _ h (f1.dom hd) p1.sim (fun m hm' => hm m (List.mem_cons_of_mem _ hm'))
    refine ⟨f1.trans f2, e2, W', Post.trans f1.le f2.le p1 p2, fun h => ?_⟩
    simp only [List.map_cons, LeavesInM]
    refine ⟨by simp, .inl ⟨r.blk, _, by simp [hr], run_takeDeferred hw, hl h⟩⟩
  ·cases h
def resOne (T : Array Value) : ResultVar → Sem Value
 | .tmp t => pure (T.getD t Go.undef)
 | .cell a t => do loadVar t (← asAddr (T.getD a Go.undef))
theorem X6 (fn : Func) (T : Array Value) : results fn T = (do let vs ← fn.results.mapM (resOne T); pure (if h : vs.size = 1 then vs[0] else .tuple vs)) := rfl
theorem X7 {base : Nat} {σ : HS} {ρ : Rho} {W : World} {a : HAct} {T : Array Value} (hs : Sim P base σ.h.get ρ W) (ht : ∀ t, VR ρ (a.tmp t) (T.getD t Go.undef)) : ∀ (rs : List ResultVar) (lrs : List LRes) (vs : List HV), lowRes P rs = some lrs → resH a σ lrs = some vs →
  ∃ U : List Value, LR ρ vs U ∧ (rs.mapM (resOne T)).run P W = .ok U W
 | [], lrs, vs, h1, h2 => by
  cases h1
  cases h2
  exact ⟨[], LR.nil ρ, by simp⟩
 | .tmp t :: rs, lrs, vs, h1, h2 => by
  simp only [lowRes, Option.map_eq_some_iff] at h1
  obtain ⟨lrs', h1, rfl⟩ := h1
  unfold resH at h2
  split at h2
  ·rename_i vs' h3
   cases h2
   obtain ⟨U, hU, hr⟩ := X7 hs ht rs lrs' vs' h1 h3
   exact ⟨_ :: U, LR.cons (ht t) hU, by simp only [List.mapM_cons, resOne, Sem.run_bind, Sem.run_pure, Result.andThen_ok, hr]⟩
  ·cases h2
 | .cell x t :: rs, lrs, vs, h1, h2 => by
  have key : ∀ (g : Bool) (n0 : Nat) (lrs' : List LRes), aggOf P t = some g → szOf P t = some n0 → lowRes P rs = some lrs' → lrs = .cell x g (if g then n0 else 1) :: lrs' →
    ∃ U : List Value, LR ρ vs U ∧ ((ResultVar.cell x t :: rs).mapM (resOne T)).run P W = .ok U W := by
   intro g n0 lrs' hg hz hl he
   subst he
   unfold resH at h2
   split at h2
   ·rename_i p hp
    obtain ⟨b, q⟩ := p
    have hx := ht x
    rw [hp] at hx
    obtain ⟨r, hr, hV⟩ := vM hx
    split at h2
    ·rename_i cs vs' hc h3
     split at h2
     ·rename_i w hw
      cases h2
      obtain ⟨U, hU, hrun⟩ := X7 hs ht rs lrs' vs' hl h3
      obtain ⟨r', C, hr', hC, hl1, hl2, hcell⟩ := uC hs hc
      rw [hr] at hr'; cases hr'
      obtain ⟨i, hi, hi2⟩ := zV hz
      cases g with
      | true =>
       have hw : w = .agg cs := by simpa [whole] using hw.symm
       subst hw
       have hl1 : C.length = n0 := hl1
       refine ⟨.agg C.toArray :: U, LR.cons (VR.aggL hC) hU, ?_⟩
       have h0 : (resOne T (.cell x t)).run P W = .ok (.agg C.toArray) W := by
        simp only [resOne, Sem.run_bind, hV, asAddr, Sem.run_pure, Result.andThen_ok, loadVar, va hg, if_true, zH hi, hi2, yz hl1 hcell]
       simp only [List.mapM_cons, Sem.run_bind, h0, Sem.run_pure, Result.andThen_ok, hrun]
      | false =>
       have hw : ∃ u, cs = [u] ∧ u = w := by
        rcases cs with _ | ⟨u, _ | ⟨u2, rest⟩⟩
        ·simp [whole] at hw
        ·exact ⟨u, rfl, by simpa [whole] using hw⟩
        ·simp [whole] at hw
       obtain ⟨u, rfl, rfl⟩ := hw
       obtain ⟨u', C', rfl, hv, _⟩ := LR.inv hC
       have hcell0 := hcell 0 u' rfl
       refine ⟨u' :: U, LR.cons hv hU, ?_⟩
       have h0 : (resOne T (.cell x t)).run P W = .ok u' W := by
        simp only [resOne, Sem.run_bind, hV, asAddr, Sem.run_pure, Result.andThen_ok, loadVar, va hg, Bool.false_eq_true, if_false, run_load, show W.cell? ⟨r.blk, r.off + q, none⟩ = some u' from hcell0]
       simp only [List.mapM_cons, Sem.run_bind, h0, Sem.run_pure, Result.andThen_ok, hrun]
     ·cases h2
    ·cases h2
   ·cases h2
  unfold lowRes at h1
  split at h1
  ·rename_i n rs' e1 e2 e3; cases h1; exact key true n rs' e1 e2 e3 rfl
  ·rename_i n rs' e1 e2 e3; cases h1; exact key false n rs' e1 e2 e3 rfl
  ·cases h1
theorem X5 {base : Nat} {σ : HS} {ρ : Rho} {W : World} {a : HAct} {T : Array Value} {fn : Func} {lrs : List LRes} {vs : List HV} (hs : Sim P base σ.h.get ρ W) (ht : ∀ t, VR ρ (a.tmp t) (T.getD t Go.undef)) (h1 : lowRes P fn.results.toList = some lrs) (h2 : resH a σ lrs = some vs) :
  ∃ V, (results fn T).run P W = .ok V W ∧ VR ρ (oneOf vs) V := by
 obtain ⟨U, hU, hr⟩ := X7 hs ht _ _ _ h1 h2
 have hr' : (fn.results.mapM (resOne T)).run P W = .ok U.toArray W := by
  rw [Array.mapM_eq_mapM_toList]
  simp only [Sem.run_map, hr, Result.andThen_ok]
 have hr2 : (results fn T).run P W = .ok (if h : U.toArray.size = 1 then U.toArray[0] else .tuple U.toArray) W := by
  rw [X6]
  simp only [Sem.run_bind, hr', Result.andThen_ok, Sem.run_pure]
 refine ⟨_, hr2, ?_⟩
 have hlen := hU.1
 rcases vs with _ | ⟨v, _ | ⟨v2, vs⟩⟩
 ·rw [dif_neg (by simp at hlen; simp [← hlen])]
  exact VR.tupleL hU
 ·obtain ⟨u, U', rfl, hu, hU'⟩ := LR.inv hU
  have := LR.inv_nil hU'
  subst this
  simpa [oneOf] using hu
 ·rw [dif_neg (by simp at hlen; simp [← hlen])]
  exact VR.tupleL hU
end Go.Hx

namespace Go.Hx
variable {P : Program} {lp : Nat → Option zp} {ex : Ex}
theorem y9 {fl : Nat} : ∀ (ms : List Nat) (σ σ' : HS), takeMarks fl ms σ = some σ' → σ'.nx = σ.nx
 | [], σ, σ', h => by cases h; rfl
 | m :: ms, σ, σ', h => by
  unfold takeMarks at h
  split at h
  ·cases hfl : Nat.ble fl m with
   | false => rw [hfl] at h; cases h
   | true => rw [hfl] at h; exact (y9 ms _ σ' h).trans rfl
  ·cases h
theorem uv {fl : Nat} {a : HAct} {res : List LRes} {σ σ' : HS} {v : HV} (h : leaveH fl a res σ = some (v, σ')) : ∃ vs, takeMarks fl a.defers σ = some σ' ∧ resH a σ' res = some vs ∧ v = oneOf vs := by
 unfold leaveH at h
 split at h
 ·rename_i σ1 h1
  split at h
  ·rename_i vs h2; cases h; exact ⟨vs, h1, h2, rfl⟩
  ·cases h
 ·cases h
theorem XI (hle : ExLe ex) {fl : Nat} {lf : zp} {args : List HV} {σ σ' : HS} {v : HV} (h : callB ex fl lf args σ = some (v, σ')) : σ.nx ≤ σ'.nx := by
 unfold callB at h
 split at h
 ·rename_i hrun
  obtain ⟨vs, hm, _, _⟩ := uv h
  rw [y9 _ _ _ hm]; exact hle _ _ _ _ _ _ _ _ hrun
 ·rename_i hrun
  obtain ⟨vs, hm, _, _⟩ := uv h
  rw [y9 _ _ _ hm]; exact hle _ _ _ _ _ _ _ _ hrun
 ·cases h
theorem jF {g : List HV → HS → Option (HV × HS)} {args : List HV} {σ σ' : HS} {v : HV} (h : specH g args σ = some (v, σ')) : g args σ = some (v, σ') ∧ σ.nx ≤ σ'.nx := by
 unfold specH at h
 split at h
 ·rename_i v1 σ1 h1
  cases hb : Nat.ble σ.nx σ1.nx with
  | false => rw [hb] at h; cases h
  | true => rw [hb] at h; cases h; exact ⟨h1, Nat.le_of_ble_eq_true hb⟩
 ·cases h
theorem specH_le {g : List HV → HS → Option (HV × HS)} {args : List HV} {σ σ' : HS} {v : HV} (h : specH g args σ = some (v, σ')) : σ.nx ≤ σ'.nx := (jF h).2
theorem uR (hle : ExLe ex) {fl f : Nat} {args : List HV} {σ σ' : HS} {v : HV} (h : callF lp ex fl f args σ = some (v, σ')) : σ.nx ≤ σ'.nx := by
 unfold callF at h
 split at h
 ·cases h
 ·rename_i lf _
  split at h
  ·exact specH_le h
  cases hi : lf.imp with
  | true => rw [hi] at h; exact XI hle h
  | false =>
   rw [hi] at h
   simp only [cond_false] at h
   split at h
   ·rename_i v1 σ1 h1; cases h; have := XI hle h1; exact this
   ·cases h
theorem jm (hlp : LpOk P lp) (hle : ExLe ex) (hex : ExSound P ex) {fl f : Nat} {lf : zp} (hlf : lp f = some lf) (hsp : lf.spec = none) {args : List HV} {σ σ' : HS} {v : HV} (h : callB ex fl lf args σ = some (v, σ')) (hd : Dom σ) :
  ∀ (base : Nat) (ρ : Rho) (Args : Array Value) (W : World), In P base σ σ' ρ W → LR ρ args Args.toList →
   HFS fl σ σ' ∧ (∃ fn, P.funcs[f]? = some fn ∧ fn.body.isSome = true ∧ (fn.name == "runtime.NumGoroutine") = false) ∧
   CallsIn (FR none) 0 P f Args W (fun E W' => ∃ V ρ', E = .returned V ∧ VR ρ' v V ∧ PostS P base fl σ σ' ρ ρ' W W') := by
 unfold callB at h
 ·obtain ⟨fn, c, hf, hb, hname, hnt, hbody, hres⟩ := (hlp f lf hlf).2.1 hsp
  have key : ∀ (e : HExit) (a : HAct) (σ1 : HS), ex fl none lf.body ⟨Nat.max lf.nt args.length, putAll .e 0 args, []⟩ σ = some (e, a, σ1) → (exitOf e = .normal ∨ exitOf e = .ret) → leaveH fl a lf.res σ1 = some (v, σ') →
    ∀ (base : Nat) (ρ : Rho) (Args : Array Value) (W : World), In P base σ σ' ρ W → LR ρ args Args.toList →
     HFS fl σ σ' ∧ (∃ fn, P.funcs[f]? = some fn ∧ fn.body.isSome = true ∧ (fn.name == "runtime.NumGoroutine") = false) ∧
     CallsIn (FR none) 0 P f Args W (fun E W' => ∃ V ρ', E = .returned V ∧ VR ρ' v V ∧ PostS P base fl σ σ' ρ ρ' W W') := by
   intro e a σ1 hrun he hl
   obtain ⟨vs, hm, hr, rfl⟩ := uv hl
   have hnx := y9 _ _ _ hm
   have hle1 := hle _ _ _ _ _ _ _ _ hrun
   rw [hbody] at hrun
   have hsound := hex c fl none _ σ e a σ1 hrun hd
   intro base ρ Args W hin hargs
   have hin1 := hin.less (σ1 := σ1) (by omega)
   rw [hnt] at hsound
   obtain ⟨hf1, hwp⟩ := hsound base ρ _ W none hin1 (ar_enter hargs) trivial
   have hd1 := hf1.dom hd
   have hff : HFS fl σ σ' := by
    -- the marks are taken in a world that the run leads to; of the store alone this says the same
    have : ∀ (ms : List Nat) (s s' : HS), takeMarks fl ms s = some s' → Dom s → HFS fl s s' := by
     intro ms
     induction ms with
     | nil => intro s s' h _; cases h; exact HF.refl _ _ _
     | cons m ms ih =>
      intro s s' h hds
      unfold takeMarks at h
      split at h
      ·rename_i hmk
       cases hfl : Nat.ble fl m with
       | false => rw [hfl] at h; cases h
       | true =>
        rw [hfl] at h
        have f1 : HFS fl s (s.upd m none) := y7 (Nat.le_of_ble_eq_true hfl) (hds _ _ hmk) (HS.get_upd s _ _)
        exact f1.trans (ih _ _ h (f1.dom hds))
      ·cases h
    exact hf1.trans (this _ _ _ hm hd1)
   refine ⟨hff, ⟨fn, hf, by simp [hb], hname⟩, ?_⟩
   refine callsIn_of_wp_marks hf hb trivial (wpIn_mono hwp ?_)
   rintro E A' W' ⟨ρ', hp, rfl, ha⟩
   have leave : LeavesInM (FR none) 0 P fn A'.tmps (fun E W' => ∃ V ρ', E = .returned V ∧ VR ρ' (oneOf vs) V ∧ PostS P base fl σ σ' ρ ρ' W W') A'.defers .returning W' := by
    rw [ha.defers]
    obtain ⟨g1, g2, W2, g3, g4⟩ := jD (fn := fn) (T := A'.tmps) (R := fun E W' => ∃ V ρ', E = .returned V ∧ VR ρ' (oneOf vs) V ∧ PostS P base fl σ σ' ρ ρ' W W') a.defers σ1 σ' W' hm hd1 hp.sim ha.marks
    refine g4 ?_
    obtain ⟨V, hV, hv⟩ := X5 (fn := fn) g3.sim ha.tmps.2 hres hr
    exact ⟨V, hV, V, ρ', rfl, hv, Post.trans hf1.le g1.le hp g3⟩
   rcases he with he | he <;> rw [he] <;> exact leave
  split at h
  ·rename_i a σ1 hrun
   exact key .normal a σ1 hrun (.inl rfl) h
  ·rename_i a σ1 hrun
   exact key .ret a σ1 hrun (.inr rfl) h
  ·cases h
def Kept (h1 : Tr HBlk) (nx : Nat) (h h' : Tr HBlk) : Prop := ∀ b, (b < nx → h'.get b = h.get b) ∧ ∀ x, h'.get b = some x → h.get b = some x ∨ (nx ≤ b ∧ h1.get b = some x)
theorem Kept.refl (h1 : Tr HBlk) (nx : Nat) (h : Tr HBlk) : Kept h1 nx h h := fun _ => ⟨fun _ => rfl, fun _ hx => .inl hx⟩
theorem Kept.trans {h1 : Tr HBlk} {nx : Nat} {h h' h'' : Tr HBlk} (a : Kept h1 nx h h') (c : Kept h1 nx h' h'') : Kept h1 nx h h'' := fun b =>
 ⟨fun hb => ((c b).1 hb).trans ((a b).1 hb), fun x hx => by
  rcases (c b).2 x hx with h3 | h3
  ·exact (a b).2 x h3
  ·exact .inr h3⟩
theorem jX {h1 : Tr HBlk} {nx : Nat} (h : Tr HBlk) {c : Nat} {y : HBlk} (hc : Nat.blt c nx = false) (hy : h1.get c = some y) : Kept h1 nx h (h.set c (some y)) := by
 have hc' : nx ≤ c := by
  rcases Nat.lt_or_ge c nx with hlt | hge
  ·rw [← Nat.blt_eq] at hlt; rw [hlt] at hc; cases hc
  ·exact hge
 intro b
 rw [Tr.get_set]
 by_cases e : b = c
 ·subst e; exact ⟨fun hb => by omega, fun x hx => by rw [if_pos rfl] at hx; cases hx; exact .inr ⟨hc', hy⟩⟩
 ·rw [if_neg e]; exact ⟨fun _ => rfl, fun x hx => .inl hx⟩
theorem kept_v (h1 : Tr HBlk) (nx : Nat) {k : List HV → Tr HBlk → Tr HBlk} (hk : ∀ vs h, Kept h1 nx h (k vs h)) (h : Tr HBlk) (v : HV) : Kept h1 nx h (keepV h1 nx k h v) := by
 unfold keepV
 split
 ·rename_i c _ _ _
  cases hc : Nat.blt c nx with
  | true => exact Kept.refl _ _ _
  | false =>
   simp only [cond_false]
   split
   ·rename_i hg; exact (jX h hc hg).trans (hk _ _)
   ·exact Kept.refl _ _ _
 ·rename_i c _
  cases hc : Nat.blt c nx with
  | true => exact Kept.refl _ _ _
  | false =>
   simp only [cond_false]
   split
   ·rename_i hg; exact (jX h hc hg).trans (hk _ _)
   ·exact Kept.refl _ _ _
 ·rename_i c
  cases hc : Nat.blt c nx with
  | true => exact Kept.refl _ _ _
  | false =>
   simp only [cond_false]
   split
   ·rename_i hg; exact (jX h hc hg).trans (hk _ _)
   ·exact Kept.refl _ _ _
 ·exact hk _ _
 ·exact hk _ _
 ·exact hk _ _
 ·exact Kept.refl _ _ _
theorem Yj (h1 : Tr HBlk) (nx : Nat) : ∀ (d : Nat) (vs : List HV) (h : Tr HBlk), Kept h1 nx h (keepD h1 nx d vs h)
 | 0, vs, h => Kept.refl _ _ _
 | d + 1, [], h => Kept.refl _ _ _
 | d + 1, v :: vs, h => by
  unfold keepD
  rw [List.foldl_cons]
  exact (kept_v h1 nx (Yj h1 nx d) h v).trans (Yj h1 nx (d + 1) vs _)
theorem y6 (hlp : LpOk P lp) (hle : ExLe ex) (hex : ExSound P ex) {fl f : Nat} {args : List HV} {σ σ' : HS} {v : HV} (h : callF lp ex fl f args σ = some (v, σ')) (hd : Dom σ) :
  ∀ (base : Nat) (ρ : Rho) (Args : Array Value) (W : World), In P base σ σ' ρ W → LR ρ args Args.toList →
   HFS fl σ σ' ∧ (∃ fn, P.funcs[f]? = some fn ∧ fn.body.isSome = true ∧ (fn.name == "runtime.NumGoroutine") = false) ∧
   CallsIn (FR none) 0 P f Args W (fun E W' => ∃ V ρ', E = .returned V ∧ VR ρ' v V ∧ PostS P base fl σ σ' ρ ρ' W W') := by
 unfold callF at h
 split at h
 ·cases h
 ·rename_i lf hlf
  split at h
  ·rename_i g hg
   intro base ρ Args W hin hargs
   exact (hlp f lf hlf).1 g hg args σ v σ' (jF h).1 hd fl base ρ Args W hin hargs
  rename_i hsp
  cases hi : lf.imp with
  | true => rw [hi] at h; exact jm hlp hle hex hlf hsp h hd
  | false =>
   rw [hi] at h
   simp only [cond_false] at h
   split at h
   ·rename_i v1 σ1 h1
    cases h
    intro base ρ Args W hin hargs
    obtain ⟨hf, hfn, hcall⟩ := jm hlp hle hex hlf hsp h1 hd base ρ Args W ⟨hin.low, hin.sim, hin.fresh⟩ hargs
    have kg : ∀ b, (b < σ.nx → (gcH σ σ1 v).h.get b = σ.h.get b) ∧ ∀ x, (gcH σ σ1 v).h.get b = some x → σ.h.get b = some x ∨ (σ.nx ≤ b ∧ σ1.h.get b = some x) := fun b => Yj _ _ _ _ _ b
    have sub : ∀ b x, (gcH σ σ1 v).h.get b = some x → σ1.h.get b = some x := by
     intro b x hx
     rcases (kg b).2 x hx with h2 | h2
     ·rw [hf.low b (hd _ _ h2) (hd _ _ h2)]; exact h2
     ·exact h2.2
    have hnm : ∀ k, ¬ May σ.nx σ.h.get ρ k := fun k ⟨b, x, r, g1, _, g3, _⟩ => by have := hd _ _ g1; omega
    refine ⟨⟨hf.le, fun b _ hb => (kg b).1 hb, fun b hb => ?_⟩, hfn, hcall.mono ?_⟩
    ·have hb' : σ1.nx ≤ b := hb
     have h0 : σ.h.get b = none := by
      cases e : σ.h.get b with
      | none => rfl
      | some x => have := hd _ _ e; have := hf.le; omega
     cases e : (gcH σ σ1 v).h.get b with
     | none => rw [h0]
     | some x => have h2 := hf.high b hb'; rw [sub b x e, h0] at h2; cases h2
    ·rintro E W' ⟨V, ρ', rfl, hv, hp⟩
     refine ⟨V, ρ', rfl, hv, hp.ext, hp.out, hp.sim.less sub, hp.os, hp.tape, hp.output, hp.frz, hp.size, fun k hk _ => hp.same k hk (hnm k), fun k ⟨b, x, r, g1, g2, g3, g4, g5⟩ => ?_⟩
     rcases (kg b).2 x g1 with g6 | g6
     ·obtain ⟨r0, hr0, _⟩ := (hin.sim.ok b x g6).has
      have : r0 = r := Option.some.inj ((hp.ext b r0 hr0).symm.trans g4)
      subst this
      exact .inr ⟨b, x, r0, g6, g2, g3, hr0, g5⟩
     ·rcases hp.own k ⟨b, x, r, g6.2, g2, g6.1, g4, g5⟩ with g7 | g7
      ·exact .inl g7
      ·exact absurd g7 (hnm k)
   ·cases h
theorem Yx {ρ : Rho} : ∀ (ps : List Nat) (vs : List HV) (nt : Nat) (t t' : Tr HV) (T : Array Value) (U : List Value), zipPut nt t ps vs = some t' → TR ρ nt t T → LR ρ vs U → ps.length = vs.length ∧
  TR ρ nt t' ((ps.zip U).foldl (fun (t : Array Value) (p : Nat × Value) => t.setIfInBounds p.1 p.2) T)
 | [], [], nt, t, t', T, U, h, ht, hu => by
  cases h
  rw [LR.inv_nil hu]
  exact ⟨rfl, ht⟩
 | p :: ps, v :: vs, nt, t, t', T, U, h, ht, hu => by
  obtain ⟨u, U', rfl, hv, hu'⟩ := LR.inv hu
  unfold zipPut at h
  have step : TR ρ nt (bif Nat.blt p nt then t.set p (some v) else t) (T.setIfInBounds p u) := by
   cases hb : Nat.blt p nt with
   | true => exact ht.put (vY hb) hv
   | false =>
    have hd : ¬ p < nt := by intro h; rw [← Nat.blt_eq] at h; rw [h] at hb; cases hb
    have hT : T.setIfInBounds p u = T := by simp [Array.setIfInBounds]; intro h; have := ht.1; omega
    rw [hT]; exact ht
  obtain ⟨h1, h2⟩ := Yx ps vs nt _ t' _ U' h step hu'
  exact ⟨by simp [h1], h2⟩
 | [], _ :: _, _, _, _, _, _, h, _, _ => by cases h
 | _ :: _, [], _, _, _, _, _, h, _, _ => by cases h
theorem begin_ok {base fl l : Nat} {σ σ' : HS} {ρ : Rho} {W : World} (h : beginRoundH fl l σ = some σ') (hd : Dom σ) (hs : Sim P base σ.h.get ρ W) :
  σ'.nx = σ.nx ∧ HFS fl σ σ' ∧ ∃ r W', ρ l = some r ∧ (Instr.beginRound r.blk).run P W = .ok () W' ∧ PostS P base fl σ σ' ρ ρ W W' := by
 unfold beginRoundH at h
 split at h
 ·rename_i q hq
  split at h
  ·rename_i hst
   cases hfl : Nat.ble fl l with
   | false => rw [hfl] at h; cases h
   | true =>
    rw [hfl] at h
    cases h
    have hfl := Nat.le_of_ble_eq_true hfl
    obtain ⟨r, m, L, hr, hw, hb, hm, hdf, hl⟩ := hs.ok _ _ hq
    have hlt := (Array.getElem?_eq_some_iff.1 hw).1
    have hready : L.state = .ready := by rw [hl.state, hst]; rfl
    refine ⟨rfl, y7 hfl (hd _ _ hq) (HS.get_upd σ _ _), r, _, hr, run_beginRound hw hready, ?_⟩
    refine yZ hs hq rfl hfl hr (HS.get_upd σ _ _) rfl rfl rfl (uN hw rfl) (by simp) (fun k _ hk => World.putObj_heap_other hk) (fun z hz => ?_)
    cases hz
    exact ⟨r, m, _, hr, World.putObj_heap_same hlt, hb, hm, hdf, rfl, hl.pending, hl.tmps, hl.params, hl.assign, hl.body⟩
  ·cases h
 ·cases h
theorem end_ok {base fl l : Nat} {σ σ' : HS} {ρ : Rho} {W : World} {e : HExit} {v : HV} (h : endRoundH l e σ = some (v, σ')) (hfl : fl ≤ l) (hd : Dom σ) (hs : Sim P base σ.h.get ρ W) :
  σ'.nx = σ.nx ∧ HFS fl σ σ' ∧ ∃ r V W', ρ l = some r ∧ (Instr.endRound r.blk (jumpOf e)).run P W = .ok V W' ∧ VR ρ v V ∧ PostS P base fl σ σ' ρ ρ W W' := by
 unfold endRoundH at h
 split at h
 ·rename_i q hq
  obtain ⟨r, m, L, hr, hw, hb, hm, hdf, hl⟩ := hs.ok _ _ hq
  have hlt := (Array.getElem?_eq_some_iff.1 hw).1
  have fin : ∀ (st : LState) (pe : HExit), jumpOf pe = jumpOf e → stateOf st = (if (jumpOf e).isNone then .ready else .done) → v = .bool (jumpOf e).isNone → σ' = σ.upd l (some (.loop { q with state := st, pending := pe })) →
    σ'.nx = σ.nx ∧ HFS fl σ σ' ∧ ∃ r V W', ρ l = some r ∧ (Instr.endRound r.blk (jumpOf e)).run P W = .ok V W' ∧ VR ρ v V ∧ PostS P base fl σ σ' ρ ρ W W' := by
   intro st pe h1 h2 h3 h4
   subst h3; subst h4
   refine ⟨rfl, y7 hfl (hd _ _ hq) (HS.get_upd σ _ _), r, _, _, hr, run_endRound (jumpOf e) hw, .bool _, ?_⟩
   refine yZ hs hq rfl hfl hr (HS.get_upd σ _ _) rfl rfl rfl (uN hw rfl) (by simp) (fun k _ hk => World.putObj_heap_other hk) (fun z hz => ?_)
   cases hz
   exact ⟨r, m, _, hr, World.putObj_heap_same hlt, hb, hm, hdf, h2.symm, h1.symm, hl.tmps, hl.params, hl.assign, hl.body⟩
  split at h
  ·cases h; exact fin .ready .normal rfl rfl rfl rfl
  ·rename_i hne
   cases h
   cases e with
   | normal => exact absurd rfl hne
   | exit id => exact fin .done (.exit id) rfl rfl rfl rfl
   | ret => exact fin .done .ret rfl rfl rfl rfl
 ·cases h
end Go.Hx

namespace Go.Hx
variable {P : Program} {lp : Nat → Option zp} {ex : Ex}
theorem uU {R : Option Nat} {c : Code} {Q : Exit → Act → World → Prop} {A : Act} {W : World} (h : c.wpIn (FR R) 0 P Q A W) : ∃ E A' W', Q E A' W' := by
 obtain ⟨E, A', W', hq, _⟩ := h { (default : Frame) with roundOf := R } [] [] rfl trivial (fun _ hd => by simp [FR, Fence.wide] at hd)
 exact ⟨E, A', W', hq⟩
theorem begin_fl {fl l : Nat} {σ σ' : HS} (h : beginRoundH fl l σ = some σ') : fl ≤ l := by
 unfold beginRoundH at h
 split at h
 ·split at h
  ·cases hfl : Nat.ble fl l with
   | false => rw [hfl] at h; cases h
   | true => exact Nat.le_of_ble_eq_true hfl
  ·cases h
 ·cases h
theorem XK {fl l : Nat} {σ σ' : HS} (h : beginRoundH fl l σ = some σ') : σ'.nx = σ.nx := by
 unfold beginRoundH at h
 split at h
 ·split at h
  ·cases hb : Nat.ble fl l with
   | false => rw [hb] at h; cases h
   | true => rw [hb] at h; cases h; rfl
  ·cases h
 ·cases h
theorem end_nx {l : Nat} {e : HExit} {σ σ' : HS} {v : HV} (h : endRoundH l e σ = some (v, σ')) : σ'.nx = σ.nx := by
 unfold endRoundH at h
 split at h
 ·split at h <;> (cases h; rfl)
 ·cases h
theorem jK {fl l : Nat} {args : List HV} {σ σ' : HS} {v : HV} (h : roundH ex fl l args σ = some (v, σ')) :
  ∃ q tmps a1 σ1 σ2 e a3 σ3, σ.h.get l = some (.loop q) ∧ zipPut q.nt q.tmps q.params args = some tmps ∧ ex fl (some l) q.assign ⟨q.nt, tmps, []⟩ σ = some (.normal, a1, σ1) ∧ beginRoundH fl l σ1 = some σ2 ∧
   ex fl (some l) q.body a1 σ2 = some (e, a3, σ3) ∧ endRoundH l e σ3 = some (v, σ') := by
 unfold roundH at h
 split at h
 ·rename_i q hq
  split at h
  ·rename_i tmps hz
   split at h
   ·rename_i a1 σ1 hx1
    split at h
    ·rename_i σ2 hbg
     split at h
     ·rename_i e a3 σ3 hx2
      exact ⟨q, tmps, a1, σ1, σ2, e, a3, σ3, hq, hz, hx1, hbg, hx2, h⟩
     ·cases h
    ·cases h
   ·cases h
  ·cases h
 ·cases h
theorem round_le (hle : ExLe ex) {fl l : Nat} {args : List HV} {σ σ' : HS} {v : HV} (h : roundH ex fl l args σ = some (v, σ')) : σ.nx ≤ σ'.nx := by
 obtain ⟨q, tmps, a1, σ1, σ2, e, a3, σ3, h1, h2, h3, h4, h5, h6⟩ := jK h
 have := hle _ _ _ _ _ _ _ _ h3
 have := hle _ _ _ _ _ _ _ _ h5
 have := XK h4
 have := end_nx h6
 omega
theorem Xf (hle : ExLe ex) (hex : ExSound P ex) {fl l : Nat} {args : List HV} {σ σ' : HS} {v : HV} (h : roundH ex fl l args σ = some (v, σ')) (hd : Dom σ) :
  ∀ (base : Nat) (ρ : Rho) (Args : Array Value) (W : World) (R : Option Nat), In P base σ σ' ρ W → LR ρ args Args.toList →
   HFS fl σ σ' ∧ ∃ (r : RI) (L : Loop), ρ l = some r ∧ W.heap[r.blk]? = some (.loop L) ∧ Args.size = L.params.size ∧
    RoundIn (FR R) 0 P r.blk L.fn ((L.params.zip Args).foldl (fun tmps (t, a) => tmps.setIfInBounds t a) L.tmps) L.assign L.body W
     (fun E W' => ∃ V ρ', E = .returned V ∧ VR ρ' v V ∧ PostS P base fl σ σ' ρ ρ' W W') := by
 obtain ⟨q, tmps, a1, σ1, σ2, e, a3, σ3, hq, hz, hx1, hbg, hx2, hend⟩ := jK h
 intro base ρ Args W R hin hargs
 have le1 := hle _ _ _ _ _ _ _ _ hx1
 have le2 := hle _ _ _ _ _ _ _ _ hx2
 have nx2 := XK hbg
 have nx4 := end_nx hend
 have hfl := begin_fl hbg
 obtain ⟨r, m, L, hr, hw, hb, hm, hdf, hl⟩ := hin.sim.ok _ _ hq
 have ha : q.assign = lowC P L.assign := hl.assign.symm
 have hbo : q.body = lowC P L.body := hl.body.symm
 rw [ha] at hx1
 rw [hbo] at hx2
 have htr : TR ρ q.nt q.tmps L.tmps := hl.tmps
 obtain ⟨hlen, htr'⟩ := Yx q.params args q.nt q.tmps tmps L.tmps Args.toList hz htr hargs
 have hpar := hl.params
 have hsz : Args.size = L.params.size := by
  have e1 := hargs.1
  have e2 : L.params.toList.length = q.params.length := by rw [hpar]
  simp only [Array.length_toList] at e1 e2
  omega
 have hfold : ((L.params.zip Args).foldl (fun tmps (t, a) => tmps.setIfInBounds t a) L.tmps) = ((q.params.zip Args.toList).foldl (fun (t : Array Value) (p : Nat × Value) => t.setIfInBounds p.1 p.2) L.tmps) := by
  rw [← Array.foldl_toList, Array.toList_zip, hpar]
 have hA : AR ρ ⟨q.nt, tmps, []⟩ { tmps := ((L.params.zip Args).foldl (fun tmps (t, a) => tmps.setIfInBounds t a) L.tmps), defers := [] } :=
  ⟨by rw [hfold]; exact htr', rfl, fun m hm => by cases hm⟩
 obtain ⟨f1, w1⟩ := hex L.assign fl (some l) _ σ .normal a1 σ1 hx1 hd base ρ _ W (some r.blk) (hin.less (by omega)) hA ⟨r, hr, rfl⟩
 have d1 := f1.dom hd
 -- what follows says of the store what it says in each world; so it is asked where the first run leads
 have rest : ∀ (ρ1 : Rho) (A1 : Act) (W1 : World), PostS P base fl σ σ1 ρ ρ1 W W1 → AR ρ1 a1 A1 → HFS fl σ σ' ∧
   ∃ W2, (Instr.beginRound r.blk).run P W1 = .ok () W2 ∧ L.body.wpIn (FR (some r.blk)) 0 P (roundPost P r.blk (fun E W' => ∃ V ρ', E = .returned V ∧ VR ρ' v V ∧ PostS P base fl σ σ' ρ ρ' W W')) A1 W2 := by
  intro ρ1 A1 W1 p1 ar1
  obtain ⟨n2, f2, r2, W2, hr2, hrun2, p2⟩ := begin_ok hbg d1 p1.sim
  have hr1 := p1.ext _ _ hr
  rw [hr1] at hr2; cases hr2
  have d2 := f2.dom d1
  have hin2 : In P base σ2 σ3 ρ1 W2 := by
   have i1 : In P base σ1 σ' ρ1 W1 := hin.next p1 le1
   have i2 : In P base σ2 σ' ρ1 W2 := i1.next p2 (by omega)
   exact i2.less (by omega)
  obtain ⟨f3, w3⟩ := hex L.body fl (some l) a1 σ2 e a3 σ3 hx2 d2 base ρ1 A1 W2 (some r.blk) hin2 ar1 ⟨r, hr1, rfl⟩
  have d3 := f3.dom d2
  have f4 : HFS fl σ3 σ' := by
   unfold endRoundH at hend
   split at hend
   ·rename_i q3 hq3
    split at hend <;> (cases hend; exact y7 hfl (d3 _ _ hq3) (HS.get_upd σ3 _ _))
   ·cases hend
  refine ⟨((f1.trans f2).trans f3).trans f4, W2, hrun2, wpIn_mono w3 ?_⟩
  rintro E A3 W3 ⟨ρ3, p3, rfl, ar3⟩
  obtain ⟨n4, f4', r4, V, W4, hr4, hrun4, hv4, p4⟩ := end_ok hend hfl d3 p3.sim
  have hr3 := p3.ext _ _ hr1
  rw [hr3] at hr4; cases hr4
  have pall : PostS P base fl σ σ' ρ ρ3 W W4 := by
   have q1 := Post.trans f1.le f2.le p1 p2
   have q2 := Post.trans (f1.trans f2).le f3.le q1 p3
   exact Post.trans ((f1.trans f2).trans f3).le f4.le q2 p4
  cases e with
  | normal => exact ⟨V, W4, hrun4, V, ρ3, rfl, hv4, pall⟩
  | exit id => exact ⟨V, W4, hrun4, V, ρ3, rfl, hv4, pall⟩
  | ret => exact ⟨V, W4, hrun4, V, ρ3, rfl, hv4, pall⟩
 have hf : HFS fl σ σ' := by
  obtain ⟨E, A1, W1, ρ1, p1, _, ar1⟩ := uU w1
  exact (rest ρ1 A1 W1 p1 ar1).1
 refine ⟨hf, r, L, hr, hw, hsz, roundIn_of_wpIn trivial (wpIn_mono w1 ?_)⟩
 rintro E A1 W1 ⟨ρ1, p1, rfl, ar1⟩
 obtain ⟨_, W2, g1, g2⟩ := rest ρ1 A1 W1 p1 ar1
 exact ⟨W2, g1, g2⟩
def Next1 (P : Program) (base fl : Nat) (σ σ' : HS) (ρ : Rho) (A : Act) (W : World) (dst : Option Nat) (v : HV) (next : Act → World → Prop) : Prop :=
 ∀ (V : Value) (W' : World) (ρ' : Rho), VR ρ' v V → PostS P base fl σ σ' ρ ρ' W W' → next (A.put dst V) W'
theorem kO {fl : Nat} {a : Nat × Nat} {vs : List HV} {σ σ' : HS} (h : σ.write fl a vs = some σ') : σ'.nx = σ.nx := by
 unfold HS.write at h
 split at h
 ·cases h
 ·cases hc : (Nat.ble fl a.1 && vs.all HV.one) with
  | false => rw [hc] at h; cases h
  | true =>
   rw [hc] at h
   simp only [cond_true, Option.map_eq_some_iff] at h
   obtain ⟨cs', _, rfl⟩ := h
   rfl
 ·cases h
theorem copy_le {fl size : Nat} {d s v : HV} {σ σ' : HS} (h : copyH fl σ size d s = some (v, σ')) : σ.nx ≤ σ'.nx := by
 unfold copyH at h
 split at h
 ·split at h
  ·cases h
  ·split at h
   ·cases h; exact Nat.le_refl _
   ·cases h
   ·simp only [Option.map_eq_some_iff] at h
    obtain ⟨σ1, hw, he⟩ := h
    cases he
    rw [kO hw]; exact Nat.le_refl _
 ·cases h
theorem Zl {fl size bytes : Nat} {s x v : HV} {σ σ' : HS} (h : appendH fl σ size bytes s x = some (v, σ')) : σ.nx ≤ σ'.nx := by
 unfold appendH at h
 split at h
 ·split at h
  ·cases h
  ·rename_i news _
   cases h1 : Nat.ble _ _ with
   | true =>
    rw [h1] at h
    simp only [cond_true] at h
    split at h
    ·cases h; exact Nat.le_refl _
    ·cases h
    ·simp only [Option.map_eq_some_iff] at h
     obtain ⟨σ1, hw, he⟩ := h
     cases he
     rw [kO hw]; exact Nat.le_refl _
   | false =>
    rw [h1] at h
    simp only [cond_false] at h
    revert h
    generalize (Nat.ble _ _ && Nat.ble _ _ && Nat.blt 0 size) = c
    intro h
    cases c with
    | false => cases h
    | true =>
     simp only [cond_true] at h
     split at h
     ·rw [yD] at h
      split at h
      ·cases h; simp [HS.new]
      ·cases h
     ·split at h
      ·cases h; simp [HS.new]
      ·revert h
       generalize (Nat.ble _ _ && Nat.beq _ size && Nat.beq _ _ && List.all news HV.one) = c2
       intro h
       cases c2 with
       | false => cases h
       | true => cases h; simp [HS.new, HS.upd]
      ·cases h
 ·cases h
theorem Y2 (hle : ExLe ex) {fl : Nat} {f v : HV} {args : List HV} {σ σ' : HS} (h : callH lp ex fl f args σ = some (v, σ')) : σ.nx ≤ σ'.nx := by
 unfold callH at h
 split at h
 ·exact uR hle h
 ·exact round_le hle h
 ·unfold callV at h
  split at h
  ·exact uR hle h
  ·cases h
 ·cases h
theorem yR {σ σ' : HS} {r : Option HV} {v : HV} (h : keep σ r = some (v, σ')) : σ.nx ≤ σ'.nx := by
 obtain ⟨_, rfl⟩ := ye h; exact Nat.le_refl _
theorem op_le (hle : ExLe ex) {fl : Nat} {l : LOp} {a : HAct} {σ σ' : HS} {v : HV} (h : opH lp ex fl l a σ = some (v, σ')) : σ.nx ≤ σ'.nx := by
 cases l <;> simp only [opH] at h
 case move => cases h; exact Nat.le_refl _
 case pick => unfold oPick at h; split at h <;> cases h; exact Nat.le_refl _
 case alloc => cases h; simp [HS.new]
 case box => cases h; simp [HS.new]
 case build => unfold oBuild at h; split at h <;> cases h; exact Nat.le_refl _
 case buildSlice => unfold oBuildSlice at h; split at h <;> cases h; simp [HS.new]
 case load =>
  unfold oLoad at h
  split at h
  ·split at h
   ·exact yR h
   ·cases h
  ·cases h
 case store =>
  unfold oStore at h
  split at h
  ·rw [yD] at h
   split at h
   ·split at h
    ·rename_i hw; cases h; rw [kO hw]; exact Nat.le_refl _
    ·cases h
   ·cases h
  ·cases h
 case fieldAddr => unfold oFieldAddr at h; split at h <;> cases h; exact Nat.le_refl _
 case indexAddrS =>
  unfold oIndexAddrS at h
  split at h
  ·obtain ⟨_, _, _, _, rfl⟩ := jp h; exact Nat.le_refl _
  ·cases h
 case indexAddrA =>
  unfold oIndexAddrA at h
  split at h
  ·obtain ⟨_, _, _, _, rfl⟩ := jp h; exact Nat.le_refl _
  ·cases h
 case field => unfold oField at h; split at h <;> first | exact yR h | cases h
 case indexA =>
  unfold oIndexA at h
  split at h
  ·revert h
   generalize Nat.blt _ _ = c
   intro h
   cases c with
   | false => cases h
   | true => exact yR h
  ·cases h
 case bin => exact yR h
 case eq => unfold oEq at h; split at h <;> cases h; exact Nat.le_refl _
 case un => exact yR h
 case convInt => unfold oConvInt at h; split at h <;> cases h; exact Nat.le_refl _
 case makeFunc => cases h; exact Nat.le_refl _
 case makeMap => cases h; simp [HS.new]
 case makeSlice =>
  unfold oMakeSlice at h
  split at h
  ·revert h
   generalize (Nat.ble _ _ && Nat.ble _ _ && Nat.ble _ _) = c
   intro h
   cases c with
   | false => cases h
   | true => cases h; simp [HS.new]
  ·cases h
 case sliceS =>
  unfold oSliceS at h
  split at h
  ·cases h; exact Nat.le_refl _
  ·revert h
   generalize endH _ _ _ = c
   intro h
   cases c with
   | false => cases h
   | true => cases h; exact Nat.le_succ _
 case sliceA => exact yR h
 case copy => exact copy_le h
 case lookup =>
  unfold oLookup at h
  revert h
  generalize keyOk _ _ = c
  intro h
  cases c with
  | false => cases h
  | true =>
   simp only [cond_true] at h
   split at h
   ·cases h; exact Nat.le_refl _
   ·split at h
    ·split at h
     ·cases h; exact Nat.le_refl _
     ·cases h; exact Nat.le_refl _
     ·cases h
    ·cases h
   ·cases h
 case mapUpdate =>
  unfold oMapUpdate at h
  revert h
  generalize keyOk _ _ = c
  intro h
  cases c with
  | false => cases h
  | true =>
   simp only [cond_true] at h
   split at h
   ·split at h
    ·revert h
     generalize Nat.ble _ _ = c
     intro h
     cases c with
     | false => cases h
     | true =>
      simp only [cond_true] at h
      split at h
      ·cases h; exact Nat.le_refl _
      ·cases h
    ·cases h
   ·cases h
 case extract => unfold oExtract at h; split at h <;> first | exact yR h | cases h
 case len => exact yR h
 case cap => exact yR h
 case min => exact yR h
 case max => exact yR h
 case append => exact Zl h
 case appendZ => unfold oAppendZ at h; split at h <;> first | (cases h; done) | (revert h; generalize (Nat.blt 0 _ && _ && _ && _) = c; intro h; cases c <;> cases h; exact Nat.le_succ _)
 case nilCheck => unfold oNilCheck at h; split at h <;> cases h <;> exact Nat.le_refl _
 case call => exact Y2 hle h
 case callC =>
  unfold oCallC at h
  split at h
  ·rename_i v1 σ1 h1
   revert h
   generalize chkH _ _ _ = c
   intro h
   cases c with
   | false => cases h
   | true => cases h; exact Y2 hle h1
  ·cases h
 case bad => cases h
theorem vr_yield {ρ : Rho} {l : Nat} {V : Value} (h : VR ρ (.yield l) V) : ∃ r, ρ l = some r ∧ V = .func (.yield r.blk) #[] #[] := by
 cases h with
 | yield h => exact ⟨_, h, rfl⟩
theorem vr_via {ρ : Rho} {t : TypeId} {name : String} {f : Nat} {V : Value} (h : VR ρ (.via t name f) V) : V = .func (.methodOf t name) #[] #[] := by
 cases h with
 | via t name f => rfl
theorem via_of (hlp : LpOk P lp) {f off t : Nat} {name : String} (h : viaOf lp f t name = some off) : viaOff P t name = some (f, off) := by
 unfold viaOf at h
 split at h
 ·rename_i lf hlf
  split at h
  ·rename_i g off' hv
   cases hb : Nat.beq g f with
   | false => rw [hb] at h; cases h
   | true =>
    rw [hb] at h
    cases h
    have := Nat.eq_of_beq_eq_true hb
    subst this
    exact (hlp g lf hlf).2.2 t name _ hv
  ·cases h
 ·cases h
theorem jJ {W : World} : ∀ (path : List FieldStep) (t : TypeId) (a b : Nat) (o off : Nat), viaRest P path t a = some off → ∃ xt, (follow path t (.var ⟨b, o + a, none⟩)).run P W = .ok (xt, .var ⟨b, o + off, none⟩) W ∧ (receiverAt xt (.var ⟨b, o + off, none⟩) true none).run P W = .ok (.pointer (some ⟨b, o + off, none⟩)) W
 | [], t, a, b, o, off, h => by
  unfold viaRest at h
  split at h
  ·cases h
  ·rename_i u hne hu
   cases h
   refine ⟨t, by simp [follow], ?_⟩
   unfold receiverAt
   simp only [Sem.run_bind, zm hu, Result.andThen_ok]
   cases u
   case pointer e => exact (hne e rfl).elim
   all_goals rw [Sem.run_pure]
  ·cases h
 | s :: rest, t, a, b, o, off, h => by
  unfold viaRest at h
  cases hd : s.deref with
  | true => rw [hd] at h; cases h
  | false =>
   rw [hd] at h
   simp only [cond_false] at h
   split at h
   ·rename_i fs hu
    split at h
    ·rename_i fd hf
     split at h
     ·rename_i m hz
      obtain ⟨i, hi, hi2⟩ := zV hz
      obtain ⟨xt, h1, h2⟩ := jJ (W := W) rest fd.type (a + fd.offset) b o off h
      refine ⟨xt, ?_, h2⟩
      simp [follow, zm hu, hf, hd, fieldPlace, zH hi, hi2, yy, Nat.add_assoc]
      exact h1
     ·cases h
    ·cases h
   ·cases h
theorem run_path {W : World} {t : TypeId} {path : Array FieldStep} {b o off : Nat} (h : viaPath P path.toList = some off) : ∃ xt x, (follow path.toList t (.val (.pointer (some ⟨b, o, none⟩)))).run P W = .ok (xt, x) W ∧ (receiverAt xt x true none).run P W = .ok (.pointer (some ⟨b, o + off, none⟩)) W ∧ path.isEmpty = false := by
 have he : path.isEmpty = path.toList.isEmpty := by simp [Array.isEmpty_toList]
 rw [he]
 generalize path.toList = p at h
 cases p with
 | nil => cases h
 | cons s rest =>
  unfold viaPath at h
  dsimp only at h
  cases hd : s.deref with
  | false => rw [hd] at h; cases h
  | true =>
   rw [hd] at h
   simp only [cond_true] at h
   split at h
   ·rename_i fs hu
    split at h
    ·rename_i fd hf
     split at h
     ·rename_i m hz
      obtain ⟨i, hi, hi2⟩ := zV hz
      obtain ⟨xt, h1, h2⟩ := jJ (P := P) (W := W) rest fd.type fd.offset b o off h
      refine ⟨xt, _, ?_, h2, rfl⟩
      simp [follow, zm hu, hf, hd, fieldPlace, zH hi, hi2, yy, Place.get, asAddr, h1]
     ·cases h
    ·cases h
   ·cases h
theorem run_via {W : World} {t : TypeId} {name : String} {f b o off : Nat} (h : viaOff P t name = some (f, off)) (n : Nat) : (method (n + 1) t (.pointer (some ⟨b, o, none⟩)) name).run P W = .ok (f, .pointer (some ⟨b, o + off, none⟩)) W ∧ ∃ e, P.underlying t = some (.pointer e) := by
 unfold viaOff at h
 split at h
 ·rename_i e hu
  split at h
  ·rename_i m hm
   split at h
   ·rename_i g hg
    simp only [Option.map_eq_some_iff, Prod.mk.injEq] at h
    obtain ⟨o', h1, rfl, rfl⟩ := h
    obtain ⟨i, hi, hf⟩ := Option.bind_eq_some_iff.1 hm
    obtain ⟨xt, x, p1, p2, p3⟩ := run_path (P := P) (W := W) (t := t) (b := b) (o := o) h1
    have p4 : m.path ≠ #[] := by intro e; rw [e] at p3; cases p3
    refine ⟨?_, e, hu⟩
    simp [method, vg hi, hf, hg, p1, p2, p4]
   ·cases h
  ·cases h
 ·cases h
theorem XW (hlp : LpOk P lp) (hle : ExLe ex) (hex : ExSound P ex) {o : Oper} {l : LOp} (hl : lowOp P o.op = some l) {fl : Nat} {a : HAct} {σ σ' : HS} {v : HV} (h : opH lp ex fl l a σ = some (v, σ')) (hd : Dom σ) :
  ∀ (base : Nat) (ρ : Rho) (A : Act) (W : World) (R : Option Nat) (next : Act → World → Prop) (Q : Exit → Act → World → Prop), In P base σ σ' ρ W → AR ρ a A →
   HFS fl σ σ' ∧ (Next1 P base fl σ σ' ρ A W o.dst v next → o.wpIn (FR R) 0 P A W next Q) := by
 intro base ρ A W R next Q hin ha
 have about : ∀ f, o.about P W A.eval = some f → (FR R).fn f := fun _ _ => trivial
 have sem : o.semAt R A.eval = execOp A.eval o := Oper.semAt_eq R A.eval o (kU hl)
 rcases op_any hl with hc | hp
 ·obtain ⟨f, args, g, xs, ts, rfl, ho, hg, hxs⟩ := hc
  have h' : callH lp ex fl (a.ev f) (args.map a.ev) σ = some (v, σ') := h
  have vf := zX ha hg
  have vx := ja ha hxs
  unfold callH at h'
  split at h'
  ·rename_i k first captured hf
   rw [hf] at vf
   obtain ⟨F, C, hV, hF, hC⟩ := vz vf
   have hargs : LR ρ (first ++ args.map a.ev ++ captured) (F.toArray ++ (xs.map A.eval) ++ C.toArray).toList := by
    have := LR.append (LR.append hF vx) hC
    simpa using this
   obtain ⟨g1, ⟨fn, q1, q2, q3⟩, g2⟩ := y6 hlp hle hex h' hd base ρ _ W hin hargs
   refine ⟨g1, fun hn => ⟨about, ?_⟩⟩
   have hrun : (o.semAt (FR R).round A.eval).run P W = .ok (.enter k (F.toArray ++ (xs.map A.eval) ++ C.toArray)) W := by
    show (o.semAt R A.eval).run P W = _
    rw [sem]
    simp [execOp, ho, resolve, hV, Deferred.ofValue, invoke, callFunc, q1]
    rw [if_neg (by intro e; rw [e] at q3; simp at q3), if_neg (by intro e; rw [e] at q2; cases q2)]
   rw [hrun]
   simp only [Oper.uponIn_enter]
   refine ⟨fun hdep => by simp [FR, Fence.wide] at hdep, ?_⟩
   have := g2.mono (R' := fun | .returned v, w'' => next (A.put o.dst v) w'' | .panicked chain, w'' => Q (.panic chain) A w'' | .outgrown, _ => LetsOut Q) (by
    rintro E W' ⟨V, ρ', rfl, hv, hp⟩
    exact hn V W' ρ' hv hp)
   cases R with
   | none => exact this
   | some r => exact CallsIn.inRound r this
  ·rename_i k hf
   rw [hf] at vf
   obtain ⟨g1, r, L, hr, hw, hsz, g2⟩ := Xf hle hex h' hd base ρ (xs.map A.eval) W R hin (by simpa using vx)
   have hV : A.eval g = .func (.yield r.blk) #[] #[] := by
    obtain ⟨r', hr', hV⟩ := vr_yield vf
    rw [hr] at hr'; cases hr'
    exact hV
   refine ⟨g1, fun hn => ⟨about, ?_⟩⟩
   have hrun : (o.semAt (FR R).round A.eval).run P W = .ok (.round r.blk L.fn ((L.params.zip (xs.map A.eval)).foldl (fun tmps (t, a) => tmps.setIfInBounds t a) L.tmps) L.assign L.body) W := by
    show (o.semAt R A.eval).run P W = _
    rw [sem]
    have := run_yield (P := P) (args := xs.map A.eval) hw hsz
    simp only [execOp, ho, resolve, hV, Deferred.ofValue, invoke, Sem.run_bind, Sem.run_pure, Result.andThen_ok, Array.empty_append]
    exact this
   rw [hrun]
   simp only [Oper.uponIn_round]
   refine ⟨fun hdep => by simp [FR, Fence.wide] at hdep, ?_⟩
   exact g2.mono (R' := fun | .returned v, w'' => next (A.put o.dst v) w'' | .panicked chain, w'' => Q (.panic chain) A w'' | .outgrown, _ => LetsOut Q) (by
    rintro E W' ⟨V, ρ', rfl, hv, hp⟩
    exact hn V W' ρ' hv hp)
  ·rename_i t name k hf
   rw [hf] at vf
   have hV := vr_via vf
   unfold callV at h'
   split at h'
   ·rename_i off b q rest e1 e2
    have e3 := via_of hlp e1
    rw [e2] at vx
    obtain ⟨X, XS, hX, v1, v2⟩ := LR.inv vx
    obtain ⟨r, hr, rfl⟩ := vM v1
    have hY : xs.map A.eval = (Value.pointer (some ⟨r.blk, r.off + q, none⟩) :: XS).toArray := by
     apply Array.ext'
     rw [Array.toList_map]
     exact hX
    have hargs : LR ρ (.ptr (some (b, q + off)) :: rest) (#[Value.pointer (some ⟨r.blk, r.off + (q + off), none⟩)] ++ (xs.map A.eval).extract 1 (xs.map A.eval).size).toList := by
     have e4 : ((xs.map A.eval).extract 1 (xs.map A.eval).size).toList = XS := by rw [hY]; simp
     rw [Array.toList_append, e4]
     exact LR.cons (.ptr hr) v2
    obtain ⟨g1, ⟨fn, q1, q2, q3⟩, g2⟩ := y6 hlp hle hex h' hd base ρ _ W hin hargs
    refine ⟨g1, fun hn => ⟨about, ?_⟩⟩
    have h0 : (xs.map A.eval)[0]? = some (Value.pointer (some ⟨r.blk, r.off + q, none⟩)) := by
     rw [hY]; rfl
    have hrun : (o.semAt (FR R).round A.eval).run P W = .ok (.enter k (#[Value.pointer (some ⟨r.blk, r.off + (q + off), none⟩)] ++ (xs.map A.eval).extract 1 (xs.map A.eval).size)) W := by
     show (o.semAt R A.eval).run P W = _
     rw [sem]
     obtain ⟨e5, e, e6⟩ := run_via (P := P) (W := W) (t := t) (b := r.blk) (o := r.off + q) e3 (P.types.size + Made.depth - 1)
     have e7 : P.types.size + Made.depth - 1 + 1 = P.types.size + Made.depth := Nat.succ_pred_eq_of_pos (Nat.lt_of_lt_of_le (by decide) (Nat.le_add_left Made.depth _))
     rw [e7] at e5
     simp [execOp, ho, resolve, hV, Deferred.ofValue, invoke, callMethod, callFunc, q1, h0, zm e6, e5, Nat.add_assoc]
     rw [if_neg (by intro e; rw [e] at q3; simp at q3), if_neg (by intro e; rw [e] at q2; cases q2)]
    rw [hrun]
    simp only [Oper.uponIn_enter]
    refine ⟨fun hdep => by simp [FR, Fence.wide] at hdep, ?_⟩
    have := g2.mono (R' := fun | .returned v, w'' => next (A.put o.dst v) w'' | .panicked chain, w'' => Q (.panic chain) A w'' | .outgrown, _ => LetsOut Q) (by
     rintro E W' ⟨V, ρ', rfl, hv, hp⟩
     exact hn V W' ρ' hv hp)
    cases R with
    | none => exact this
    | some r => exact CallsIn.inRound r this
   ·cases h'
  ·cases h'
 ·obtain ⟨g1, V, W', ρ', g2, g3, g4⟩ := hp lp ex fl a σ σ' v h hd base ρ A W hin.sim ha hin.low hin.fresh
  refine ⟨g1, fun hn => ⟨about, ?_⟩⟩
  show o.uponIn (FR R) 0 P A next Q ((o.semAt R A.eval).run P W)
  rw [sem]
  rcases g2 with g2 | ⟨g2, rfl⟩
  ·rw [g2]; exact hn V W' ρ' g3 g4
  ·rw [g2]; exact hn Go.undef W' ρ' g3 g4
end Go.Hx

namespace Go.Hx
variable {P : Program} {lp : Nat → Option zp} {ex : Ex}
noncomputable def stepVal (lp : Nat → Option zp) (ex : Ex) (fl : Nat) (o : zh) (a : HAct) (σ : HS) : Option (HV × HS) :=
 bif wantedH o.g a then opH lp ex fl o.op a σ else some (.undef, σ)
theorem vP {fl : Nat} {o : zh} {a a' : HAct} {σ σ' : HS} (h : stepOp lp ex fl o a σ = some (a', σ')) : ∃ v, stepVal lp ex fl o a σ = some (v, σ') ∧ a' = a.put o.dst v := by
 unfold stepOp at h
 unfold stepVal
 cases hw : wantedH o.g a with
 | true =>
  rw [hw] at h
  simp only [cond_true] at h ⊢
  split at h
  ·rename_i v σ1 h1; cases h; exact ⟨v, h1, rfl⟩
  ·cases h
 | false =>
  rw [hw] at h
  cases h
  exact ⟨.undef, rfl, rfl⟩
theorem vB (hle : ExLe ex) {fl : Nat} {o : zh} {a : HAct} {σ σ' : HS} {v : HV} (h : stepVal lp ex fl o a σ = some (v, σ')) : σ.nx ≤ σ'.nx := by
 unfold stepVal at h
 cases hw : wantedH o.g a with
 | true => rw [hw] at h; exact op_le hle h
 | false => rw [hw] at h; cases h; exact Nat.le_refl _
theorem guard_ok {ops : Array Oper} {o : Oper} {g : Option (Nat × Bool)} {ρ : Rho} {a : HAct} {A : Act} (hg : lowGuard ops o.guard = some g) (ha : AR ρ a A) : wantedH g a = Region.wanted o (yielded ops A.tmps) := by
 unfold lowGuard at hg
 unfold Region.wanted
 split at hg
 ·rename_i h; cases hg; rw [h]; rfl
 ·rename_i j want h
  simp only [Option.map_eq_some_iff] at hg
  obtain ⟨d, hd, rfl⟩ := hg
  rw [h]
  simp only [wantedH]
  have hv := ha.tmp d
  simp only [yielded, hd, Option.bind_some]
  have hget : A.tmps.getD d Go.undef = (A.tmps[d]?).getD Go.undef := by rw [Array.getD_eq_getD_getElem?]
  rw [hget] at hv
  cases hb : A.tmps[d]? with
  | none =>
   rw [hb] at hv
   generalize a.tmp d = x at hv
   cases hv <;> rfl
  | some V =>
   rw [hb] at hv
   simp only [Option.getD_some] at hv
   generalize a.tmp d = x at hv
   cases hv <;> simp
theorem yT (hlp : LpOk P lp) (hle : ExLe ex) (hex : ExSound P ex) {ops : Array Oper} {i : Nat} {o : Oper} (hi : ops[i]? = some o) {fl : Nat} {a : HAct} {σ σ' : HS} {v : HV} (h : stepVal lp ex fl (lowOper P ops o) a σ = some (v, σ')) (hd : Dom σ) :
  ∀ (base : Nat) (ρ : Rho) (A : Act) (W : World) (R : Option Nat) (K : Act → World → Prop) (Q : Exit → Act → World → Prop), In P base σ σ' ρ W → AR ρ a A →
   HFS fl σ σ' ∧ (Next1 P base fl σ σ' ρ A W o.dst v K → wpOpIn (FR R) 0 P ops Q i K A W) := by
 intro base ρ A W R K Q hin ha
 unfold lowOper at h
 split at h
 ·rename_i g hg
  unfold stepVal at h
  have hw := guard_ok hg ha
  unfold wpOpIn
  rw [hi]
  simp only
  rw [← hw]
  cases hwv : wantedH g a with
  | false =>
   simp only [hwv, cond_false] at h
   cases h
   refine ⟨HF.refl _ _ _, fun hn => ?_⟩
   simp only [Bool.false_eq_true, if_false]
   exact ⟨fun _ _ => trivial, hn Go.undef W ρ (VR.undef ρ) (Post.refl hin.sim)⟩
  | true =>
   simp only [hwv, cond_true] at h
   simp only [if_true]
   cases hl : lowOp P o.op with
   | none => rw [hl] at h; cases h
   | some l =>
    rw [hl] at h
    exact XW hlp hle hex hl h hd base ρ A W R K Q hin ha
 ·unfold stepVal at h
  simp only [wantedH, cond_true] at h
  cases h
theorem kL {R : Option Nat} {ops : Array Oper} {i : Nat} {A : Act} {W : World} {p : Prop} (h : wpOpIn (FR R) 0 P ops (fun _ _ _ => p) i (fun _ _ => p) A W) : p := by
 have h' : wpOpsIn (FR R) 0 P ops (fun _ _ _ => p) [i] A W := by rw [wpOpsIn_cons]; exact h
 obtain ⟨_, _, _, hp, _⟩ := wp_opsIn [i] A W h' { (default : Frame) with roundOf := R } [] [] rfl trivial (fun _ hd => by simp [FR, Fence.wide] at hd)
 exact hp
theorem uY (hle : ExLe ex) {fl : Nat} : ∀ (l : List zh) (a a' : HAct) (σ σ' : HS), runOps lp ex fl l a σ = some (a', σ') → σ.nx ≤ σ'.nx
 | [], a, a', σ, σ', h => by cases h; exact Nat.le_refl _
 | o :: os, a, a', σ, σ', h => by
  unfold runOps at h
  split at h
  ·rename_i a1 σ1 h1
   obtain ⟨v, hv, _⟩ := vP h1
   exact Nat.le_trans (vB hle hv) (uY hle os a1 a' σ1 σ' h)
  ·cases h
theorem uD (hlp : LpOk P lp) (hle : ExLe ex) (hex : ExSound P ex) {ops : Array Oper} {fl : Nat} : ∀ (m k : Nat) (a a' : HAct) (σ σ' : HS), k + m = ops.size → runOps lp ex fl ((ops.toList.drop k).map (lowOper P ops)) a σ = some (a', σ') → Dom σ →
  ∀ (base : Nat) (ρ : Rho) (A : Act) (W : World) (R : Option Nat) (Q : Exit → Act → World → Prop), In P base σ σ' ρ W → AR ρ a A →
   HFS fl σ σ' ∧ ((∀ A' W' ρ', AR ρ' a' A' → PostS P base fl σ σ' ρ ρ' W W' → Q .normal A' W') → wpOpsIn (FR R) 0 P ops Q (List.range' k m) A W)
 | 0, k, a, a', σ, σ', hk, h, hd, base, ρ, A, W, R, Q, hin, ha => by
  have : ops.toList.drop k = [] := by apply List.drop_eq_nil_of_le; simp; omega
  rw [this] at h
  cases h
  exact ⟨HF.refl _ _ _, fun hn => hn A W ρ ha (Post.refl hin.sim)⟩
 | m + 1, k, a, a', σ, σ', hk, h, hd, base, ρ, A, W, R, Q, hin, ha => by
  have hlt : k < ops.toList.length := by simp; omega
  rw [List.drop_eq_getElem_cons hlt] at h
  simp only [List.map_cons] at h
  unfold runOps at h
  split at h
  ·rename_i a1 σ1 h1
   obtain ⟨v, hv, rfl⟩ := vP h1
   have hi : ops[k]? = some ops.toList[k] := by simp at hlt ⊢
   have le1 := vB hle hv
   have le2 := uY hle _ _ _ _ _ h
   have hdst : (lowOper P ops ops.toList[k]).dst = ops.toList[k].dst := by unfold lowOper; split <;> rfl
   have hin1 : In P base σ σ1 ρ W := hin.less le2
   -- the rest, wherever the first operation leads
   have rest : ∀ (V : Value) (W' : World) (ρ' : Rho), VR ρ' v V → HFS fl σ σ1 → PostS P base fl σ σ1 ρ ρ' W W' → HFS fl σ σ' ∧ ((∀ A' W' ρ', AR ρ' a' A' → PostS P base fl σ σ' ρ ρ' W W' → Q .normal A' W') → wpOpsIn (FR R) 0 P ops Q (List.range' (k + 1) m) (A.put ops.toList[k].dst V) W') := by
    intro V W' ρ' hv' f1 p1
    have ar1 : AR ρ' (a.put (lowOper P ops ops.toList[k]).dst v) (A.put ops.toList[k].dst V) := by rw [hdst]; exact (ha.mono p1.ext).put hv' _
    obtain ⟨f2, w2⟩ := uD hlp hle hex m (k + 1) _ a' σ1 σ' (by omega) h (f1.dom hd) base ρ' _ W' R Q (hin.next p1 le1) ar1
    exact ⟨f1.trans f2, fun hn => w2 fun A'' W'' ρ'' har hp => hn A'' W'' ρ'' har (Post.trans f1.le f2.le p1 hp)⟩
   obtain ⟨f1, _⟩ := yT hlp hle hex hi hv hd base ρ A W R (fun _ _ => True) Q hin1 ha
   have hff : HFS fl σ σ' := by
    obtain ⟨_, w⟩ := yT hlp hle hex hi hv hd base ρ A W R (fun _ _ => HFS fl σ σ') (fun _ _ _ => HFS fl σ σ') hin1 ha
    exact kL (w (fun V W' ρ' hv' p1 => (rest V W' ρ' hv' f1 p1).1))
   refine ⟨hff, fun hn => ?_⟩
   rw [List.range'_succ, wpOpsIn_cons]
   exact (yT hlp hle hex hi hv hd base ρ A W R _ Q hin1 ha).2 fun V W' ρ' hv' p1 => (rest V W' ρ' hv' f1 p1).2 hn
  ·cases h
section scope
variable {b : Frame} {a : Act} {k : List Item} {cs : List Frame} {w : World}
theorem yH {c : Code} : step P (lone (b.atR a (.code (.scope c) :: k)) cs w) = .next (lone (b.atR a (.code c :: .inScope c :: k)) cs w) :=
 step_lone_go (by simp [stepG, stepG.exec, Frame.atR])
theorem j9 {c : Code} : step P (lone (b.atR a (.inScope c :: k)) cs w) = .next (lone (b.atR a k) cs w) :=
 step_lone_go (by simp [stepG, stepG.exec, Frame.atR])
end scope
theorem XR {F : Fence} {n : Nat} {c : Code} {Q : Exit → Act → World → Prop} {a : Act} {w : World} (h : c.wpIn F n P (Exit.noGoto Q) a w) : (Code.scope c).wpIn F n P Q a w := by
 intro b k cs hro hb hr
 have h0 : (lone (b.atR a (.code (.scope c) :: k)) cs w).fenced P F := fenced_calm hb hr rfl
 obtain ⟨e, a₁, w₁, hq, harr⟩ := h b (.inScope c :: k) cs hro hb hr
 cases e with
 | normal => exact ⟨.normal, a₁, w₁, hq, .head h0 yH (StepsIn.trans harr (.one (fenced_calm hb hr rfl) j9))⟩
 | exit id =>
  have hx : exitTo id (.inScope c :: k) = exitTo id k := by simp [exitTo]
  exact ⟨.exit id, a₁, w₁, hq, fun k' hk => .head h0 yH (harr.1 k' (by rw [hx]; exact hk)),
   fun hr' hk => let ⟨k₁, h1, h2⟩ := harr.2 hr' (by rw [hx]; exact hk); ⟨k₁, h1, .head h0 yH h2⟩⟩
 | goto l => exact hq.elim
 | ret => exact ⟨_, a₁, w₁, hq, .of_steps (.one h0 yH) harr⟩
 | panic ch => exact ⟨_, a₁, w₁, hq, .of_steps (.one h0 yH) harr⟩
 | outgrown => exact ⟨_, a₁, w₁, hq, .of_steps (.one h0 yH) harr⟩
theorem exec_le (n : Nat) : (∀ fl s ops (a a' : HAct) (σ σ' : HS), ExLe (exec lp n) → drawOps lp (exec lp n) fl s σ.nx σ.h ops 0 [] a σ.nx = some (a', σ') → σ.nx ≤ σ'.nx) → ExLe (exec lp n) → ExLe (exec lp (n + 1)) := by
 intro hdraw ih fl rd lc a σ e a' σ' h
 simp only [exec] at h
 cases lc <;> simp only [xCode] at h
 case skip => cases h; exact Nat.le_refl _
 case seq x y =>
  unfold xSeq at h
  split at h
  ·rename_i a1 σ1 h1; exact Nat.le_trans (ih _ _ _ _ _ _ _ _ h1) (ih _ _ _ _ _ _ _ _ h)
  ·exact ih _ _ _ _ _ _ _ _ h
 case cond c x y =>
  unfold xCond at h
  split at h
  ·rename_i b _
   cases b <;> exact ih _ _ _ _ _ _ _ _ h
  ·cases h
 case block id x =>
  unfold xBlock at h
  split at h
  ·rename_i h1; cases h; exact ih _ _ _ _ _ _ _ _ h1
  ·exact ih _ _ _ _ _ _ _ _ h
 case loop x =>
  unfold xSeq at h
  split at h
  ·rename_i a1 σ1 h1; exact Nat.le_trans (ih _ _ _ _ _ _ _ _ h1) (ih _ _ _ _ _ _ _ _ h)
  ·exact ih _ _ _ _ _ _ _ _ h
 case scope x => exact ih _ _ _ _ _ _ _ _ h
 case exit id => cases h; exact Nat.le_refl _
 case ret => cases h; exact Nat.le_refl _
 case reg ops =>
  unfold xRegion xNormal at h
  split at h
  ·rename_i h1; cases h; exact uY ih _ _ _ _ _ h1
  ·cases h
 case draw s ops =>
  unfold xDraw xNormal at h
  revert h
  generalize Nat.ble fl σ.nx = c
  intro h
  cases c with
  | false => cases h
  | true =>
   simp only [cond_true] at h
   split at h
   ·rename_i h1; cases h; exact hdraw _ _ _ _ _ _ _ ih h1
   ·cases h
 case rangeFunc f ps assign body =>
  unfold xRange at h
  split at h
  ·rename_i g first captured mk ms σ1 hf hm
   split at h
   ·rename_i w σ2 hc
    have h1 := uR ih hc
    have h0 : σ.nx ≤ σ1.nx := by
     unfold marksOf at hm
     split at hm
     ·cases hm; simp [HS.new]
     ·split at hm
      ·cases hm; exact Nat.le_refl _
      ·cases hm
    have h2 : σ2.nx = σ'.nx := by
     unfold endLoopH at h
     split at h
     ·split at h
      ·cases h
      ·revert h
       generalize Nat.ble _ _ = c
       intro h
       cases c with
       | false => cases h
       | true => cases h; rfl
     ·cases h
    have h3 : σ1.nx + 1 ≤ σ2.nx := h1
    omega
   ·cases h
  ·cases h
 case bad => cases h
end Go.Hx

namespace Go.Hx
variable {P : Program} {lp : Nat → Option zp} {ex : Ex}
abbrev PQ (P : Program) (base fl : Nat) (σ σ' : HS) (ρ : Rho) (W : World) (e : HExit) (a' : HAct) : Exit → Act → World → Prop :=
 fun E A' W' => ∃ ρ', PostS P base fl σ σ' ρ ρ' W W' ∧ E = exitOf e ∧ AR ρ' a' A'
def Snd (P : Program) (c : Code) (fl : Nat) (rd : Option Nat) (a : HAct) (σ : HS) (e : HExit) (a' : HAct) (σ' : HS) : Prop :=
 ∀ (base : Nat) (ρ : Rho) (A : Act) (W : World) (R : Option Nat), In P base σ σ' ρ W → AR ρ a A → RdOk ρ rd R →
   HFS fl σ σ' ∧ c.wpIn (FR R) 0 P (PQ P base fl σ σ' ρ W e a') A W
def DrawSound (P : Program) (lp : Nat → Option zp) (ex : Ex) : Prop :=
 ∀ (id : Nat) (ops : Array Oper) (fl : Nat) (rd : Option Nat) (a : HAct) (σ : HS) (e : HExit) (a' : HAct) (σ' : HS), xCode lp ex fl rd (lowDraw P ops) a σ = some (e, a', σ') → Dom σ → Snd P (.region id ops true) fl rd a σ e a' σ'
def DrawLe (lp : Nat → Option zp) (ex : Ex) : Prop := ∀ fl s ops (a a' : HAct) (σ σ' : HS), drawOps lp ex fl s σ.nx σ.h ops 0 [] a σ.nx = some (a', σ') → σ.nx ≤ σ'.nx
theorem pq_trans {base fl : Nat} {σ σ1 σ' : HS} {ρ ρ1 : Rho} {W W1 : World} {e : HExit} {a' : HAct} (f1 : HFS fl σ σ1) (f2 : HFS fl σ1 σ') (p1 : PostS P base fl σ σ1 ρ ρ1 W W1) {E : Exit} {A' : Act} {W' : World} (h : PQ P base fl σ1 σ' ρ1 W1 e a' E A' W') : PQ P base fl σ σ' ρ W e a' E A' W' := by
 obtain ⟨ρ', p2, he, ha⟩ := h
 exact ⟨ρ', Post.trans f1.le f2.le p1 p2, he, ha⟩
theorem uo {c : Code} {fl : Nat} {rd : Option Nat} {a a1 a' : HAct} {σ σ1 σ' : HS} {e : HExit} {N : Act → World → Prop} {base : Nat} {ρ : Rho} {A : Act} {W : World} {R : Option Nat}
  (le1 : σ.nx ≤ σ1.nx) (le2 : σ1.nx ≤ σ'.nx) (h1 : Snd P c fl rd a σ .normal a1 σ1)
  (hin : In P base σ σ' ρ W) (ha : AR ρ a A) (hrd : RdOk ρ rd R)
  (h2 : ∀ (ρ1 : Rho) (A1 : Act) (W1 : World), HFS fl σ σ1 → PostS P base fl σ σ1 ρ ρ1 W W1 → In P base σ1 σ' ρ1 W1 → AR ρ1 a1 A1 → RdOk ρ1 rd R → HFS fl σ1 σ' ∧ ((∀ E A' W', PQ P base fl σ1 σ' ρ1 W1 e a' E A' W' → PQ P base fl σ σ' ρ W e a' E A' W') → N A1 W1)) :
  HFS fl σ σ' ∧ c.wpIn (FR R) 0 P (Exit.then N (PQ P base fl σ σ' ρ W e a')) A W := by
 obtain ⟨f1, w1⟩ := h1 base ρ A W R (hin.less le2) ha hrd
 have step : ∀ E A1 W1, PQ P base fl σ σ1 ρ W .normal a1 E A1 W1 → HFS fl σ σ' ∧ Exit.then N (PQ P base fl σ σ' ρ W e a') E A1 W1 := by
  rintro E A1 W1 ⟨ρ1, p1, rfl, ar1⟩
  obtain ⟨f2, n2⟩ := h2 ρ1 A1 W1 f1 p1 (hin.next p1 le1) ar1 (hrd.mono p1.ext)
  exact ⟨f1.trans f2, n2 fun E A' W' h => pq_trans f1 f2 p1 h⟩
 obtain ⟨E, A1, W1, hq⟩ := uU w1
 exact ⟨(step E A1 W1 hq).1, wpIn_mono w1 fun E A1 W1 hq => (step E A1 W1 hq).2⟩
theorem Y7 (hle : ExLe ex) (hex : ExSound P ex) {x y : Code} {fl : Nat} {rd : Option Nat} {a a' : HAct} {σ σ' : HS} {e : HExit} (h : xSeq ex fl rd (lowC P x) (lowC P y) a σ = some (e, a', σ')) (hd : Dom σ) : Snd P (.seq x y) fl rd a σ e a' σ' := by
 intro base ρ A W R hin ha hrd
 unfold xSeq at h
 split at h
 ·rename_i a1 σ1 h1
  have le1 := hle _ _ _ _ _ _ _ _ h1
  have le2 := hle _ _ _ _ _ _ _ _ h
  obtain ⟨g1, g2⟩ := uo (N := y.wpIn (FR R) 0 P (PQ P base fl σ σ' ρ W e a')) le1 le2 (hex x fl rd a σ .normal a1 σ1 h1 hd) hin ha hrd fun ρ1 A1 W1 f1 p1 hin1 ar1 hrd1 => by
   obtain ⟨f2, w2⟩ := hex y fl rd a1 σ1 e a' σ' h (f1.dom hd) base ρ1 A1 W1 R hin1 ar1 hrd1
   exact ⟨f2, fun hq => wpIn_mono w2 hq⟩
  exact ⟨g1, wpIn_seq g2⟩
 ·rename_i hne
  obtain ⟨f1, w1⟩ := hex x fl rd a σ e a' σ' h hd base ρ A W R hin ha hrd
  refine ⟨f1, wpIn_seq (wpIn_mono w1 ?_)⟩
  rintro E A1 W1 ⟨ρ1, p1, rfl, ar1⟩
  cases e with
  | normal => exact absurd h (hne _ _)
  | exit id => exact ⟨ρ1, p1, rfl, ar1⟩
  | ret => exact ⟨ρ1, p1, rfl, ar1⟩
theorem Ys (hex : ExSound P ex) {c : Operand} {lc : Lo} (hc : lowX c = some lc) {x y : Code} {fl : Nat} {rd : Option Nat} {a a' : HAct} {σ σ' : HS} {e : HExit} (h : xCond ex fl rd lc (lowC P x) (lowC P y) a σ = some (e, a', σ')) (hd : Dom σ) : Snd P (.cond c x y) fl rd a σ e a' σ' := by
 intro base ρ A W R hin ha hrd
 have hv := zX ha hc
 unfold xCond at h
 split at h
 ·rename_i b hb
  rw [hb] at hv
  have hV : A.eval c = .bool b := by generalize A.eval c = V at hv; cases hv; rfl
  cases b with
  | true =>
   obtain ⟨f1, w1⟩ := hex x fl rd a σ e a' σ' h hd base ρ A W R hin ha hrd
   exact ⟨f1, wpIn_cond hV w1⟩
  | false =>
   obtain ⟨f1, w1⟩ := hex y fl rd a σ e a' σ' h hd base ρ A W R hin ha hrd
   exact ⟨f1, wpIn_cond hV w1⟩
 ·cases h
theorem XJ (hex : ExSound P ex) {id : Nat} {x : Code} {fl : Nat} {rd : Option Nat} {a a' : HAct} {σ σ' : HS} {e : HExit} (h : xBlock ex fl rd id (lowC P x) a σ = some (e, a', σ')) (hd : Dom σ) : Snd P (.block id x) fl rd a σ e a' σ' := by
 intro base ρ A W R hin ha hrd
 unfold xBlock at h
 split at h
 ·rename_i i a1 σ1 h1
  cases h
  obtain ⟨f1, w1⟩ := hex x fl rd a σ (.exit i) a' σ' h1 hd base ρ A W R hin ha hrd
  refine ⟨f1, wpIn_block (wpIn_mono w1 ?_)⟩
  rintro E A1 W1 ⟨ρ1, p1, rfl, ar1⟩
  simp only [exitOf, Exit.inBlock]
  by_cases hi : i = id
  ·subst hi
   simp only [if_true, Nat.beq_refl, cond_true]
   exact ⟨ρ1, p1, rfl, ar1⟩
  ·have : Nat.beq i id = false := by
    cases e : Nat.beq i id
    ·rfl
    ·exact absurd (Nat.eq_of_beq_eq_true e) hi
   simp only [if_neg hi, this, cond_false]
   exact ⟨ρ1, p1, rfl, ar1⟩
 ·rename_i hne
  obtain ⟨f1, w1⟩ := hex x fl rd a σ e a' σ' h hd base ρ A W R hin ha hrd
  refine ⟨f1, wpIn_block (wpIn_mono w1 ?_)⟩
  rintro E A1 W1 ⟨ρ1, p1, rfl, ar1⟩
  cases e with
  | normal => exact ⟨ρ1, p1, rfl, ar1⟩
  | exit id => exact absurd h (hne _ _ _)
  | ret => exact ⟨ρ1, p1, rfl, ar1⟩
theorem Xc (hex : ExSound P ex) {x : Code} {fl : Nat} {rd : Option Nat} {a a' : HAct} {σ σ' : HS} {e : HExit} (h : ex fl rd (lowC P x) a σ = some (e, a', σ')) (hd : Dom σ) : Snd P (.scope x) fl rd a σ e a' σ' := by
 intro base ρ A W R hin ha hrd
 obtain ⟨f1, w1⟩ := hex x fl rd a σ e a' σ' h hd base ρ A W R hin ha hrd
 refine ⟨f1, XR (wpIn_mono w1 ?_)⟩
 rintro E A1 W1 ⟨ρ1, p1, rfl, ar1⟩
 cases e <;> exact ⟨ρ1, p1, rfl, ar1⟩
theorem kN (hlp : LpOk P lp) (hle : ExLe ex) (hex : ExSound P ex) {id : Nat} {ops : Array Oper} {fl : Nat} {rd : Option Nat} {a a' : HAct} {σ σ' : HS} {e : HExit} (h : xRegion lp ex fl (ops.toList.map (lowOper P ops)) a σ = some (e, a', σ')) (hd : Dom σ) : Snd P (.region id ops false) fl rd a σ e a' σ' := by
 intro base ρ A W R hin ha hrd
 unfold xRegion xNormal at h
 split at h
 ·rename_i a1 σ1 h1
  cases h
  obtain ⟨f1, w1⟩ := uD hlp hle hex (ops := ops) (fl := fl) ops.size 0 a a' σ σ' (by omega) (by simpa using h1) hd base ρ A W R (PQ P base fl σ σ' ρ W .normal a') hin ha
  refine ⟨f1, wpIn_region ?_⟩
  rw [List.range_eq_range']
  exact w1 fun A' W' ρ' har hp => ⟨ρ', hp, rfl, har⟩
 ·cases h
theorem jU (hlp : LpOk P lp) {c : Code} : ∀ (n : Nat), (∀ j, j < n → ExSound P (exec lp j) ∧ ExLe (exec lp j)) → ∀ {fl : Nat} {rd : Option Nat} {a a' : HAct} {σ σ' : HS} {e : HExit}, exec lp n fl rd (.loop (lowC P c)) a σ = some (e, a', σ') → Dom σ →
  ∀ (base : Nat) (ρ : Rho) (A : Act) (W : World) (R : Option Nat), In P base σ σ' ρ W → AR ρ a A → RdOk ρ rd R →
   HFS fl σ σ' ∧ ∀ (Q : Exit → Act → World → Prop), (∀ E A' W', PQ P base fl σ σ' ρ W e a' E A' W' → Q E A' W') → Code.roundsIn (FR R) 0 P c Q n A W
 | 0, _, _, _, _, _, _, _, _, h, _ => by cases h
 | n + 1, hall, fl, rd, a, a', σ, σ', e, h, hd => by
  intro base ρ A W R hin ha hrd
  obtain ⟨hex, hle⟩ := hall n (by omega)
  simp only [exec, xCode] at h
  unfold xSeq at h
  simp only [roundsIn_succ]
  split at h
  ·rename_i a1 σ1 h1
   have le1 := hle _ _ _ _ _ _ _ _ h1
   have le2 := hle _ _ _ _ _ _ _ _ h
   have key : ∀ (N : Act → World → Prop) (ρ1 : Rho) (A1 : Act) (W1 : World), HFS fl σ σ1 → PostS P base fl σ σ1 ρ ρ1 W W1 → In P base σ1 σ' ρ1 W1 → AR ρ1 a1 A1 → RdOk ρ1 rd R → HFS fl σ1 σ' ∧ ∀ (Q : Exit → Act → World → Prop), (∀ E A' W', PQ P base fl σ1 σ' ρ1 W1 e a' E A' W' → Q E A' W') → Code.roundsIn (FR R) 0 P c Q n A1 W1 :=
    fun N ρ1 A1 W1 f1 p1 hin1 ar1 hrd1 => jU hlp n (fun j hj => hall j (by omega)) h (f1.dom hd) base ρ1 A1 W1 R hin1 ar1 hrd1
   have hs := hex c fl rd a σ .normal a1 σ1 h1 hd
   refine ⟨(uo (N := fun _ _ => True) (e := e) (a' := a') le1 le2 hs hin ha hrd fun ρ1 A1 W1 f1 p1 hin1 ar1 hrd1 => ⟨(key (fun _ _ => True) ρ1 A1 W1 f1 p1 hin1 ar1 hrd1).1, fun _ => trivial⟩).1, fun Q hQ => ?_⟩
   refine wpIn_mono (uo (N := Code.roundsIn (FR R) 0 P c Q n) (e := e) (a' := a') le1 le2 hs hin ha hrd fun ρ1 A1 W1 f1 p1 hin1 ar1 hrd1 => ?_).2 ?_
   ·obtain ⟨f2, r2⟩ := key (fun _ _ => True) ρ1 A1 W1 f1 p1 hin1 ar1 hrd1
    exact ⟨f2, fun hq => r2 Q fun E A' W' h => hQ _ _ _ (hq _ _ _ h)⟩
   ·intro E A' W' h
    cases E <;> first | exact h | exact hQ _ _ _ h
  ·rename_i hne
   obtain ⟨f1, w1⟩ := hex c fl rd a σ e a' σ' h hd base ρ A W R hin ha hrd
   refine ⟨f1, fun Q hQ => wpIn_mono w1 ?_⟩
   rintro E A1 W1 ⟨ρ1, p1, rfl, ar1⟩
   cases e with
   | normal => exact absurd h (hne _ _)
   | exit id => exact hQ _ _ _ ⟨ρ1, p1, rfl, ar1⟩
   | ret => exact hQ _ _ _ ⟨ρ1, p1, rfl, ar1⟩
end Go.Hx

namespace Go.Hx
variable {P : Program} {lp : Nat → Option zp} {ex : Ex}
theorem ki {fl l : Nat} {ms : List Nat} {a a' : HAct} {σ σ' : HS} {e : HExit} (h : endLoopH fl l ms a σ = some (e, a', σ')) :
  ∃ q : HLoop, σ.h.get l = some (.loop q) ∧ q.state ≠ .busy ∧ fl ≤ l ∧ e = q.pending ∧ a' = { a with defers := ms ++ a.defers } ∧ σ' = σ.upd l (some (.loop { q with state := .exhausted })) := by
 unfold endLoopH at h
 split at h
 ·rename_i q hq
  split at h
  ·cases h
  ·rename_i hb
   cases hfl : Nat.ble fl l with
   | false => rw [hfl] at h; cases h
   | true =>
    rw [hfl] at h
    cases h
    exact ⟨q, hq, hb, Nat.le_of_ble_eq_true hfl, rfl, rfl, rfl⟩
 ·cases h
theorem marks_ok {rd R : Option Nat} {base fl mk : Nat} {ms : List Nat} {σ σ1 σ' : HS} {ρ : Rho} {W : World} (h : marksOf rd σ = some (mk, ms, σ1)) (hin : In P base σ σ' ρ W) (hn : σ1.nx ≤ σ'.nx) (hrd : RdOk ρ rd R) :
  HFS fl σ σ1 ∧ ∃ (ρ1 : Rho) (W1 : World) (m : RI), PostS P base fl σ σ1 ρ ρ1 W W1 ∧ ρ1 mk = some m ∧ (∀ k ∈ ms, (ρ1 k).isSome = true) ∧
   ∀ fn tmps ps assign body, (Instr.enterLoop fn tmps ps assign body R).run P W =
    .ok (W1.heap.size, ms.map fun k => ⟨.collected ((ρ1 k).elim 0 RI.blk), #[]⟩) (W1.alloc (.loop { state := .ready, pending := none, fn, tmps, params := ps, assign, body, defers := m.blk })) := by
 unfold marksOf at h
 cases rd with
 | none =>
  cases R with
  | some _ => exact hrd.elim
  | none =>
   cases h
   have hfr : ρ σ.nx = none := hin.fresh _ (Nat.le_refl _) hn
   have hput : (ρ.put σ.nx ⟨W.heap.size, 0, 0⟩) σ.nx = some ⟨W.heap.size, 0, 0⟩ := Rho.put_same ..
   refine ⟨y8 (HS.get_new σ _), ρ.put σ.nx ⟨W.heap.size, 0, 0⟩, W.alloc (.deferred (some [])), ⟨W.heap.size, 0, 0⟩, vR hin.sim hfr (HS.get_new σ _) rfl ⟨_, hput, World.alloc_heap_new W _, hin.low⟩, hput, ?_, ?_⟩
   ·intro k hk
    rw [List.mem_singleton] at hk
    subst hk; rw [hput]; rfl
   ·intro fn tmps ps assign body
    rw [run_enterLoop_outer]
    simp only [List.map_cons, List.map_nil, hput, Option.elim, World.size_alloc]
 | some l =>
  cases R with
  | none => exact hrd.elim
  | some L =>
   obtain ⟨r, hr, rfl⟩ := hrd
   simp only at h
   split at h
   ·rename_i q hq
    cases h
    obtain ⟨r', m, Lp, hr', hw, hb, hm, hdf, hl⟩ := hin.sim.ok _ _ hq
    rw [hr] at hr'; cases hr'
    refine ⟨HF.refl _ _ _, ρ, W, m, Post.refl hin.sim, hm, (fun k hk => by cases hk), (fun fn tmps ps assign body => ?_)⟩
    rw [run_enterLoop_inner hw, hdf]; rfl
   ·cases h
theorem Xj (hlp : LpOk P lp) (hle : ExLe ex) (hex : ExSound P ex) {g : Operand} {lg : Lo} (hg : lowX g = some lg) {ps : Array Tmp} {assign body : Code} {fl : Nat} {rd : Option Nat} {a a' : HAct} {σ σ' : HS} {e : HExit}
  (h : xRange lp ex fl rd lg ps.toList (lowC P assign) (lowC P body) a σ = some (e, a', σ')) (hd : Dom σ) : Snd P (.rangeFunc g ps assign body) fl rd a σ e a' σ' := by
 intro base ρ A W R hin ha hrd
 unfold xRange at h
 split at h
 ·rename_i f first captured mk ms σ1 hf hm
  split at h
  ·rename_i w σ3 hc
   obtain ⟨q3, hq3, hb3, hfl, he, ha', hs'⟩ := ki h
   have hv := zX ha hg
   rw [hf] at hv
   obtain ⟨F, C, hV, hF, hC⟩ := vz hv
   have le3 := uR hle hc
   have hnx : σ'.nx = σ3.nx := by rw [hs']; rfl
   have le3' : σ1.nx + 1 ≤ σ3.nx := le3
   obtain ⟨f1, ρ1, W1, m, p1, hmk, hms, henter⟩ := marks_ok (fl := fl) hm hin (by omega) hrd
   have d1 := f1.dom hd
   have hin1 : In P base σ1 σ' ρ1 W1 := hin.next p1 f1.le
   have hfr : ρ1 σ1.nx = none := hin1.fresh _ (Nat.le_refl _) (by omega)
   obtain ⟨q, hq⟩ : ∃ q : HLoop, q = ⟨.ready, .normal, a.nt, a.tmps, ps.toList, lowC P assign, lowC P body, mk⟩ := ⟨_, rfl⟩
   rw [← hq] at hc
   have f2 : HFS fl σ1 (σ1.new (.loop q)) := y8 (HS.get_new σ1 _)
   have d2 := f2.dom d1
   have hput : (ρ1.put σ1.nx ⟨W1.heap.size, 0, 0⟩) σ1.nx = some ⟨W1.heap.size, 0, 0⟩ := Rho.put_same ..
   -- with whatever function's name in the record
   have all : ∀ fn, HFS fl (σ1.new (.loop q)) σ3 ∧ ∃ (F1 C1 : Array Value) (W2 : World), A.eval g = .func (.func f) F1 C1 ∧ W2 = W1.alloc (.loop { state := .ready, pending := none, fn, tmps := A.tmps, params := ps, assign, body, defers := m.blk }) ∧
     (∃ fd, P.funcs[f]? = some fd ∧ fd.body.isSome = true ∧ (fd.name == "runtime.NumGoroutine") = false) ∧
     CallsIn (FR none) 0 P f (F1 ++ #[.func (.yield W1.heap.size) #[] #[]] ++ C1) W2 (rangePost (FR R) 0 P W1.heap.size (PQ P base fl σ σ' ρ W e a') { A with defers := (ms.map fun k => ⟨.collected ((ρ1 k).elim 0 RI.blk), #[]⟩) ++ A.defers }) := by
    intro fn
    obtain ⟨W2, hW2⟩ : ∃ W2, W2 = W1.alloc (.loop { state := .ready, pending := none, fn, tmps := A.tmps, params := ps, assign, body, defers := m.blk }) := ⟨_, rfl⟩
    have ext2 : Rho.le ρ1 (ρ1.put σ1.nx ⟨W1.heap.size, 0, 0⟩) := Rho.le_put _ hfr
    have p2 : PostS P base fl σ1 (σ1.new (.loop q)) ρ1 (ρ1.put σ1.nx ⟨W1.heap.size, 0, 0⟩) W1 W2 := by
     rw [hW2]
     refine vR hin1.sim hfr (HS.get_new σ1 _) rfl ⟨⟨W1.heap.size, 0, 0⟩, m, _, hput, World.alloc_heap_new W1 _, hin1.low, ?_, rfl, ?_⟩
     ·rw [hq]; exact ext2 _ _ hmk
     ·rw [hq]
      exact ⟨rfl, rfl, (ha.mono (ρ' := ρ1.put σ1.nx ⟨W1.heap.size, 0, 0⟩) (fun b r hr => ext2 _ _ (p1.ext _ _ hr))).tmps, rfl, rfl, rfl⟩
    have hin2 : In P base (σ1.new (.loop q)) σ' (ρ1.put σ1.nx ⟨W1.heap.size, 0, 0⟩) W2 := hin1.next p2 f2.le
    have e02 : Rho.le ρ (ρ1.put σ1.nx ⟨W1.heap.size, 0, 0⟩) := fun b r hr => ext2 _ _ (p1.ext _ _ hr)
    have hargs : LR (ρ1.put σ1.nx ⟨W1.heap.size, 0, 0⟩) (first ++ [.yield σ1.nx] ++ captured) (F.toArray ++ #[Value.func (.yield W1.heap.size) #[] #[]] ++ C.toArray).toList := by
     have hy : VR (ρ1.put σ1.nx ⟨W1.heap.size, 0, 0⟩) (.yield σ1.nx) (.func (.yield W1.heap.size) #[] #[]) := .yield hput
     have := LR.append (LR.append (hF.mono e02) (LR.cons hy (LR.nil _))) (hC.mono e02)
     simpa using this
    obtain ⟨f3, hfd, hcall⟩ := y6 hlp hle hex hc d2 base _ _ W2 (hin2.less (by omega)) hargs
    refine ⟨f3, F.toArray, C.toArray, W2, hV, hW2, hfd, hcall.mono ?_⟩
    rintro E W3 ⟨V, ρ3, rfl, _, p3⟩
    have d3 := f3.dom d2
    obtain ⟨r4, m4, L4, hr4, hw4, hb4, hm4, hdf4, hl4⟩ := p3.sim.ok _ _ hq3
    have hr3 := p3.ext _ _ hput
    rw [hr4] at hr3; cases hr3
    have hlt := (Array.getElem?_eq_some_iff.1 hw4).1
    have hnb : L4.state ≠ .busy := by
     rw [hl4.state]
     intro hbs
     apply hb3
     revert hbs
     cases q3.state <;> intro hbs <;> first | rfl | cases hbs
    obtain ⟨W4, hW4⟩ : ∃ W4, W4 = W3.putObj W1.heap.size (.loop { L4 with state := .exhausted }) := ⟨_, rfl⟩
    have p4 : PostS P base fl σ3 σ' ρ3 ρ3 W3 W4 := by
     rw [hs', hW4]
     refine yZ p3.sim hq3 rfl hfl hr4 (HS.get_upd σ3 _ _) rfl rfl rfl (uN hw4 rfl) (by simp) (fun k _ hk => World.putObj_heap_other hk) (fun z hz => ?_)
     cases hz
     exact ⟨_, m4, _, hr4, World.putObj_heap_same hlt, hb4, hm4, hdf4, rfl, hl4.pending, hl4.tmps, hl4.params, hl4.assign, hl4.body⟩
    have f4 : HFS fl σ3 σ' := by rw [hs']; exact y7 hfl (d3 _ _ hq3) (HS.get_upd σ3 _ _)
    have pall : PostS P base fl σ σ' ρ ρ3 W W4 := by
     have q1 := Post.trans f1.le f2.le p1 p2
     have q2 := Post.trans (f1.trans f2).le f3.le q1 p3
     exact Post.trans ((f1.trans f2).trans f3).le f4.le q2 p4
    have e13 : Rho.le ρ1 ρ3 := fun b r hr => p3.ext _ _ (ext2 _ _ hr)
    have hA : AR ρ3 a' { A with defers := (ms.map fun k => ⟨.collected ((ρ1 k).elim 0 RI.blk), #[]⟩) ++ A.defers } := by
     have h0 := ha.mono (ρ' := ρ3) (fun b r hr => e13 _ _ (p1.ext _ _ hr))
     rw [ha']
     refine ⟨h0.tmps, ?_, ?_⟩
     ·show _ ++ A.defers = List.map _ (ms ++ a.defers)
      rw [List.map_append, h0.defers]
      congr 1
      apply List.map_congr_left
      intro k hk
      obtain ⟨x, hx⟩ := Option.isSome_iff_exists.1 (hms k hk)
      rw [hx, e13 _ _ hx]
     ·intro k hk
      rcases List.mem_append.1 hk with hk | hk
      ·obtain ⟨x, hx⟩ := Option.isSome_iff_exists.1 (hms k hk)
       rw [e13 _ _ hx]; rfl
      ·exact h0.marks k hk
    refine ⟨L4.pending, W4, by rw [hW4]; exact run_endLoop hw4 hnb, ?_⟩
    rw [hl4.pending]
    subst he
    cases hp : q3.pending with
    | normal => exact ⟨ρ3, pall, rfl, hA⟩
    | exit id => exact wpIn_exit ⟨ρ3, pall, rfl, hA⟩
    | ret => exact wpIn_ret ⟨ρ3, pall, rfl, hA⟩
   obtain ⟨f3, _⟩ := all 0
   have f4 : HFS fl σ3 σ' := by rw [hs']; exact y7 hfl ((f3.dom d2) _ _ hq3) (HS.get_upd σ3 _ _)
   refine ⟨((f1.trans f2).trans f3).trans f4, wpIn_rangeFunc fun fn _ => ?_⟩
   obtain ⟨_, F1, C1, W2, hV1, hW2, ⟨fd, q1, q2, q3'⟩, hcall⟩ := all fn
   refine ⟨W1.heap.size, (ms.map fun k => ⟨.collected ((ρ1 k).elim 0 RI.blk), #[]⟩), W2, { target := .fn (.func f) C1, args := F1 ++ #[.func (.yield W1.heap.size) #[] #[]] }, W2, f, F1 ++ #[.func (.yield W1.heap.size) #[] #[]] ++ C1, W2, ?_, ?_, fun _ _ => trivial, ?_, ?_, ?_⟩
   ·rw [hW2]; exact henter fn A.tmps ps assign body
   ·have : A.eval (.const (.func (.yield W1.heap.size) #[] #[])) = .func (.yield W1.heap.size) #[] #[] := rfl
    simp [resolve, hV1, Deferred.ofValue, this]
   ·simp [invoke, callFunc, q1]
    rw [if_neg (by intro e; rw [e] at q3'; simp at q3'), if_neg (by intro e; rw [e] at q2; cases q2)]
   ·intro hdep; simp [FR, Fence.wide] at hdep
   ·cases R with
    | none => exact hcall
    | some r => exact CallsIn.inRound r hcall
  ·cases h
 ·cases h
end Go.Hx

namespace Go.Hx
variable {P : Program} {lp : Nat → Option zp} {ex : Ex}
theorem zw {a b : HAct} {x : Lo} (h : ∀ t ∈ x.tmps, a.tmp t = b.tmp t) : a.ev x = b.ev x := by
 cases x with
 | t n => exact h n (by simp [Lo.tmps])
 | c v => rfl
theorem yU {a b : HAct} : ∀ {xs : List Lo}, (∀ t ∈ tmpsOf xs, a.tmp t = b.tmp t) → xs.map a.ev = xs.map b.ev
 | [], _ => rfl
 | x :: xs, h => by
  simp only [tmpsOf, List.flatMap_cons, List.mem_append] at h
  rw [List.map_cons, List.map_cons, zw (fun t ht => h t (.inl ht)), yU (fun t ht => h t (.inr ht))]
theorem uh {a b : HAct} {x : Option Lo} (h : ∀ t ∈ oTmps x, a.tmp t = b.tmp t) : x.map a.ev = x.map b.ev := by
 cases x with
 | none => rfl
 | some x => rw [Option.map_some, Option.map_some, zw h]
theorem vS {a b : HAct} : ∀ {ps : List (Nat × Nat × Lo)}, (∀ t ∈ (ps.flatMap fun (_, _, x) => x.tmps), a.tmp t = b.tmp t) → evParts a ps = evParts b ps
 | [], _ => rfl
 | (o, s, x) :: ps, h => by
  simp only [List.flatMap_cons, List.mem_append] at h
  have := vS (a := a) (b := b) (ps := ps) (fun t ht => h t (.inr ht))
  simp only [evParts, List.map_cons] at this ⊢
  rw [zw (fun t ht => h t (.inl ht)), this]
theorem Xo {fl : Nat} {l : LOp} {a b : HAct} (σ : HS) (hn : a.nt = b.nt) (h : ∀ t ∈ l.tmps, a.tmp t = b.tmp t) : opH lp ex fl l a σ = opH lp ex fl l b σ := by
 cases l <;> simp only [LOp.tmps, List.mem_append] at h <;> simp only [opH]
 case move x => simp only [oMove, zw h]
 case pick c x y => simp only [oPick, zw (fun t ht => h t (.inl (.inl ht))), zw (fun t ht => h t (.inl (.inr ht))), zw (fun t ht => h t (.inr ht))]
 case alloc => rfl
 case box => simp only [oBox, zw h]
 case build => simp only [oBuild, vS h]
 case buildSlice => simp only [oBuildSlice, vS h]
 case load => simp only [oLoad, zw h]
 case store => simp only [oStore, zw (fun t ht => h t (.inl ht)), zw (fun t ht => h t (.inr ht))]
 case fieldAddr => simp only [oFieldAddr, zw h]
 case indexAddrS => simp only [oIndexAddrS, zw (fun t ht => h t (.inl ht)), zw (fun t ht => h t (.inr ht))]
 case indexAddrA => simp only [oIndexAddrA, zw (fun t ht => h t (.inl ht)), zw (fun t ht => h t (.inr ht))]
 case field => simp only [oField, zw h]
 case indexA => simp only [oIndexA, zw (fun t ht => h t (.inl ht)), zw (fun t ht => h t (.inr ht))]
 case bin => simp only [oBin, zw (fun t ht => h t (.inl ht)), zw (fun t ht => h t (.inr ht))]
 case eq => simp only [oEq, zw (fun t ht => h t (.inl ht)), zw (fun t ht => h t (.inr ht))]
 case un => simp only [oUn, zw h]
 case convInt => simp only [oConvInt, zw h]
 case makeFunc => simp only [oMakeFunc, yU (fun t ht => h t (.inl ht)), yU (fun t ht => h t (.inr ht))]
 case makeMap => rfl
 case makeSlice => simp only [oMakeSlice, zw (fun t ht => h t (.inl ht)), zw (fun t ht => h t (.inr ht))]
 case sliceS => simp only [oSliceS, zw (fun t ht => h t (.inl (.inl ht))), uh (fun t ht => h t (.inl (.inr ht))), uh (fun t ht => h t (.inr ht))]
 case sliceA => simp only [oSliceA, zw (fun t ht => h t (.inl (.inl ht))), uh (fun t ht => h t (.inl (.inr ht))), uh (fun t ht => h t (.inr ht))]
 case copy => simp only [oCopy, zw (fun t ht => h t (.inl ht)), zw (fun t ht => h t (.inr ht))]
 case lookup => simp only [oLookup, zw (fun t ht => h t (.inl ht)), zw (fun t ht => h t (.inr ht))]
 case mapUpdate => simp only [oMapUpdate, zw (fun t ht => h t (.inl (.inl ht))), zw (fun t ht => h t (.inl (.inr ht))), zw (fun t ht => h t (.inr ht))]
 case extract => simp only [oExtract, zw h]
 case len => simp only [oLen, zw h]
 case cap => simp only [oCap, zw h]
 case min => simp only [oMin, yU h]
 case max => simp only [oMax, yU h]
 case appendZ => simp only [oAppendZ, zw (fun t ht => h t (.inl ht)), zw (fun t ht => h t (.inr ht))]
 case append => simp only [oAppend, zw (fun t ht => h t (.inl ht)), zw (fun t ht => h t (.inr ht))]
 case nilCheck => simp only [oNilCheck, zw h]
 case call => simp only [oCall, zw (fun t ht => h t (.inl ht)), yU (fun t ht => h t (.inr ht))]
 case callC f xs cs =>
  have hc : ∀ (σ' : HS) (cs : List (Bool × Nat × Lo × Nat)), (∀ t ∈ cs.flatMap (fun (_, _, x, t) => t :: x.tmps), a.tmp t = b.tmp t) → chkH a σ' cs = chkH b σ' cs := by
   intro σ' cs
   induction cs with
   | nil => intro _; rfl
   | cons c cs ih =>
    obtain ⟨g, n, x, t⟩ := c
    intro hm
    simp only [List.flatMap_cons, List.mem_append] at hm
    unfold chkH
    rw [ih (fun t ht => hm t (.inr ht))]
    have e1 : oLoad g n x a σ' = oLoad g n x b σ' := by simp only [oLoad, zw (fun t' ht => hm t' (.inl (List.mem_cons_of_mem _ ht)))]
    rw [e1, hm t (.inl (List.mem_cons_self ..)), hn]
  simp only [oCallC, zw (fun t ht => h t (.inl (.inl ht))), yU (fun t ht => h t (.inl (.inr ht))), hc _ cs (fun t ht => h t (.inr ht))]
 case bad => rfl
theorem yC {σ σ' : HS} {r : Option HV} {v : HV} (h : keep σ r = some (v, σ')) : σ' = σ ∧ ∀ σ2, keep σ2 r = some (v, σ2) := by
 cases r with
 | none => cases h
 | some u => cases h; exact ⟨rfl, fun _ => rfl⟩
theorem X9 {fl : Nat} {l : LOp} {a : HAct} {σ σ' : HS} {v : HV} (ht : l.touches = false) (h : opH lp ex fl l a σ = some (v, σ')) : σ' = σ ∧ ∀ fl2 σ2, opH lp ex fl2 l a σ2 = some (v, σ2) := by
 cases l <;> simp only [LOp.touches, reduceCtorEq] at ht <;> simp only [opH] at h ⊢
 case move => cases h; exact ⟨rfl, fun _ _ => rfl⟩
 case pick =>
  unfold oPick at h ⊢
  split at h
  ·rename_i hb; cases h; exact ⟨rfl, fun _ _ => rfl⟩
  ·cases h
 case build =>
  unfold oBuild at h ⊢
  split at h
  ·rename_i hb; cases h; exact ⟨rfl, fun _ _ => rfl⟩
  ·cases h
 case fieldAddr =>
  unfold oFieldAddr at h ⊢
  split at h
  ·rename_i hb; cases h; exact ⟨rfl, fun _ _ => rfl⟩
  ·cases h
 case indexAddrS =>
  unfold oIndexAddrS stepTo at h ⊢
  split at h
  ·rename_i hb
   split at h
   ·rename_i hi
    revert h
    generalize Nat.blt _ _ = c
    intro h
    cases c with
    | false => cases h
    | true => cases h; exact ⟨rfl, fun _ _ => rfl⟩
   ·cases h
  ·cases h
 case indexAddrA =>
  unfold oIndexAddrA stepTo at h ⊢
  split at h
  ·rename_i hb
   split at h
   ·rename_i hi
    revert h
    generalize Nat.blt _ _ = c
    intro h
    cases c with
    | false => cases h
    | true => cases h; exact ⟨rfl, fun _ _ => rfl⟩
   ·cases h
  ·cases h
 case field =>
  unfold oField at h ⊢
  split at h
  ·rename_i hb; exact ⟨(yC h).1, fun _ => (yC h).2⟩
  ·cases h
 case indexA =>
  unfold oIndexA at h ⊢
  split at h
  ·rename_i hb hi
   revert h
   generalize Nat.blt _ _ = c
   intro h
   cases c with
   | false => cases h
   | true => exact ⟨(yC h).1, fun _ => (yC h).2⟩
  ·cases h
 case bin => exact ⟨(yC h).1, fun _ => (yC h).2⟩
 case eq =>
  unfold oEq at h ⊢
  split at h
  ·rename_i hb; cases h; exact ⟨rfl, fun _ _ => rfl⟩
  ·cases h
 case un => exact ⟨(yC h).1, fun _ => (yC h).2⟩
 case convInt =>
  unfold oConvInt at h ⊢
  split at h
  ·rename_i hb; cases h; exact ⟨rfl, fun _ _ => rfl⟩
  ·cases h
 case makeFunc => cases h; exact ⟨rfl, fun _ _ => rfl⟩
 case extract =>
  unfold oExtract at h ⊢
  split at h
  ·rename_i hb; exact ⟨(yC h).1, fun _ => (yC h).2⟩
  ·cases h
 case nilCheck =>
  unfold oNilCheck at h ⊢
  split at h
  ·rename_i hb; cases h; exact ⟨rfl, fun _ _ => rfl⟩
  ·rename_i hb; cases h; exact ⟨rfl, fun _ _ => rfl⟩
  ·cases h
theorem v9 {fl : Nat} {o : zh} {a b : HAct} (σ : HS) (hn : a.nt = b.nt) (h : ∀ t ∈ o.names, a.tmp t = b.tmp t) : stepVal lp ex fl o a σ = stepVal lp ex fl o b σ := by
 unfold stepVal
 have h1 : wantedH o.g a = wantedH o.g b := by
  unfold wantedH
  cases hg : o.g with
  | none => rfl
  | some q =>
   obtain ⟨t, w⟩ := q
   have : a.tmp t = b.tmp t := h t (by simp [zh.names, hg])
   simp only [this]
 rw [h1, Xo σ hn (fun t ht => h t (by simp [zh.names, ht]))]
theorem jf {fl : Nat} {o : zh} {a : HAct} {σ σ' : HS} {v : HV} (ht : o.op.touches = false) (h : stepVal lp ex fl o a σ = some (v, σ')) : σ' = σ ∧ ∀ fl2 σ2, stepVal lp ex fl2 o a σ2 = some (v, σ2) := by
 unfold stepVal at h ⊢
 cases hw : wantedH o.g a with
 | true =>
  rw [hw] at h
  obtain ⟨h1, h2⟩ := X9 ht h
  exact ⟨h1, fun fl2 σ2 => by simp only [cond_true]; exact h2 fl2 σ2⟩
 | false => rw [hw] at h; cases h; exact ⟨rfl, fun _ _ => rfl⟩
end Go.Hx

