/- The plain machine and Go's: equality of plain values; maps. -/
import Derived.Test.YtojkmobfhkjfnaaHxJ
set_option linter.all false
namespace Go.Hx
variable {P : Program} {base fl : Nat} {a : HAct} {σ σ' : HS} {v : HV} {ρ : Rho} {A : Act} {W : World} {o : Oper}

def leafFits : Leaf → TypeDesc → Prop
  | .b, .bool => True
  | .i k, .int k' => k' = k
  | .s, .string => True
  | _, _ => False
theorem bytes_eq {a b : ByteArray} (h : (a == b) = true) : a = b := by
  obtain ⟨x⟩ := a
  obtain ⟨y⟩ := b
  have h' : (x == y) = true := h
  rw [eq_of_beq h']
theorem eq_leaf {k : Leaf} {x y : HV} {X Y : Value} {b : Bool} (h : eqLeaf k x y = some b) (hx : VR ρ x X) (hy : VR ρ y Y) :
    (b = true → X = Y) ∧ (∀ n, b = true → Instr.sameBits n X Y = true) ∧ (∀ d t td, P.underlying t = some td → leafFits k td → (Op.equalIn (d + 1) t X Y).run P W = .ok b W) ∧ (∀ td, leafFits k td → Instr.sameNow td X Y = some b) := by
  unfold eqLeaf at h
  split at h
  · cases h
    rw [vr_bool hx, vr_bool hy]
    refine ⟨fun e => by simpa using e, fun n e => ?_, fun d t td hu hf => ?_, fun td hf => ?_⟩
    · cases n <;> simpa [Instr.sameBits] using e
    · cases td <;> simp [leafFits] at hf
      simp [Op.equalIn, run_under hu]
    · cases td <;> simp [leafFits] at hf
      rfl
  · split at h
    · rename_i hk
      obtain ⟨rfl, rfl⟩ := hk
      cases h
      rw [vr_int hx, vr_int hy]
      refine ⟨fun e => by simpa using e, fun n e => ?_, fun d t td hu hf => ?_, fun td hf => ?_⟩
      · cases n <;> simpa [Instr.sameBits] using e
      · cases td <;> simp [leafFits] at hf
        simp [Op.equalIn, run_under hu]
      · cases td <;> simp [leafFits] at hf
        simp [Instr.sameNow]
    · cases h
  · cases h
    rw [vr_str hx, vr_str hy]
    refine ⟨fun e => by rw [bytes_eq e], fun n e => ?_, fun d t td hu hf => ?_, fun td hf => ?_⟩
    · cases n <;> simpa [Instr.sameBits] using e
    · cases td <;> simp [leafFits] at hf
      simp [Op.equalIn, run_under hu]
    · cases td <;> simp [leafFits] at hf
      rfl
  · cases h
theorem eq_row_len : ∀ {ks : List Leaf} {xs ys : List HV} {b : Bool}, eqRow ks xs ys = some b → xs.length = ks.length ∧ ys.length = ks.length
  | [], [], [], b, h => ⟨rfl, rfl⟩
  | k :: ks, x :: xs, y :: ys, b, h => by
    unfold eqRow at h
    split at h
    · rename_i e1 e2
      have := eq_row_len e2
      simp [this.1, this.2]
    · cases h
  | [], [], _ :: _, b, h => by simp [eqRow] at h
  | [], _ :: _, _, b, h => by simp [eqRow] at h
  | _ :: _, [], _, b, h => by simp [eqRow] at h
  | _ :: _, _ :: _, [], b, h => by simp [eqRow] at h
theorem eq_row_split : ∀ {k1 k2 : List Leaf} {xs ys : List HV} {b : Bool}, eqRow (k1 ++ k2) xs ys = some b →
    ∃ b1 b2, eqRow k1 (xs.take k1.length) (ys.take k1.length) = some b1 ∧ eqRow k2 (xs.drop k1.length) (ys.drop k1.length) = some b2 ∧ b = (b1 && b2)
  | [], k2, xs, ys, b, h => ⟨true, b, by simp [eqRow], by simpa using h, by simp⟩
  | k :: k1, k2, xs, ys, b, h => by
    cases xs with
    | nil => simp [eqRow] at h
    | cons x xs =>
      cases ys with
      | nil => simp [eqRow] at h
      | cons y ys =>
        simp only [List.cons_append, eqRow] at h
        split at h
        · rename_i a1 a2 e1 e2
          cases h
          obtain ⟨b1, b2, f1, f2, f3⟩ := eq_row_split e2
          refine ⟨a1 && b1, b2, ?_, by simpa using f2, by rw [f3, Bool.and_assoc]⟩
          simp [eqRow, e1, f1]
        · cases h
theorem eq_row_true : ∀ {ks : List Leaf} {xs ys : List HV} {X Y : List Value} {b : Bool}, eqRow ks xs ys = some b → LR ρ xs X → LR ρ ys Y → b = true → X = Y ∧ ∀ n, (X.zip Y).all (fun (p : Value × Value) => Instr.sameBits n p.1 p.2) = true
  | [], [], [], X, Y, b, h, hx, hy, _ => by
    rw [LR.inv_nil hx, LR.inv_nil hy]
    exact ⟨rfl, fun n => rfl⟩
  | k :: ks, x :: xs, y :: ys, X, Y, b, h, hx, hy, hb => by
    unfold eqRow at h
    split at h
    · rename_i a1 a2 e1 e2
      cases h
      simp only [Bool.and_eq_true] at hb
      obtain ⟨u, X', rfl, hu, hx'⟩ := LR.inv hx
      obtain ⟨w, Y', rfl, hw, hy'⟩ := LR.inv hy
      obtain ⟨g1, g2⟩ := eq_row_true e2 hx' hy' hb.2
      obtain ⟨f1, f2, _⟩ := eq_leaf (P := default) (W := default) e1 hu hw
      refine ⟨by rw [f1 hb.1, g1], fun n => ?_⟩
      simp only [List.zip_cons_cons, List.all_cons, Bool.and_eq_true]
      exact ⟨f2 n hb.1, g2 n⟩
    · cases h
  | [], [], _ :: _, X, Y, b, h, _, _, _ => by simp [eqRow] at h
  | [], _ :: _, _, X, Y, b, h, _, _, _ => by simp [eqRow] at h
  | _ :: _, [], _, X, Y, b, h, _, _, _ => by simp [eqRow] at h
  | _ :: _, _ :: _, [], X, Y, b, h, _, _, _ => by simp [eqRow] at h
theorem LR.take {ρ : Rho} {cs : List HV} {C : List Value} (h : LR ρ cs C) (n : Nat) : LR ρ (cs.take n) (C.take n) := by
  refine ⟨by simp [h.1], fun i v u hv hu => ?_⟩
  rw [List.getElem?_take] at hv hu
  split at hv
  · rw [if_pos (by assumption)] at hu; exact h.2 i v u hv hu
  · cases hv
theorem LR.drop {ρ : Rho} {cs : List HV} {C : List Value} (h : LR ρ cs C) (n : Nat) : LR ρ (cs.drop n) (C.drop n) := by
  refine ⟨by simp [h.1], fun i v u hv hu => ?_⟩
  rw [List.getElem?_drop] at hv hu
  exact h.2 _ v u hv hu

/-- A variable of a type: its cells, as one value. -/
def mk (P : Program) (t : TypeId) (X : List Value) : Value :=
  match aggOf P t with
  | some true => .agg X.toArray
  | _ => X.getD 0 Go.undef
theorem part_mk {t : TypeId} {n off : Nat} {C : List Value} {g : Bool} (hg : aggOf P t = some g) (hz : szOf P t = some n) (hn : g = false → n = 1) (hl : off + n ≤ C.length) :
    (part t C.toArray off).run P W = .ok (mk P t ((C.drop off).take n)) W := by
  obtain ⟨i, hi, hi2⟩ := info_size hz
  cases g with
  | true =>
    simp only [part, Sem.run_bind, run_agg hg, Result.andThen_ok, if_true, run_size hi, hi2, Sem.run_pure, mk, hg]
    congr 2
    apply Array.ext'
    simp
  | false =>
    have := hn rfl
    subst this
    have hlt : off < C.length := by omega
    have e : ((C.drop off).take 1).getD 0 Go.undef = C[off] := by
      simp [List.getD, hlt]
    simp [part, run_agg hg, mk, hg, hlt]

theorem leaves_agg {d : Nat} {t : TypeId} {ks : List Leaf} (h : leaves P d t = some ks) : ∃ g, aggOf P t = some g ∧ (g = false → ks.length = 1) := by
  cases d with
  | zero => simp [leaves] at h
  | succ d =>
    unfold leaves at h
    split at h
    · rename_i hu; cases h; exact ⟨false, by simp [aggOf, hu], fun _ => rfl⟩
    · rename_i hu; cases h; exact ⟨false, by simp [aggOf, hu], fun _ => rfl⟩
    · rename_i hu; cases h; exact ⟨false, by simp [aggOf, hu], fun _ => rfl⟩
    · rename_i hu; exact ⟨true, by simp [aggOf, hu], fun h => by cases h⟩
    · cases h
theorem eq_fields {d m : Nat} (IH : ∀ (t : TypeId) (ks : List Leaf), leaves P d t = some ks → ∀ (xs ys : List HV) (X Y : List Value) (b : Bool), eqRow ks xs ys = some b → LR ρ xs X → LR ρ ys Y → (Op.equalIn (d + m) t (mk P t X) (mk P t Y)).run P W = .ok b W) :
    ∀ (fs : List Field) (off : Nat) (ks : List Leaf), leavesF P (leaves P d) fs off = some ks → ∀ (xs ys : List HV) (X Y : List Value) (b : Bool), eqRow ks (xs.drop off) (ys.drop off) = some b → LR ρ xs X → LR ρ ys Y →
      (Op.eqFields (d + m) X.toArray Y.toArray fs).run P W = .ok b W
  | [], off, ks, h, xs, ys, X, Y, b, he, hx, hy => by
    cases h
    have : b = true := by
      cases h1 : xs.drop off <;> cases h2 : ys.drop off <;> simp [h1, h2, eqRow] at he
      exact he
    subst this
    simp [Op.eqFields]
  | f :: fs, off, ks, h, xs, ys, X, Y, b, he, hx, hy => by
    unfold leavesF at h
    split at h
    · rename_i k1 n e1 e2
      cases hc : (f.name != "_" && Nat.beq f.offset off && Nat.beq n k1.length) with
      | false => rw [hc] at h; cases h
      | true =>
        rw [hc] at h
        simp only [cond_true, Option.map_eq_some_iff] at h
        simp only [Bool.and_eq_true, bne_iff_ne, ne_eq, Nat.beq_eq] at hc
        obtain ⟨⟨c1, c2⟩, c3⟩ := hc
        obtain ⟨k2, e3, rfl⟩ := h
        obtain ⟨b1, b2, g1, g2, rfl⟩ := eq_row_split he
        obtain ⟨l1, l2⟩ := eq_row_len he
        simp only [List.length_drop, List.length_append] at l1 l2
        obtain ⟨g, hg, hgn⟩ := leaves_agg e1
        have hxl := hx.1
        have hyl := hy.1
        by_cases h0 : n = 0
        · have hk : k1.length = 0 := by omega
          have hgt : g = true := by
            cases g
            · have := hgn rfl; omega
            · rfl
          subst hgt
          obtain ⟨i, hi, hi2⟩ := info_size e2
          have pX : ∀ C : List Value, (part f.type C.toArray f.offset).run P W = .ok (mk P f.type []) W := fun C => by
            simp only [part, Sem.run_bind, run_agg hg, Result.andThen_ok, if_true, run_size hi, hi2, h0, Sem.run_pure, mk, hg]
            congr 2
            apply Array.ext'
            simp
          have hrun := IH f.type k1 e1 [] [] [] [] b1 (by rw [hk] at g1; simpa using g1) (LR.nil ρ) (LR.nil ρ)
          have hrest := eq_fields IH fs (off + n) k2 e3 xs ys X Y b2 (by rw [h0]; rw [hk] at g2; simpa using g2) hx hy
          simp only [Op.eqFields, c1, ne_eq, not_false_eq_true, if_true, Sem.run_bind, pX, Result.andThen_ok, hrun]
          cases b1
          · simp
          · simpa using hrest
        · have p1 := part_mk (P := P) (W := W) (off := f.offset) (C := X) hg e2 (fun e => by rw [c3]; exact hgn e) (by omega)
          have p2 := part_mk (P := P) (W := W) (off := f.offset) (C := Y) hg e2 (fun e => by rw [c3]; exact hgn e) (by omega)
          have hrun := IH f.type k1 e1 _ _ _ _ b1 g1 ((hx.drop off).take k1.length) ((hy.drop off).take k1.length)
          have hrest := eq_fields IH fs (off + n) k2 e3 xs ys X Y b2 (by rw [c3, ← List.drop_drop, ← List.drop_drop]; exact g2) hx hy
          rw [← c3] at hrun
          rw [c2] at p1 p2
          simp only [Op.eqFields, c1, ne_eq, not_false_eq_true, if_true, Sem.run_bind, c2, p1, p2, Result.andThen_ok, hrun]
          cases b1
          · simp
          · simpa using hrest
    · cases h
theorem eq_leaves (m : Nat) : ∀ (d : Nat) (t : TypeId) (ks : List Leaf), leaves P d t = some ks → ∀ (xs ys : List HV) (X Y : List Value) (b : Bool), eqRow ks xs ys = some b → LR ρ xs X → LR ρ ys Y → (Op.equalIn (d + m) t (mk P t X) (mk P t Y)).run P W = .ok b W
  | 0, t, ks, h, _, _, _, _, _, _, _, _ => by simp [leaves] at h
  | d + 1, t, ks, h, xs, ys, X, Y, b, he, hx, hy => by
    have one : ∀ (k : Leaf) (td : TypeDesc), P.underlying t = some td → leafFits k td → aggOf P t = some false → ks = [k] → (Op.equalIn (d + 1 + m) t (mk P t X) (mk P t Y)).run P W = .ok b W := by
      intro k td hu hf hg hk
      subst hk
      obtain ⟨l1, l2⟩ := eq_row_len he
      cases xs with
      | nil => simp at l1
      | cons x xs =>
        cases ys with
        | nil => simp at l2
        | cons y ys =>
          have h1 : xs = [] := by simpa using l1
          have h2 : ys = [] := by simpa using l2
          subst h1; subst h2
          obtain ⟨u, X', rfl, hu', hX'⟩ := LR.inv hx
          obtain ⟨w, Y', rfl, hw', hY'⟩ := LR.inv hy
          have hb : eqLeaf k x y = some b := by
            simp only [eqRow] at he
            split at he
            · rename_i a1 a2 e1 e2
              cases e2
              simp at he
              subst he
              exact e1
            · cases he
          have := (eq_leaf (P := P) (W := W) hb hu' hw').2.2.1 (d + m) t td hu hf
          have e : d + 1 + m = d + m + 1 := by omega
          rw [e]
          simpa [mk, hg] using this
    unfold leaves at h
    split at h
    · rename_i hu; cases h; exact one .b _ hu trivial (by simp [aggOf, hu]) rfl
    · rename_i k hu; cases h; exact one (.i k) _ hu rfl (by simp [aggOf, hu]) rfl
    · rename_i hu; cases h; exact one .s _ hu trivial (by simp [aggOf, hu]) rfl
    · rename_i fs hu
      cases hst : P.stoodInHeld t with
      | true => rw [hst] at h; cases h
      | false =>
        rw [hst] at h
        simp only [cond_false] at h
        have hfo : P.fieldsOf t = fs := by simp [Program.fieldsOf, hu]
        have hg : aggOf P t = some true := by simp [aggOf, hu]
        have e : d + 1 + m = d + m + 1 := by omega
        rw [e]
        simp only [mk, hg]
        rw [run_equalIn_struct W (d + m) t X.toArray Y.toArray (by rw [hfo]; exact hu) hst, hfo]
        exact eq_fields (eq_leaves m d) fs.toList 0 ks h xs ys X Y b (by simpa using he) hx hy
    · cases h
end Go.Hx
