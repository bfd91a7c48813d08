/- The plain machine and Go's: maps. -/
import Derived.Test.YtojkmobfhkjfnaaHxM
set_option linter.all false
namespace Go.Hx
variable {P : Program} {base fl : Nat} {a : HAct} {σ σ' : HS} {v : HV} {ρ : Rho} {A : Act} {W : World} {o : Oper}

theorem check_fields {d n : Nat} {em : Bool} (IH : ∀ (t : TypeId) (ks : List Leaf), leaves P d t = some ks → ∀ X : List Value, X.length = ks.length → (Instr.checkKey em n t (mk P t X)).run P W = .ok () W) :
    ∀ (fs : List Field) (off : Nat) (ks : List Leaf), leavesF P (leaves P d) fs off = some ks → ∀ X : List Value, X.length = off + ks.length →
      (forIn fs PUnit.unit (fun (f : Field) (_ : PUnit) => (if f.name ≠ "_" then do
          let y ← part f.type X.toArray f.offset
          Instr.checkKey em n f.type y
          pure (ForInStep.yield PUnit.unit)
        else pure (ForInStep.yield PUnit.unit) : Sem (ForInStep PUnit)))).run P W = .ok PUnit.unit W
  | [], _, _, _, _, _ => by simp
  | f :: fs, off, ks, h, X, hX => by
    unfold leavesF at h
    split at h
    · rename_i k1 m e1 e2
      cases hc : (f.name != "_" && Nat.beq f.offset off && Nat.beq m k1.length) with
      | false => rw [hc] at h; cases h
      | true =>
        rw [hc] at h
        simp only [cond_true, Option.map_eq_some_iff] at h
        simp only [Bool.and_eq_true, bne_iff_ne, ne_eq, Nat.beq_eq] at hc
        obtain ⟨⟨c1, c2⟩, c3⟩ := hc
        obtain ⟨k2, e3, rfl⟩ := h
        simp only [List.length_append] at hX
        obtain ⟨g, hg, hgn⟩ := leaves_agg e1
        have p1 := part_mk (P := P) (W := W) (off := f.offset) (C := X) hg e2 (fun e => by rw [c3]; exact hgn e) (by omega)
        have hk := IH f.type k1 e1 ((X.drop f.offset).take m) (by simp; omega)
        have hrest := check_fields IH fs (off + m) k2 e3 X (by omega)
        simp only [List.forIn_cons, c1, ne_eq, not_false_eq_true, if_true, Sem.run_bind, p1, Result.andThen_ok, hk, Sem.run_pure]
        exact hrest
    · cases h
theorem check_leaves (em : Bool) : ∀ (d : Nat) (t : TypeId) (ks : List Leaf), leaves P d t = some ks → ∀ n, d ≤ n → ∀ X : List Value, X.length = ks.length → (Instr.checkKey em n t (mk P t X)).run P W = .ok () W
  | 0, t, ks, h, _, _, _, _ => by simp [leaves] at h
  | d + 1, t, ks, h, n, hn, X, hX => by
    obtain ⟨m, rfl⟩ : ∃ m, n = m + 1 := ⟨n - 1, by omega⟩
    have flat : ∀ V, (P.underlying t = some .bool ∨ (∃ k, P.underlying t = some (.int k)) ∨ P.underlying t = some .string) → (Instr.checkKey em (m + 1) t V).run P W = .ok () W := by
      intro V hu
      rcases hu with hu | ⟨k, hu⟩ | hu <;> simp [Instr.checkKey, run_under hu]
    have h' := h
    unfold leaves at h
    split at h
    · rename_i hu; exact flat _ (.inl hu)
    · rename_i k hu; exact flat _ (.inr (.inl ⟨k, hu⟩))
    · rename_i hu; exact flat _ (.inr (.inr hu))
    · rename_i fs hu
      cases hst : P.stoodInHeld t with
      | true => rw [hst] at h; cases h
      | false =>
        rw [hst] at h
        simp only [cond_false] at h
        have hg : aggOf P t = some true := by simp [aggOf, hu]
        have := check_fields (em := em) (W := W) (fun t ks h X hX => check_leaves em d t ks h m (by omega) X hX) fs.toList 0 ks h X (by omega)
        simp only [mk, hg, Instr.checkKey, Sem.run_bind, run_under hu, Result.andThen_ok]
        rw [← Array.forIn_toList]
        simp at this ⊢
        rw [this]
        rfl
    · cases h
theorem key_ed {t : TypeId} {d : ED} (h : keyEd P t = some d) : edOf P t = some d ∧ ((∃ k, d = .cell k) ∨ ∃ ks, d = .row ks) := by
  unfold keyEd at h
  split at h
  · rename_i k hk; cases h; exact ⟨hk, .inl ⟨k, rfl⟩⟩
  · rename_i k hk; cases h; exact ⟨hk, .inr ⟨k, rfl⟩⟩
  · cases h
theorem check_key {em : Bool} {d : ED} {t : TypeId} {x : HV} {X : Value} (hd : keyEd P t = some d) (he : keyOk d x = true) (hx : VR ρ x X) : (Instr.checkKey em 10000 t X).run P W = .ok () W := by
  obtain ⟨b, hb⟩ := Option.isSome_iff_exists.1 he
  obtain ⟨h1, h2⟩ := key_ed hd
  have hf := ed_fits h1
  rcases h2 with ⟨k, rfl⟩ | ⟨ks, rfl⟩
  · obtain ⟨td, hu, hl⟩ := hf
    show (Instr.checkKey em (9999 + 1) t X).run P W = .ok () W
    generalize 9999 = n
    cases td <;> cases k <;> simp [leafFits] at hl <;> simp [Instr.checkKey, run_under hu]
  · obtain ⟨_, hl, hg⟩ := hf
    cases x <;> simp only [eqH] at hb <;> first | contradiction | skip
    rename_i xs
    obtain ⟨C, rfl, hC⟩ := VR.inv_agg hx
    have hlen := (eq_row_len hb).1
    have := check_leaves (P := P) (W := W) em 20 t ks hl 10000 (by omega) C (by rw [← hC.1]; exact hlen)
    simpa [mk, hg] using this
def Found (ρ : Rho) : Option HV → Option (Nat × Value) → Prop
  | none, none => True
  | some v, some (_, V) => VR ρ v V
  | _, _ => False
/-- Looking for a key among a map's entries. -/
theorem find_asking {d : ED} {t : TypeId} {k : HV} {K : Value} (hd : EdFits P t d) (hk : VR ρ k K) : ∀ (es : List (HV × HV)) (E : List MapEntry) (i : Nat) (r : Option HV), findH d k es = some r → ER ρ es E →
    ∃ R, (Instr.findAsking t K E i).run P W = .ok R W ∧ Found ρ r R
  | [], E, i, r, h, he => by
    have : E = [] := by have := he.1; simp at this; exact List.length_eq_zero_iff.1 this.symm
    subst this
    cases h
    exact ⟨none, by simp [Instr.findAsking], trivial⟩
  | (x, w) :: es, E, i, r, h, he => by
    cases E with
    | nil => have := he.1; simp at this
    | cons e E =>
      obtain ⟨hx, hw⟩ := he.2 0 _ _ rfl rfl
      have he' : ER ρ es E := ⟨by have := he.1; simpa using this, fun j p q hp hq => he.2 (j + 1) p q (by simpa using hp) (by simpa using hq)⟩
      unfold findH at h
      split at h
      · rename_i hq
        cases h
        have := equal_run (W := W) hd hq hk hx
        exact ⟨some (i, e.val), by simp [Instr.findAsking, this], hw⟩
      · rename_i hq
        have := equal_run (W := W) hd hq hk hx
        obtain ⟨R, h1, h2⟩ := find_asking hd hk es E (i + 1) r h he'
        exact ⟨R, by simp [Instr.findAsking, this, h1], h2⟩
      · cases h
theorem find_now {k : Leaf} {td : TypeDesc} {x : HV} {K : Value} (hf : leafFits k td) (hk : VR ρ x K) : ∀ (es : List (HV × HV)) (E : List MapEntry) (i : Nat) (r : Option HV), findH (.cell k) x es = some r → ER ρ es E →
    ∃ R, Instr.findNow td K E i = some R ∧ Found ρ r R
  | [], E, i, r, h, he => by
    have : E = [] := by have := he.1; simp at this; exact List.length_eq_zero_iff.1 this.symm
    subst this
    cases h
    exact ⟨none, rfl, trivial⟩
  | (y, w) :: es, E, i, r, h, he => by
    cases E with
    | nil => have := he.1; simp at this
    | cons e E =>
      obtain ⟨hx, hw⟩ := he.2 0 _ _ rfl rfl
      have he' : ER ρ es E := ⟨by have := he.1; simpa using this, fun j p q hp hq => he.2 (j + 1) p q (by simpa using hp) (by simpa using hq)⟩
      unfold findH at h
      split at h
      · rename_i hq
        cases h
        have := (eq_leaf (P := default) (W := default) hq hk hx).2.2.2 td hf
        exact ⟨some (i, e.val), by simp [Instr.findNow, this], hw⟩
      · rename_i hq
        have := (eq_leaf (P := default) (W := default) hq hk hx).2.2.2 td hf
        obtain ⟨R, h1, h2⟩ := find_now hf hk es E (i + 1) r h he'
        exact ⟨R, by simp [Instr.findNow, this, h1], h2⟩
      · cases h
theorem find_key {d : ED} {t : TypeId} {k : HV} {K : Value} (hd : keyEd P t = some d) (hk : VR ρ k K) {es : List (HV × HV)} {E : List MapEntry} {r : Option HV} (h : findH d k es = some r) (he : ER ρ es E) :
    ∃ R, (Instr.findKey t K E).run P W = .ok R W ∧ Found ρ r R := by
  obtain ⟨h1, h2⟩ := key_ed hd
  have hf := ed_fits h1
  rcases h2 with ⟨k, rfl⟩ | ⟨ks, rfl⟩
  · obtain ⟨td, hu, hl⟩ := hf
    obtain ⟨R, g1, g2⟩ := find_now hl hk es E 0 r h he
    exact ⟨R, by simp [Instr.findKey, run_under hu, g1], g2⟩
  · obtain ⟨R, g1, g2⟩ := find_asking (W := W) hf hk es E 0 r h he
    obtain ⟨_, hl, hg⟩ := hf
    have hu : ∃ fs, P.underlying t = some (.struct fs) := by
      have hl' := hl
      unfold leaves at hl
      split at hl
      · rename_i hu; simp [aggOf, hu] at hg
      · rename_i hu; simp [aggOf, hu] at hg
      · rename_i hu; simp [aggOf, hu] at hg
      · rename_i fs hu; exact ⟨fs, hu⟩
      · cases hl
    obtain ⟨fs, hu⟩ := hu
    cases E with
    | nil =>
      have : es = [] := by have := he.1; simp at this; exact this
      subst this
      cases h
      exact ⟨none, by simp [Instr.findKey, run_under hu, Instr.findNow], trivial⟩
    | cons e E => exact ⟨R, by simp [Instr.findKey, run_under hu, Instr.findNow, Instr.sameNow, g1], g2⟩

theorem op_lookup {t kt e : TypeId} {m k : Operand} {m' k' : Lo} {ok : Bool} {d : ED} {z : HV} (ho : o.op = .lookup t m k ok) (hu : P.underlying t = some (.map kt e)) (hd : keyEd P kt = some d) (hz : zeroV P e = some z) (hm : lowX m = some m') (hk : lowX k = some k')
    (h : oLookup d z ok m' k' a σ = some (v, σ')) (hs : Sim P base σ.h.get ρ W) (ha : AR ρ a A) : HF fl σ.nx σ'.nx σ.h.get σ'.h.get ∧ Does P base fl σ σ' ρ W (execOp A.eval o) v := by
  obtain ⟨i, Z, i1, i2, i3⟩ := info_zero hz ρ
  have h1 := ev_ok ha hm
  have h2 := ev_ok ha hk
  have fin : ∀ (w : HV) (is : Bool) (U : Value), found ok w is σ = some (v, σ') → VR ρ w U → ((execOp A.eval o).run P W = .ok (.value (if ok then .tuple #[U, .bool is] else U)) W) → HF fl σ.nx σ'.nx σ.h.get σ'.h.get ∧ Does P base fl σ σ' ρ W (execOp A.eval o) v := by
    intro w is U hf hw hr
    unfold found at hf
    cases ok with
    | true =>
      cases hf
      refine ⟨HF.refl _ _ _, does_value hs hr ?_⟩
      exact VR.tupleL (LR.cons hw (LR.cons (.bool is) (LR.nil ρ)))
    | false =>
      cases hf
      exact ⟨HF.refl _ _ _, does_value hs hr hw⟩
  unfold oLookup at h
  cases hc : keyOk d (a.ev k') with
  | false => rw [hc] at h; cases h
  | true =>
    rw [hc] at h
    simp only [cond_true] at h
    have hck : ∀ em, (Instr.checkKey em 10000 kt (A.eval k)).run P W = .ok () W := fun em => check_key hd hc h2
    split at h
    · rename_i e1
      rw [e1] at h1
      have hV := vr_nilmap h1
      obtain ⟨R, g1, g2⟩ := find_key (W := W) hd h2 (es := []) (E := []) (r := none) rfl ⟨rfl, fun j p q hp => by simp at hp⟩
      cases R with
      | some R => exact g2.elim
      | none =>
        refine fin z false Z h i3 ?_
        cases ok <;> simp [execOp, ho, hV, Instr.lookup, run_under hu, hck, g1, run_zero i1 i2]
    · rename_i r e1
      rw [e1] at h1
      obtain ⟨q, hq, hV⟩ := vr_map h1
      split at h
      · rename_i es hes
        obtain ⟨q', E, cl, hq', hw, _, her⟩ := hs.ok _ _ hes
        rw [hq] at hq'; cases hq'
        have hobj : (getObj q.blk).run P W = .ok (.map E cl) W := by simp [getObj, Sem.run, hw]
        split at h
        · rename_i w hf
          obtain ⟨R, g1, g2⟩ := find_key (W := W) hd h2 hf her
          cases R with
          | none => exact g2.elim
          | some R =>
            obtain ⟨j, U⟩ := R
            refine fin w true U h g2 ?_
            cases ok <;> simp [execOp, ho, hV, Instr.lookup, run_under hu, hobj, hck, g1]
        · rename_i hf
          obtain ⟨R, g1, g2⟩ := find_key (W := W) hd h2 hf her
          cases R with
          | some R => exact g2.elim
          | none =>
            refine fin z false Z h i3 ?_
            cases ok <;> simp [execOp, ho, hV, Instr.lookup, run_under hu, hobj, hck, g1, run_zero i1 i2]
        · cases h
      · cases h
    · cases h
end Go.Hx
