/- The plain machine and Go's: a map written. -/
import Derived.Test.YtojkmobfhkjfnaaHxN
set_option linter.all false
namespace Go.Hx
variable {P : Program} {base fl : Nat} {a : HAct} {σ σ' : HS} {v : HV} {ρ : Rho} {A : Act} {W : World} {o : Oper}

theorem same_of_eq {d : ED} {x y : HV} {X Y : Value} (hd : (∃ k, d = .cell k) ∨ ∃ ks, d = .row ks) (h : eqH d x y = some true) (hx : VR ρ x X) (hy : VR ρ y Y) : ∀ n, Instr.sameBits (n + 1) Y X = true := by
  intro n
  rcases hd with ⟨k, rfl⟩ | ⟨ks, rfl⟩
  · obtain ⟨h1, h2, _⟩ := eq_leaf (P := default) (W := default) h hx hy
    have := h1 rfl
    subst this
    exact h2 (n + 1) rfl
  · cases x <;> simp only [eqH] at h <;> first | contradiction | skip
    rename_i xs
    cases y <;> simp only [eqH] at h <;> first | contradiction | skip
    rename_i ys
    obtain ⟨C, rfl, hC⟩ := VR.inv_agg hx
    obtain ⟨D, rfl, hD⟩ := VR.inv_agg hy
    obtain ⟨h1, h2⟩ := eq_row_true h hC hD rfl
    subst h1
    simp only [Instr.sameBits, beq_self_eq_true, Bool.true_and]
    exact h2 n
/-- Where a map's entry is found that is to be written. -/
inductive Put (k v : HV) (es es' : List (HV × HV)) (E : List MapEntry) (K : Value) (i : Nat) : Option (Nat × Value) → Prop
  | here (j : Nat) (e : MapEntry) (U : Value) (h1 : E[j]? = some e) (h2 : ∀ n, Instr.sameBits (n + 1) e.key K = true) (h3 : es' = es.set j (k, v)) : Put k v es es' E K i (some (i + j, U))
  | new (h : es' = es ++ [(k, v)]) : Put k v es es' E K i none
theorem Put.cons {k v : HV} {x : HV × HV} {e : MapEntry} {es es' : List (HV × HV)} {E : List MapEntry} {K : Value} {i : Nat} {R : Option (Nat × Value)} (h : Put k v es es' E K (i + 1) R) : Put k v (x :: es) (x :: es') (e :: E) K i R := by
  cases h with
  | here j e' U h1 h2 h3 =>
    have : i + 1 + j = i + (j + 1) := by omega
    rw [this]
    exact .here (j + 1) e' U (by simpa using h1) h2 (by rw [h3]; rfl)
  | new h => exact .new (by rw [h]; rfl)
theorem upd_asking {d : ED} {t : TypeId} {k v : HV} {K : Value} (hd : EdFits P t d) (hc : (∃ k, d = .cell k) ∨ ∃ ks, d = .row ks) (hk : VR ρ k K) : ∀ (es es' : List (HV × HV)) (E : List MapEntry) (i : Nat), updH d k v es = some es' → ER ρ es E →
    ∃ R, (Instr.findAsking t K E i).run P W = .ok R W ∧ Put k v es es' E K i R
  | [], es', E, i, h, he => by
    have : E = [] := by have := he.1; simp at this; exact List.length_eq_zero_iff.1 this.symm
    subst this
    cases h
    exact ⟨none, by simp [Instr.findAsking], .new rfl⟩
  | (x, w) :: es, es', E, i, h, he => by
    cases E with
    | nil => have := he.1; simp at this
    | cons e E =>
      obtain ⟨hx, hw⟩ := he.2 0 _ _ rfl rfl
      have he' : ER ρ es E := ⟨by have := he.1; simpa using this, fun j p q hp hq => he.2 (j + 1) p q (by simpa using hp) (by simpa using hq)⟩
      unfold updH at h
      split at h
      · rename_i hq
        cases h
        have := equal_run (W := W) hd hq hk hx
        exact ⟨some (i, e.val), by simp [Instr.findAsking, this], .here 0 e e.val rfl (same_of_eq hc hq hk hx) rfl⟩
      · rename_i hq
        simp only [Option.map_eq_some_iff] at h
        obtain ⟨es2, h1, rfl⟩ := h
        have := equal_run (W := W) hd hq hk hx
        obtain ⟨R, h2, h3⟩ := upd_asking hd hc hk es es2 E (i + 1) h1 he'
        exact ⟨R, by simp [Instr.findAsking, this, h2], h3.cons⟩
      · cases h
theorem upd_now {k : Leaf} {td : TypeDesc} {x v : HV} {K : Value} (hf : leafFits k td) (hk : VR ρ x K) : ∀ (es es' : List (HV × HV)) (E : List MapEntry) (i : Nat), updH (.cell k) x v es = some es' → ER ρ es E →
    ∃ R, Instr.findNow td K E i = some R ∧ Put x v es es' E K i R
  | [], es', E, i, h, he => by
    have : E = [] := by have := he.1; simp at this; exact List.length_eq_zero_iff.1 this.symm
    subst this
    cases h
    exact ⟨none, rfl, .new rfl⟩
  | (y, w) :: es, es', E, i, h, he => by
    cases E with
    | nil => have := he.1; simp at this
    | cons e E =>
      obtain ⟨hx, hw⟩ := he.2 0 _ _ rfl rfl
      have he' : ER ρ es E := ⟨by have := he.1; simpa using this, fun j p q hp hq => he.2 (j + 1) p q (by simpa using hp) (by simpa using hq)⟩
      unfold updH at h
      split at h
      · rename_i hq
        cases h
        have := (eq_leaf (P := default) (W := default) hq hk hx).2.2.2 td hf
        exact ⟨some (i, e.val), by simp [Instr.findNow, this], .here 0 e e.val rfl (same_of_eq (.inl ⟨k, rfl⟩) hq hk hx) rfl⟩
      · rename_i hq
        simp only [Option.map_eq_some_iff] at h
        obtain ⟨es2, h1, rfl⟩ := h
        have := (eq_leaf (P := default) (W := default) hq hk hx).2.2.2 td hf
        obtain ⟨R, h2, h3⟩ := upd_now hf hk es es2 E (i + 1) h1 he'
        exact ⟨R, by simp [Instr.findNow, this, h2], h3.cons⟩
      · cases h
theorem upd_key {d : ED} {t : TypeId} {k v : HV} {K : Value} (hd : keyEd P t = some d) (hk : VR ρ k K) {es es' : List (HV × HV)} {E : List MapEntry} (h : updH d k v es = some es') (he : ER ρ es E) :
    ∃ R, (Instr.findKey t K E).run P W = .ok R W ∧ Put k v es es' E K 0 R := by
  obtain ⟨h1, h2⟩ := key_ed hd
  have hf := ed_fits h1
  rcases h2 with ⟨k, rfl⟩ | ⟨ks, rfl⟩
  · obtain ⟨td, hu, hl⟩ := hf
    obtain ⟨R, g1, g2⟩ := upd_now hl hk es es' E 0 h he
    exact ⟨R, by simp [Instr.findKey, run_under hu, g1], g2⟩
  · obtain ⟨R, g1, g2⟩ := upd_asking (W := W) hf (.inr ⟨ks, rfl⟩) hk es es' E 0 h he
    obtain ⟨_, hl, hg⟩ := hf
    have hu : ∃ fs, P.underlying t = some (.struct fs) := by
      unfold leaves at hl
      split at hl
      · rename_i hu; simp [aggOf, hu] at hg
      · rename_i hu; simp [aggOf, hu] at hg
      · rename_i hu; simp [aggOf, hu] at hg
      · rename_i fs hu; exact ⟨fs, hu⟩
      · cases hl
    obtain ⟨fs, hu⟩ := hu
    cases E with
    | nil =>
      have : es = [] := by have := he.1; simp at this; exact this
      subst this
      cases h
      exact ⟨none, by simp [Instr.findKey, run_under hu, Instr.findNow], .new rfl⟩
    | cons e E => exact ⟨R, by simp [Instr.findKey, run_under hu, Instr.findNow, Instr.sameNow, g1], g2⟩
theorem op_mapUpdate {t kt e : TypeId} {m k w : Operand} {m' k' w' : Lo} {d : ED} (ho : o.op = .mapUpdate t m k w ∨ o.op = .insert t m k w) (hu : P.underlying t = some (.map kt e)) (hd : keyEd P kt = some d) (hm : lowX m = some m') (hk : lowX k = some k') (hw : lowX w = some w')
    (h : oMapUpdate fl d m' k' w' a σ = some (v, σ')) (hs : Sim P base σ.h.get ρ W) (ha : AR ρ a A) (hj : ∀ b x, σ.h.get b = some x → b < σ.nx) : HF fl σ.nx σ'.nx σ.h.get σ'.h.get ∧ Does P base fl σ σ' ρ W (execOp A.eval o) v := by
  have h1 := ev_ok ha hm
  have h2 := ev_ok ha hk
  have h3 := ev_ok ha hw
  unfold oMapUpdate at h
  cases hc : keyOk d (a.ev k') with
  | false => rw [hc] at h; cases h
  | true =>
    rw [hc] at h
    simp only [cond_true] at h
    have hck : ∀ em, (Instr.checkKey em 10000 kt (A.eval k)).run P W = .ok () W := fun em => check_key hd hc h2
    split at h
    · rename_i r e1
      rw [e1] at h1
      obtain ⟨q, hq, hV⟩ := vr_map h1
      split at h
      · rename_i es hes
        obtain ⟨q', E, cl, hq', hw', hbase, her⟩ := hs.ok _ _ hes
        rw [hq] at hq'; cases hq'
        have hobj : (getObj q.blk).run P W = .ok (.map E cl) W := by simp [getObj, Sem.run, hw']
        cases hfl : Nat.ble fl r with
        | false => rw [hfl] at h; cases h
        | true =>
          rw [hfl] at h
          simp only [cond_true] at h
          have hfl := Nat.le_of_ble_eq_true hfl
          split at h
          · rename_i es' hupd
            cases h
            obtain ⟨R, g1, g2⟩ := upd_key (W := W) hd h2 hupd her
            have hlt := (Array.getElem?_eq_some_iff.1 hw').1
            have setO : ∀ O : Obj, (setObj q.blk O).run P W = .ok () { W with heap := W.heap.setIfInBounds q.blk O } := fun O => by simp [setObj, Sem.run, hw']
            have run : ∃ E' cl', (execOp A.eval o).run P W = .ok .skip { W with heap := W.heap.setIfInBounds q.blk (.map E' cl') } ∧ ER ρ es' E'.toList := by
              cases g2 with
              | here j en U e1 e2 e3 =>
                refine ⟨E.modify (0 + j) (fun e => { e with key := A.eval k, val := A.eval w }), cl, ?_, ?_⟩
                · have hen : E[0 + j]? = some en := by rw [Nat.zero_add, ← Array.getElem?_toList]; exact e1
                  have hks : (Instr.keyThatStays (((E[0 + j]?).map (·.key)).getD (A.eval k)) (A.eval k)).run P W = .ok (A.eval k) W := by
                    rw [hen]
                    simp only [Option.map_some, Option.getD_some, Instr.keyThatStays]
                    rw [if_pos (e2 9999)]
                    rfl
                  rcases ho with ho | ho <;> simp only [execOp, ho, hV, Instr.mapUpdate, Sem.run_bind, run_under hu, Result.andThen_ok, hobj, hck, g1, hks, setO, Sem.run_pure]
                · subst e3
                  refine ⟨by have := her.1; simpa using this, fun i p x hp hx => ?_⟩
                  rw [Nat.zero_add, Array.getElem?_toList, Array.getElem?_modify] at hx
                  rw [List.getElem?_set] at hp
                  by_cases e : j = i
                  · subst e
                    rw [if_pos rfl] at hx hp
                    split at hp
                    · cases hp
                      rw [← Array.getElem?_toList, e1] at hx
                      cases hx
                      exact ⟨h2, h3⟩
                    · cases hp
                  · rw [if_neg e] at hx hp
                    exact her.2 i p x hp (by rw [Array.getElem?_toList]; exact hx)
              | new e3 =>
                refine ⟨E.push { key := A.eval k, val := A.eval w, born := cl }, cl + 1, ?_, ?_⟩
                · rcases ho with ho | ho <;> simp only [execOp, ho, hV, Instr.mapUpdate, Sem.run_bind, run_under hu, Result.andThen_ok, hobj, hck, g1, setO, Sem.run_pure]
                · subst e3
                  refine ⟨by have := her.1; simp at this ⊢; exact this, fun i p x hp hx => ?_⟩
                  have hl := her.1
                  simp only [Array.toList_push] at hx
                  by_cases e : i < es.length
                  · rw [List.getElem?_append_left e] at hp
                    rw [List.getElem?_append_left (by omega)] at hx
                    exact her.2 i p x hp hx
                  · rw [List.getElem?_append_right (by omega)] at hp hx
                    rw [hl] at hp
                    cases hi : i - E.toList.length with
                    | zero => rw [hi] at hp hx; cases hp; cases hx; exact ⟨h2, h3⟩
                    | succ n => rw [hi] at hp; cases hp
            obtain ⟨E', cl', hrun, her'⟩ := run
            refine ⟨hf_upd hfl (hj _ _ hes) (HS.get_upd σ _ _), Go.undef, _, ρ, .inr ⟨hrun, rfl⟩, VR.undef ρ, ?_⟩
            refine post_upd hs hes rfl hfl hq (HS.get_upd σ _ _) rfl rfl rfl (frz_put hw' rfl) (by simp) (fun n _ hn => ?_) (fun z hz => ?_)
            · simp only
              rw [Array.getElem?_setIfInBounds_ne (fun e => hn e.symm)]
            · cases hz
              exact ⟨q, E', cl', hq, by simp [hlt], hbase, her'⟩
          · cases h
      · cases h
    · cases h
end Go.Hx
