/- The plain machine and Go's: regions that draw their order, first part: on what an operation depends. -/
import Derived.Test.YtojkmobfhkjfnaaHxV
set_option linter.all false
namespace Go.Hx
variable {P : Program} {lp : Nat → Option LFunc} {ex : Ex}

theorem ev_congr {a b : HAct} {x : Lo} (h : ∀ t ∈ x.tmps, a.tmp t = b.tmp t) : a.ev x = b.ev x := by
  cases x with
  | t n => exact h n (by simp [Lo.tmps])
  | c v => rfl
theorem evs_congr {a b : HAct} : ∀ {xs : List Lo}, (∀ t ∈ tmpsOf xs, a.tmp t = b.tmp t) → xs.map a.ev = xs.map b.ev
  | [], _ => rfl
  | x :: xs, h => by
    simp only [tmpsOf, List.flatMap_cons, List.mem_append] at h
    rw [List.map_cons, List.map_cons, ev_congr (fun t ht => h t (.inl ht)), evs_congr (fun t ht => h t (.inr ht))]
theorem evo_congr {a b : HAct} {x : Option Lo} (h : ∀ t ∈ oTmps x, a.tmp t = b.tmp t) : x.map a.ev = x.map b.ev := by
  cases x with
  | none => rfl
  | some x => rw [Option.map_some, Option.map_some, ev_congr h]
theorem parts_congr {a b : HAct} : ∀ {ps : List (Nat × Nat × Lo)}, (∀ t ∈ (ps.flatMap fun (_, _, x) => x.tmps), a.tmp t = b.tmp t) → evParts a ps = evParts b ps
  | [], _ => rfl
  | (o, s, x) :: ps, h => by
    simp only [List.flatMap_cons, List.mem_append] at h
    have := parts_congr (a := a) (b := b) (ps := ps) (fun t ht => h t (.inr ht))
    simp only [evParts, List.map_cons] at this ⊢
    rw [ev_congr (fun t ht => h t (.inl ht)), this]
theorem op_congr {fl : Nat} {l : LOp} {a b : HAct} (σ : HS) (h : ∀ t ∈ l.tmps, a.tmp t = b.tmp t) : opH lp ex fl l a σ = opH lp ex fl l b σ := by
  cases l <;> simp only [LOp.tmps, List.mem_append] at h <;> simp only [opH]
  case move x => simp only [oMove, ev_congr h]
  case pick c x y => simp only [oPick, ev_congr (fun t ht => h t (.inl (.inl ht))), ev_congr (fun t ht => h t (.inl (.inr ht))), ev_congr (fun t ht => h t (.inr ht))]
  case alloc => rfl
  case box => simp only [oBox, ev_congr h]
  case build => simp only [oBuild, parts_congr h]
  case buildSlice => simp only [oBuildSlice, parts_congr h]
  case load => simp only [oLoad, ev_congr h]
  case store => simp only [oStore, ev_congr (fun t ht => h t (.inl ht)), ev_congr (fun t ht => h t (.inr ht))]
  case fieldAddr => simp only [oFieldAddr, ev_congr h]
  case indexAddrS => simp only [oIndexAddrS, ev_congr (fun t ht => h t (.inl ht)), ev_congr (fun t ht => h t (.inr ht))]
  case indexAddrA => simp only [oIndexAddrA, ev_congr (fun t ht => h t (.inl ht)), ev_congr (fun t ht => h t (.inr ht))]
  case field => simp only [oField, ev_congr h]
  case indexA => simp only [oIndexA, ev_congr (fun t ht => h t (.inl ht)), ev_congr (fun t ht => h t (.inr ht))]
  case bin => simp only [oBin, ev_congr (fun t ht => h t (.inl ht)), ev_congr (fun t ht => h t (.inr ht))]
  case eq => simp only [oEq, ev_congr (fun t ht => h t (.inl ht)), ev_congr (fun t ht => h t (.inr ht))]
  case un => simp only [oUn, ev_congr h]
  case convInt => simp only [oConvInt, ev_congr h]
  case makeFunc => simp only [oMakeFunc, evs_congr (fun t ht => h t (.inl ht)), evs_congr (fun t ht => h t (.inr ht))]
  case makeMap => rfl
  case makeSlice => simp only [oMakeSlice, ev_congr (fun t ht => h t (.inl ht)), ev_congr (fun t ht => h t (.inr ht))]
  case sliceS => simp only [oSliceS, ev_congr (fun t ht => h t (.inl (.inl ht))), evo_congr (fun t ht => h t (.inl (.inr ht))), evo_congr (fun t ht => h t (.inr ht))]
  case lookup => simp only [oLookup, ev_congr (fun t ht => h t (.inl ht)), ev_congr (fun t ht => h t (.inr ht))]
  case mapUpdate => simp only [oMapUpdate, ev_congr (fun t ht => h t (.inl (.inl ht))), ev_congr (fun t ht => h t (.inl (.inr ht))), ev_congr (fun t ht => h t (.inr ht))]
  case extract => simp only [oExtract, ev_congr h]
  case len => simp only [oLen, ev_congr h]
  case cap => simp only [oCap, ev_congr h]
  case min => simp only [oMin, evs_congr h]
  case max => simp only [oMax, evs_congr h]
  case appendZ => simp only [oAppendZ, ev_congr (fun t ht => h t (.inl ht)), ev_congr (fun t ht => h t (.inr ht))]
  case append => simp only [oAppend, ev_congr (fun t ht => h t (.inl ht)), ev_congr (fun t ht => h t (.inr ht))]
  case nilCheck => simp only [oNilCheck, ev_congr h]
  case call => simp only [oCall, ev_congr (fun t ht => h t (.inl ht)), evs_congr (fun t ht => h t (.inr ht))]
  case bad => rfl
theorem keep_any {σ σ' : HS} {r : Option HV} {v : HV} (h : keep σ r = some (v, σ')) : σ' = σ ∧ ∀ σ2, keep σ2 r = some (v, σ2) := by
  cases r with
  | none => cases h
  | some u => cases h; exact ⟨rfl, fun _ => rfl⟩
/-- What touches no memory is the same in any. -/
theorem op_untouch {fl : Nat} {l : LOp} {a : HAct} {σ σ' : HS} {v : HV} (ht : l.touches = false) (h : opH lp ex fl l a σ = some (v, σ')) : σ' = σ ∧ ∀ fl2 σ2, opH lp ex fl2 l a σ2 = some (v, σ2) := by
  cases l <;> simp only [LOp.touches, reduceCtorEq] at ht <;> simp only [opH] at h ⊢
  case move => cases h; exact ⟨rfl, fun _ _ => rfl⟩
  case pick =>
    unfold oPick at h ⊢
    split at h
    · rename_i hb; cases h; exact ⟨rfl, fun _ _ => rfl⟩
    · cases h
  case build =>
    unfold oBuild at h ⊢
    split at h
    · rename_i hb; cases h; exact ⟨rfl, fun _ _ => rfl⟩
    · cases h
  case fieldAddr =>
    unfold oFieldAddr at h ⊢
    split at h
    · rename_i hb; cases h; exact ⟨rfl, fun _ _ => rfl⟩
    · cases h
  case indexAddrS =>
    unfold oIndexAddrS stepTo at h ⊢
    split at h
    · rename_i hb
      split at h
      · rename_i hi
        revert h
        generalize Nat.blt _ _ = c
        intro h
        cases c with
        | false => cases h
        | true => cases h; exact ⟨rfl, fun _ _ => rfl⟩
      · cases h
    · cases h
  case indexAddrA =>
    unfold oIndexAddrA stepTo at h ⊢
    split at h
    · rename_i hb
      split at h
      · rename_i hi
        revert h
        generalize Nat.blt _ _ = c
        intro h
        cases c with
        | false => cases h
        | true => cases h; exact ⟨rfl, fun _ _ => rfl⟩
      · cases h
    · cases h
  case field =>
    unfold oField at h ⊢
    split at h
    · rename_i hb; exact ⟨(keep_any h).1, fun _ => (keep_any h).2⟩
    · cases h
  case indexA =>
    unfold oIndexA at h ⊢
    split at h
    · rename_i hb hi
      revert h
      generalize Nat.blt _ _ = c
      intro h
      cases c with
      | false => cases h
      | true => exact ⟨(keep_any h).1, fun _ => (keep_any h).2⟩
    · cases h
  case bin => exact ⟨(keep_any h).1, fun _ => (keep_any h).2⟩
  case eq =>
    unfold oEq at h ⊢
    split at h
    · rename_i hb; cases h; exact ⟨rfl, fun _ _ => rfl⟩
    · cases h
  case un => exact ⟨(keep_any h).1, fun _ => (keep_any h).2⟩
  case convInt =>
    unfold oConvInt at h ⊢
    split at h
    · rename_i hb; cases h; exact ⟨rfl, fun _ _ => rfl⟩
    · cases h
  case makeFunc => cases h; exact ⟨rfl, fun _ _ => rfl⟩
  case extract =>
    unfold oExtract at h ⊢
    split at h
    · rename_i hb; exact ⟨(keep_any h).1, fun _ => (keep_any h).2⟩
    · cases h
  case nilCheck =>
    unfold oNilCheck at h ⊢
    split at h
    · rename_i hb; cases h; exact ⟨rfl, fun _ _ => rfl⟩
    · rename_i hb; cases h; exact ⟨rfl, fun _ _ => rfl⟩
    · cases h
/-- With the guard, too. -/
theorem val_congr {fl : Nat} {o : LOper} {a b : HAct} (σ : HS) (h : ∀ t ∈ o.names, a.tmp t = b.tmp t) : stepVal lp ex fl o a σ = stepVal lp ex fl o b σ := by
  unfold stepVal
  have h1 : wantedH o.g a = wantedH o.g b := by
    unfold wantedH
    cases hg : o.g with
    | none => rfl
    | some q =>
      obtain ⟨t, w⟩ := q
      have : a.tmp t = b.tmp t := h t (by simp [LOper.names, hg])
      simp only [this]
  rw [h1, op_congr σ (fun t ht => h t (by simp [LOper.names, ht]))]
theorem val_untouch {fl : Nat} {o : LOper} {a : HAct} {σ σ' : HS} {v : HV} (ht : o.op.touches = false) (h : stepVal lp ex fl o a σ = some (v, σ')) : σ' = σ ∧ ∀ fl2 σ2, stepVal lp ex fl2 o a σ2 = some (v, σ2) := by
  unfold stepVal at h ⊢
  cases hw : wantedH o.g a with
  | true =>
    rw [hw] at h
    obtain ⟨h1, h2⟩ := op_untouch ht h
    exact ⟨h1, fun fl2 σ2 => by simp only [cond_true]; exact h2 fl2 σ2⟩
  | false => rw [hw] at h; cases h; exact ⟨rfl, fun _ _ => rfl⟩
end Go.Hx
