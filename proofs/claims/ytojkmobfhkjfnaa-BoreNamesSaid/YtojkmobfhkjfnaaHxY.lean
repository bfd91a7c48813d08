/- The plain machine and Go's: regions that draw their order, third part: what a run in the order of the text has gone through. -/
import Derived.Test.YtojkmobfhkjfnaaHxX
set_option linter.all false
namespace Go.Hx
variable {P : Program} {lp : Nat → Option LFunc} {ex : Ex}

/-- From the operation i on: what lay before each one and behind it. -/
structure Trace (lp : Nat → Option LFunc) (ex : Ex) (fl s : Nat) (h0 : Tr HBlk) (os : List LOper) (i : Nat) (done : List (Nat × List (Nat × HBlk))) (v : Nat → HV) (A : Nat → HAct) (S S' : Nat → HS) (z : Nat) : Prop where
  lo : i ≤ z
  hi : z ≤ i + os.length
  side : ∀ k, k < os.length → (i + k < z ↔ i + k < s)
  act : ∀ k o, os[k]? = some o → A (i + k + 1) = (A (i + k)).put o.dst (v (i + k))
  pure : ∀ k o, os[k]? = some o → i + k < z → stepVal lp ex (Nat.max fl (S (i + k)).nx) o (A (i + k)) (S (i + k)) = some (v (i + k), S' (i + k)) ∧ (S (i + k)).nx ≤ (S' (i + k)).nx ∧ (S (i + k + 1)).nx = (S' (i + k)).nx
  from_ : ∀ k o, os[k]? = some o → i + k < z → ∀ b x, (S (i + k)).h.get b = some x → h0.get b = some x ∨ (∃ j l, (j, l) ∈ done ∧ (b, x) ∈ l ∧ j ∈ o.anc) ∨ ∃ j, i ≤ j ∧ j < i + k ∧ j ∈ o.anc ∧ (S j).nx ≤ b ∧ b < (S' j).nx ∧ (S' j).h.get b = some x
  zone : ∀ k o, os[k]? = some o → z ≤ i + k → stepVal lp ex fl o (A (i + k)) (S (i + k)) = some (v (i + k), S' (i + k)) ∧ S (i + k + 1) = S' (i + k)
  all : ∀ b x, (S z).h.get b = some x → h0.get b = some x ∨ (∃ j l, (j, l) ∈ done ∧ (b, x) ∈ l) ∨ ∃ j, i ≤ j ∧ j < z ∧ (S j).nx ≤ b ∧ b < (S' j).nx ∧ (S' j).h.get b = some x
  other : ∀ b, (∀ j l, (j, l) ∈ done → ∀ x, (b, x) ∉ l) → (∀ j, i ≤ j → j < z → ¬((S j).nx ≤ b ∧ b < (S' j).nx)) → (S z).h.get b = h0.get b

theorem seq_trace {fl : Nat} : ∀ (os : List LOper) (i : Nat) (a a' : HAct) (σ σ' : HS), runOps lp ex fl os a σ = some (a', σ') →
    ∃ (v : Nat → HV) (A : Nat → HAct) (S : Nat → HS), A i = a ∧ S i = σ ∧ A (i + os.length) = a' ∧ S (i + os.length) = σ' ∧ ∀ k o, os[k]? = some o → stepVal lp ex fl o (A (i + k)) (S (i + k)) = some (v (i + k), S (i + k + 1)) ∧ A (i + k + 1) = (A (i + k)).put o.dst (v (i + k))
  | [], i, a, a', σ, σ', h => by
    cases h
    exact ⟨fun _ => .undef, fun _ => a, fun _ => σ, rfl, rfl, rfl, rfl, fun k o ho => by simp at ho⟩
  | o :: os, i, a, a', σ, σ', h => by
    unfold runOps at h
    split at h
    · rename_i a1 σ1 h1
      obtain ⟨v0, hv, rfl⟩ := step_val h1
      obtain ⟨v, A, S, e1, e2, e3, e4, e5⟩ := seq_trace os (i + 1) _ a' σ1 σ' h
      refine ⟨fun j => if j = i then v0 else v j, fun j => if j = i then a else A j, fun j => if j = i then σ else S j, by simp, by simp, ?_, ?_, ?_⟩
      · rw [List.length_cons]; dsimp only; rw [if_neg (by omega), ← e3]; congr 1; omega
      · rw [List.length_cons]; dsimp only; rw [if_neg (by omega), ← e4]; congr 1; omega
      · intro k o' ho
        cases k with
        | zero =>
          simp at ho
          subst ho
          simp only [Nat.add_zero, if_true, if_neg (show ¬ i + 1 = i by omega), e1, e2]
          exact ⟨hv, trivial⟩
        | succ k =>
          have := e5 k o' (by simpa using ho)
          dsimp only
          rw [if_neg (by omega), if_neg (by omega), if_neg (by omega), if_neg (by omega), if_neg (by omega)]
          rw [show i + (k + 1) = i + 1 + k by omega]
          exact this
    · cases h
theorem draw_trace {fl s : Nat} {h0 : Tr HBlk} : ∀ (os : List LOper) (i : Nat) (done : List (Nat × List (Nat × HBlk))) (a a' : HAct) (nx : Nat) (σ' : HS), drawOps lp ex fl s h0 os i done a nx = some (a', σ') →
    ∃ (v : Nat → HV) (A : Nat → HAct) (S S' : Nat → HS) (z : Nat), A i = a ∧ (S i).nx = nx ∧ A (i + os.length) = a' ∧ S (i + os.length) = σ' ∧ Trace lp ex fl s h0 os i done v A S S' z
  | [], i, done, a, a', nx, σ', h => by
    cases h
    refine ⟨fun _ => .undef, fun _ => a, fun _ => ⟨merge h0 none done, nx⟩, fun _ => ⟨merge h0 none done, nx⟩, i, rfl, rfl, rfl, rfl, Nat.le_refl _, by simp, fun k hk => by simp at hk, fun k o ho => by simp at ho, fun k o ho => by simp at ho, fun k o ho => by simp at ho, fun k o ho => by simp at ho, fun b x hx => ?_, fun b hb _ => merge_other hb⟩
    rcases merge_get hx with h1 | ⟨j, l, h1, h2, _⟩
    · exact .inl h1
    · exact .inr (.inl ⟨j, l, h1, h2⟩)
  | o :: os, i, done, a, a', nx, σ', h => by
    unfold drawOps at h
    cases hc : Nat.blt i s with
    | false =>
      rw [hc] at h
      have hs : s ≤ i := by
        have : ¬ i < s := by intro h; rw [← Nat.blt_eq] at h; rw [h] at hc; cases hc
        omega
      obtain ⟨v, A, S, e1, e2, e3, e4, e5⟩ := seq_trace (o :: os) i a a' _ σ' h
      refine ⟨v, A, S, fun j => S (j + 1), i, e1, by rw [e2], e3, e4, Nat.le_refl _, by simp, fun k _ => by omega, fun k o ho => (e5 k o ho).2, fun k o ho hk => by omega, fun k o ho hk => by omega, fun k o ho _ => ⟨(e5 k o ho).1, rfl⟩, fun b x hx => ?_, fun b hb _ => ?_⟩
      · rw [e2] at hx
        rcases merge_get hx with h1 | ⟨j, l, h1, h2, _⟩
        · exact .inl h1
        · exact .inr (.inl ⟨j, l, h1, h2⟩)
      · rw [e2]; exact merge_other hb
    | true =>
      have hs := blt_lt hc
      rw [hc] at h
      simp only [cond_true] at h
      split at h
      · rename_i a1 σ1 h1
        obtain ⟨v0, hv, rfl⟩ := step_val h1
        cases hle : Nat.ble nx σ1.nx with
        | false => rw [hle] at h; cases h
        | true =>
          rw [hle] at h
          simp only [Bool.not_true, cond_false] at h
          have hle := Nat.le_of_ble_eq_true hle
          obtain ⟨done', hd⟩ : ∃ d, d = (bif Nat.beq nx σ1.nx then done else (i, newFrom σ1.h nx (σ1.nx - nx)) :: done) := ⟨_, rfl⟩
          rw [← hd] at h
          have inD : ∀ j l, (j, l) ∈ done' → (j, l) ∈ done ∨ (j = i ∧ l = newFrom σ1.h nx (σ1.nx - nx)) := by
            intro j l hm
            rw [hd, cond_beq] at hm
            split at hm
            · exact .inl hm
            · simp only [List.mem_cons, Prod.mk.injEq] at hm
              rcases hm with hm | hm
              · exact .inr hm
              · exact .inl hm
          obtain ⟨v, A, S, S', z, e1, e2, e3, e4, t⟩ := draw_trace os (i + 1) done' _ a' σ1.nx σ' h
          have tlo := t.lo
          have thi := t.hi
          refine ⟨fun j => if j = i then v0 else v j, fun j => if j = i then a else A j, fun j => if j = i then ⟨merge h0 (some o.anc) done, nx⟩ else S j, fun j => if j = i then σ1 else S' j, z, by simp, by simp, ?_, ?_, by omega, by simp; omega, ?_, ?_, ?_, ?_, ?_, ?_, ?_⟩
          · rw [List.length_cons]; dsimp only; rw [if_neg (by omega), ← e3]; congr 1; omega
          · rw [List.length_cons]; dsimp only; rw [if_neg (by omega), ← e4]; congr 1; omega
          · intro k hk
            cases k with
            | zero => constructor <;> intro _ <;> omega
            | succ k =>
              have := t.side k (by simpa using hk)
              rw [show i + (k + 1) = i + 1 + k by omega]
              exact this
          · intro k o' ho
            cases k with
            | zero =>
              simp at ho
              subst ho
              simp only [Nat.add_zero, if_true, if_neg (show ¬ i + 1 = i by omega), e1]
            | succ k =>
              have := t.act k o' (by simpa using ho)
              rw [if_neg (by omega), if_neg (by omega), if_neg (by omega)]
              rw [show i + (k + 1) = i + 1 + k by omega]
              exact this
          · intro k o' ho hk
            cases k with
            | zero =>
              simp at ho
              subst ho
              simp only [Nat.add_zero, if_true, if_neg (show ¬ i + 1 = i by omega), e2]
              exact ⟨hv, hle, trivial⟩
            | succ k =>
              have := t.pure k o' (by simpa using ho) (by omega)
              rw [if_neg (by omega), if_neg (by omega), if_neg (by omega), if_neg (by omega), if_neg (by omega)]
              rw [show i + (k + 1) = i + 1 + k by omega]
              exact this
          · intro k o' ho hk b x hx
            cases k with
            | zero =>
              simp at ho
              subst ho
              simp only [Nat.add_zero, if_true] at hx
              rcases merge_get hx with h1 | ⟨j, l, h1, h2, h3⟩
              · exact .inl h1
              · exact .inr (.inl ⟨j, l, h1, h2, h3 _ rfl⟩)
            | succ k =>
              simp only [if_neg (show ¬ i + (k + 1) = i by omega)] at hx
              rw [show i + (k + 1) = i + 1 + k by omega] at hx
              rcases t.from_ k o' (by simpa using ho) (by omega) b x hx with h1 | ⟨j, l, h1, h2, h3⟩ | ⟨j, h1, h2, h3, h4, h5, h6⟩
              · exact .inl h1
              · rcases inD j l h1 with h1 | ⟨rfl, rfl⟩
                · exact .inr (.inl ⟨j, l, h1, h2, h3⟩)
                · rw [new_from] at h2
                  refine .inr (.inr ⟨j, by omega, by omega, h3, ?_⟩)
                  simp only [if_true]
                  exact ⟨h2.1, by omega, h2.2.2⟩
              · refine .inr (.inr ⟨j, by omega, by omega, h3, ?_⟩)
                simp only [if_neg (show ¬ j = i by omega)]
                exact ⟨h4, h5, h6⟩
          · intro k o' ho hk
            cases k with
            | zero => omega
            | succ k =>
              have := t.zone k o' (by simpa using ho) (by omega)
              rw [if_neg (by omega), if_neg (by omega), if_neg (by omega), if_neg (by omega), if_neg (by omega)]
              rw [show i + (k + 1) = i + 1 + k by omega]
              exact this
          · intro b x hx
            simp only [if_neg (show ¬ z = i by omega)] at hx
            rcases t.all b x hx with h1 | ⟨j, l, h1, h2⟩ | ⟨j, h1, h2, h4, h5, h6⟩
            · exact .inl h1
            · rcases inD j l h1 with h1 | ⟨rfl, rfl⟩
              · exact .inr (.inl ⟨j, l, h1, h2⟩)
              · rw [new_from] at h2
                refine .inr (.inr ⟨j, by omega, by omega, ?_⟩)
                simp only [if_true]
                exact ⟨h2.1, by omega, h2.2.2⟩
            · refine .inr (.inr ⟨j, by omega, by omega, ?_⟩)
              simp only [if_neg (show ¬ j = i by omega)]
              exact ⟨h4, h5, h6⟩
          · intro b hb hj
            simp only [if_neg (show ¬ z = i by omega)]
            refine t.other b (fun j l hm x hx => ?_) (fun j h1 h2 h3 => ?_)
            · rcases inD j l hm with hm | ⟨rfl, rfl⟩
              · exact hb j l hm x hx
              · rw [new_from] at hx
                have := hj j (by omega) (by omega)
                simp only [if_true] at this
                exact this ⟨hx.1, by omega⟩
            · have := hj j (by omega) h2
              simp only [if_neg (show ¬ j = i by omega)] at this
              exact this h3
      · cases h
theorem draw_le (hle : ExLe ex) : DrawLe lp ex := by
  intro fl s ops a a' σ σ' h
  obtain ⟨v, A, S, S', z, e1, e2, e3, e4, t⟩ := draw_trace ops 0 [] a a' σ.nx σ' h
  have : ∀ k, k ≤ ops.length → σ.nx ≤ (S (0 + k)).nx := by
    intro k
    induction k with
    | zero => intro _; rw [e2]; exact Nat.le_refl _
    | succ k ih =>
      intro hk
      have hk' : k < ops.length := by omega
      have ho : ops[k]? = some ops[k] := by simp [hk']
      have := ih (by omega)
      by_cases hz : 0 + k < z
      · obtain ⟨_, h2, h3⟩ := t.pure k _ ho hz
        rw [show 0 + (k + 1) = 0 + k + 1 by omega, h3]
        omega
      · obtain ⟨h1, h2⟩ := t.zone k _ ho (by omega)
        rw [show 0 + (k + 1) = 0 + k + 1 by omega, h2]
        have := stepVal_le hle h1
        omega
  rw [← e4]
  exact this _ (Nat.le_refl _)
end Go.Hx
