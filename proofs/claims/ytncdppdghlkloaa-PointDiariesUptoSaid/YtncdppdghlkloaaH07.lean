/- Layer 3: diaries: which scales explain them, and which one does not explain the fewest entries; the law of P3.5 and P3.6. -/
import Derived.Test.YtncdppdghlkloaaH06
import Derived.Test.YtncdppdghlkloaaH00
import Derived.Test.YtncdppdghlkloaaH02
import Derived.Test.YtncdppdghlkloaaH01
import Derived.Test.YtncdppdghlkloaaH04
import Derived.Test.YtncdppdghlkloaaH03
import Derived.Test.YtncdppdghlkloaaH05
import Derived.OpenShut
import Derived.ChangeSlices
import Derived.Test.YtncdppdghlkloaaRows
set_option linter.all false
/- Layer 3: diaries: which scales explain them, and which one does not explain the fewest entries; the law of P3.5 and P3.6. -/
namespace Go.Hx.V
open Go.Hx
set_option linter.unusedVariables false
set_option linter.unusedSimpArgs false
set_option maxRecDepth 20000
theorem iter_map2 {γ : Type} {step : List γ × Int → Option ((List γ × Int) ⊕ List γ)} {N : Nat} {l : List γ} (hs : ∀ (j : Nat) (x : γ), l[j]? = some x → step (l.take j, (j : Int)) = some (.inl (l.take j ++ [x], ((j + 1 : Nat) : Int)))) (he : step (l, (l.length : Int)) = some (.inr l)) (hN : l.length < N) :
    iter step N (([] : List γ), (0 : Int)) = some l := by
  refine iter_up (fun j => (l.take j, (j : Int))) l.length _ rfl (fun j hj => ?_) ?_ hN
  · obtain ⟨x, hx⟩ : ∃ x, l[j]? = some x := ⟨_, lt_some hj⟩
    rw [hs j x hx, take_succ' hx]
  · rw [List.take_length]; exact he
theorem k25 {N : Nat} {l : Sc} (hN : l.length < N) (hl : N < 1000000) : sf25 N l = some l := by
  unfold sf25
  rw [iter_map2 (l := l) (fun j x hx => ?_) ?_ hN, bnd_ret]
  · unfold sf25_L1
    dsimp only
    rw [decide_eq_false (show ¬ (l.length : Int) < (l.length : Int) by omega), cond_false]
  · have hj := some_lt hx
    have q3 : rng ((j : Int) + 1) := by unfold rng; omega
    have hlen : (l.take j).length = j := by rw [List.length_take]; omega
    unfold sf25_L1 sf17
    dsimp only
    rw [decide_eq_true (show (j : Int) < (l.length : Int) by omega), cond_true, ix_at rfl hx, bnd_ret, ck_pos (by rw [hlen]; omega), ck_pos q3]; rfl
theorem k38 {N : Nat} {l : Di} (hN : l.length < N) (hl : N < 1000000) : sf38 N l = some l := by
  unfold sf38
  rw [iter_map2 (l := l) (fun j x hx => ?_) ?_ hN, bnd_ret]
  · unfold sf38_L1
    dsimp only
    rw [decide_eq_false (show ¬ (l.length : Int) < (l.length : Int) by omega), cond_false]
  · have hj := some_lt hx
    have q3 : rng ((j : Int) + 1) := by unfold rng; omega
    have hlen : (l.take j).length = j := by rw [List.length_take]; omega
    unfold sf38_L1 sf19
    dsimp only
    rw [decide_eq_true (show (j : Int) < (l.length : Int) by omega), cond_true, ix_at rfl hx, ix_at rfl hx, bnd_ret, ck_pos (by rw [hlen]; omega), ck_pos q3]; rfl
def scj (l : Sc) (j : Nat) : Prop := ∀ s, l[j]? = some s → SC s.1 s.2
def enj (l : Di) (j : Nat) : Prop := ∀ e, l[j]? = some e → EN e.1 e.2.1 e.2.2
theorem k97 {N : Nat} {l : Sc} (hN : l.length < N) (hl : N < 1000000) : ((∀ j, j < l.length → scj l j) ∧ sf97 N l = some true) ∨ (¬ (∀ j, j < l.length → scj l j) ∧ sf97 N l = some false) := by
  haveI : DecidablePred (scj l) := fun _ => Classical.propDecidable _
  rcases iter_all (step := sf97_L1 N l) (x := (0 : Int)) (N := N) (fun j => (j : Int)) l.length (scj l) (.inr ()) (.inl ()) rfl (fun j hj hp => by
      obtain ⟨x, hx⟩ : ∃ x, l[j]? = some x := ⟨_, lt_some hj⟩
      have q3 : rng ((j : Int) + 1) := by unfold rng; omega
      unfold sf97_L1
      rw [decide_eq_true (show (j : Int) < (l.length : Int) by omega), cond_true, ix_at rfl hx, k52, bnd_ret, decide_eq_true (hp x hx), Bool.not_true, cond_false, ck_pos q3]; rfl) (fun j hj hp => by
      obtain ⟨x, hx⟩ : ∃ x, l[j]? = some x := ⟨_, lt_some hj⟩
      unfold sf97_L1
      rw [decide_eq_true (show (j : Int) < (l.length : Int) by omega), cond_true, ix_at rfl hx, k52, bnd_ret, decide_eq_false (fun h => hp fun x' hx' => by rw [hx] at hx'; cases hx'; exact h), Bool.not_false, cond_true])
      (by unfold sf97_L1; rw [decide_eq_false (show ¬ (l.length : Int) < (l.length : Int) by omega), cond_false]) hN with ⟨a, b⟩ | ⟨a, b⟩
  · exact .inl ⟨a, by unfold sf97; rw [b, bnd_ret, sel_inr]⟩
  · exact .inr ⟨a, by unfold sf97; rw [b, bnd_ret, sel_inl]⟩
theorem k92 {N : Nat} {l : Di} (hN : l.length < N) (hl : N < 1000000) : ((∀ j, j < l.length → enj l j) ∧ sf92 N l (-1000000) 1000000 (-100000) 100000 = some true) ∨ (¬ (∀ j, j < l.length → enj l j) ∧ sf92 N l (-1000000) 1000000 (-100000) 100000 = some false) := by
  haveI : DecidablePred (enj l) := fun _ => Classical.propDecidable _
  rcases iter_all (step := sf92_L1 N l (-1000000) 1000000 (-100000) 100000) (x := (0 : Int)) (N := N) (fun j => (j : Int)) l.length (enj l) (.inr ()) (.inl ()) rfl (fun j hj hp => by
      obtain ⟨x, hx⟩ : ∃ x, l[j]? = some x := ⟨_, lt_some hj⟩
      have q3 : rng ((j : Int) + 1) := by unfold rng; omega
      unfold sf92_L1
      rw [decide_eq_true (show (j : Int) < (l.length : Int) by omega), cond_true, ix_at rfl hx, k94, bnd_ret, decide_eq_true (hp x hx), Bool.not_true, cond_false, ck_pos q3]; rfl) (fun j hj hp => by
      obtain ⟨x, hx⟩ : ∃ x, l[j]? = some x := ⟨_, lt_some hj⟩
      unfold sf92_L1
      rw [decide_eq_true (show (j : Int) < (l.length : Int) by omega), cond_true, ix_at rfl hx, k94, bnd_ret, decide_eq_false (fun h => hp fun x' hx' => by rw [hx] at hx'; cases hx'; exact h), Bool.not_false, cond_true])
      (by unfold sf92_L1; rw [decide_eq_false (show ¬ (l.length : Int) < (l.length : Int) by omega), cond_false]) hN with ⟨a, b⟩ | ⟨a, b⟩
  · exact .inl ⟨a, by unfold sf92; rw [b, bnd_ret, sel_inr]⟩
  · exact .inr ⟨a, by unfold sf92; rw [b, bnd_ret, sel_inl]⟩
theorem k21 {N : Nat} {l : Sc} (h8 : l.length ≤ 8) (hN : l.length < N) (hl : N < 1000000) : ((∀ j, j < l.length → scj l j) ∧ sf21 N l 0 0 = some 0) ∨ (¬ (∀ j, j < l.length → scj l j) ∧ sf21 N l 0 0 = some 1) := by
  haveI : DecidablePred (scj l) := fun _ => Classical.propDecidable _
  rcases iter_all (step := sf21_L1 N l) (x := (0 : Int)) (N := N) (fun j => (j : Int)) l.length (scj l) (.inr ()) (.inl 1) rfl (fun j hj hp => by
      obtain ⟨x, hx⟩ : ∃ x, l[j]? = some x := ⟨_, lt_some hj⟩
      have q3 : rng ((j : Int) + 1) := by unfold rng; omega
      unfold sf21_L1
      rw [decide_eq_true (show (j : Int) < (l.length : Int) by omega), cond_true, ix_at rfl hx, k20, bnd_ret, decide_eq_true (hp x hx), Bool.not_true, cond_false, ck_pos q3]; rfl) (fun j hj hp => by
      obtain ⟨x, hx⟩ : ∃ x, l[j]? = some x := ⟨_, lt_some hj⟩
      unfold sf21_L1
      rw [decide_eq_true (show (j : Int) < (l.length : Int) by omega), cond_true, ix_at rfl hx, k20, bnd_ret, decide_eq_false (fun h => hp fun x' hx' => by rw [hx] at hx'; cases hx'; exact h), Bool.not_false, cond_true])
      (by unfold sf21_L1; rw [decide_eq_false (show ¬ (l.length : Int) < (l.length : Int) by omega), cond_false]) hN with ⟨a, b⟩ | ⟨a, b⟩
  · refine .inl ⟨a, ?_⟩
    unfold sf21 sf29
    rw [decide_eq_false (show ¬ (8 : Int) < (l.length : Int) by omega), cond_false, b, bnd_ret, sel_inr, k34, bnd_ret, bnd_ret, decide_eq_true (by omega), Bool.not_true, cond_false]
  · refine .inr ⟨a, ?_⟩
    unfold sf21
    rw [decide_eq_false (show ¬ (8 : Int) < (l.length : Int) by omega), cond_false, b, bnd_ret, sel_inl]
/-- Both checks of a diary. -/
structure OkD (l : Sc) (d : Di) : Prop where
  l8 : l.length ≤ 8
  d12 : d.length ≤ 12
  sc : ∀ j, j < l.length → scj l j
  en : ∀ j, j < d.length → enj d j
theorem checks {l : Sc} {d : Di} (h1 : l.length ≤ 11) (h2 : d.length ≤ 15) : ∃ e, sf67 100 l d = some e ∧ sf40 100 l d = some e ∧ (e = 0 → OkD l d) := by
  unfold sf67 sf40 sf74
  by_cases c1 : 8 < l.length
  · rw [decide_eq_true (show (8 : Int) < (l.length : Int) by omega), cond_true, bnd_ret, cond_true, bnd_ret, cond_true, bnd_ret, sel_inl, decide_eq_false (show ¬ (3 : Int) = 0 by decide), Bool.not_false, cond_true]
    refine ⟨3, ?_, rfl, fun h => absurd h (by decide)⟩
    cases decide ((12 : Int) < (d.length : Int)) <;> rfl
  rw [decide_eq_false (show ¬ (8 : Int) < (l.length : Int) by omega), cond_false, cond_false]
  by_cases c2 : 12 < d.length
  · rw [decide_eq_true (show (12 : Int) < (d.length : Int) by omega), cond_true, bnd_ret, cond_true, bnd_ret, sel_inl]
    exact ⟨3, rfl, rfl, fun h => absurd h (by decide)⟩
  rw [decide_eq_false (show ¬ (12 : Int) < (d.length : Int) by omega), cond_false, bnd_ret, cond_false, bnd_ret, sel_inr]
  rcases k97 (N := 100) (l := l) (by omega) (by omega) with ⟨a, b⟩ | ⟨a, b⟩
  rotate_left
  · rcases k21 (N := 100) (l := l) (by omega) (by omega) (by omega) with ⟨a', b'⟩ | ⟨a', b'⟩
    · exact absurd a' a
    rw [b, bnd_ret, Bool.not_false, cond_true, bnd_ret, b', bnd_ret, decide_eq_false (show ¬ (1 : Int) = 0 by decide), Bool.not_false, cond_true, cond_true]
    exact ⟨1, rfl, rfl, fun h => absurd h (by decide)⟩
  rcases k21 (N := 100) (l := l) (by omega) (by omega) (by omega) with ⟨a', b'⟩ | ⟨a', b'⟩
  rotate_left
  · exact absurd a a'
  rw [b, bnd_ret, Bool.not_true, cond_false, bnd_ret, b', bnd_ret, decide_eq_true (show (0 : Int) = 0 from rfl), Bool.not_true, cond_false, cond_false, k93, bnd_ret]
  dsimp only
  haveI : DecidablePred (enj d) := fun _ => Classical.propDecidable _
  have loop := iter_all (step := sf40_L1 100 d) (x := (0 : Int)) (N := 100) (fun j => (j : Int)) d.length (enj d) (Sum.inr () : Int ⊕ Unit) (.inl 2) rfl (fun j hj hp => by
      obtain ⟨x, hx⟩ : ∃ x, d[j]? = some x := ⟨_, lt_some hj⟩
      have q3 : rng ((j : Int) + 1) := by unfold rng; omega
      unfold sf40_L1
      rw [decide_eq_true (show (j : Int) < (d.length : Int) by omega), cond_true, ix_at rfl hx, k70, bnd_ret, decide_eq_true (hp x hx), Bool.not_true, cond_false, ck_pos q3]; rfl) (fun j hj hp => by
      obtain ⟨x, hx⟩ : ∃ x, d[j]? = some x := ⟨_, lt_some hj⟩
      unfold sf40_L1
      rw [decide_eq_true (show (j : Int) < (d.length : Int) by omega), cond_true, ix_at rfl hx, k70, bnd_ret, decide_eq_false (fun h => hp fun x' hx' => by rw [hx] at hx'; cases hx'; exact h), Bool.not_false, cond_true])
      (by unfold sf40_L1; rw [decide_eq_false (show ¬ (d.length : Int) < (d.length : Int) by omega), cond_false]) (by omega)
  rcases k92 (N := 100) (l := d) (by omega) (by omega) with ⟨g, k⟩ | ⟨g, k⟩
  · rcases loop with ⟨u, w⟩ | ⟨u, w⟩
    · rw [k, bnd_ret, Bool.not_true, cond_false, w, bnd_ret, sel_inr]
      exact ⟨0, rfl, rfl, fun _ => ⟨by omega, by omega, a, g⟩⟩
    · exact absurd g u
  · rcases loop with ⟨u, w⟩ | ⟨u, w⟩
    · exact absurd u g
    · rw [k, bnd_ret, Bool.not_false, cond_true, w, bnd_ret, sel_inl]
      exact ⟨2, rfl, rfl, fun h => absurd h (by decide)⟩
/-- The entries that are not explained. -/
def wl (p : Nat → Bool) : Nat → List Int
  | 0 => []
  | j + 1 => bif p j then wl p j else wl p j ++ [(j : Int)]
theorem wl_succ {p : Nat → Bool} {j : Nat} : wl p (j + 1) = bif p j then wl p j else wl p j ++ [(j : Int)] := rfl
theorem wl_len {p : Nat → Bool} : ∀ j, (wl p j).length ≤ j
  | 0 => Nat.le_refl _
  | j + 1 => by
    have := wl_len (p := p) j
    rw [wl_succ]
    cases p j
    · rw [cond_false, List.length_append, List.length_singleton]; omega
    · rw [cond_true]; omega
theorem wl_nil {p : Nat → Bool} : ∀ n, (wl p n).length = 0 ↔ ∀ j, j < n → p j = true
  | 0 => ⟨fun _ j h => by omega, fun _ => rfl⟩
  | n + 1 => by
    have ih := wl_nil (p := p) n
    rw [wl_succ]
    cases h : p n
    · rw [cond_false, List.length_append, List.length_singleton]
      exact ⟨fun h => by omega, fun g => by rw [g n (by omega)] at h; cases h⟩
    · rw [cond_true, ih]
      exact ⟨fun g j hj => by
        by_cases e : j = n
        · rw [e]; exact h
        · exact g j (by omega), fun g j hj => g j (by omega)⟩
/-- Does a scale explain the entry with this number? -/
def pp (s : Int × Int) (d : Di) (j : Nat) : Bool := match d[j]? with | some e => exb s.1 s.2 e.1 e.2.1 e.2.2 | none => true
theorem pp_at {s : Int × Int} {d : Di} {j : Nat} {e : Int × Int × Int} (h : d[j]? = some e) : pp s d j = exb s.1 s.2 e.1 e.2.1 e.2.2 := by unfold pp; rw [h]
abbrev Ky := Int × Int × Int × Int × Int
/-- What is kept is right. -/
def MI (m : Ky → Option Bool) : Prop := ∀ k v, m k = some v → v = exb k.1 k.2.1 k.2.2.1 k.2.2.2.1 k.2.2.2.2
theorem MI.none : MI (fun _ => none) := fun k v h => by cases h
theorem MI.upd {m : Ky → Option Bool} (h : MI m) (a b c d e : Int) : MI (upm m (a, b, c, d, e) (exb a b c d e)) := fun k v hk => by
  unfold upm at hk
  by_cases c : k = (a, b, c, d, e)
  · rw [if_pos c] at hk; cases hk; subst c; rfl
  · rw [if_neg c] at hk; exact h k v hk
theorem MI.at {m : Ky → Option Bool} (h : MI m) (k : Ky) : (m k).isSome = false ∨ (m k).isSome = true ∧ (m k).getD false = exb k.1 k.2.1 k.2.2.1 k.2.2.2.1 k.2.2.2.2 := by
  cases e : m k with
  | none => exact .inl rfl
  | some v => exact .inr ⟨rfl, h k v e⟩
theorem k41 {N : Nat} {s : Int × Int} {d : Di} (hs : SC s.1 s.2) (he : ∀ j, j < d.length → enj d j) (hN : d.length < N) (hl : N < 1000000) : sf41 N s.1 s.2 d = some (wl (pp s d) d.length) := by
  unfold sf41
  rw [iter_up (x := (([] : List Int), (0 : Int))) (fun j => (wl (pp s d) j, (j : Int))) d.length (wl (pp s d) d.length) rfl (fun j hj => ?_) ?_ (by omega), bnd_ret]
  · unfold sf41_L1
    dsimp only
    rw [decide_eq_false (show ¬ (d.length : Int) < (d.length : Int) by omega), cond_false]
  · obtain ⟨x, hx⟩ : ∃ x, d[j]? = some x := ⟨_, lt_some hj⟩
    have q3 : rng ((j : Int) + 1) := by unfold rng; omega
    have hlen := wl_len (p := pp s d) j
    unfold sf41_L1
    dsimp only
    rw [decide_eq_true (show (j : Int) < (d.length : Int) by omega), cond_true, ix_at rfl hx, k71 hs (he j hj x hx), bnd_ret, wl_succ, pp_at hx]
    cases exb s.1 s.2 x.1 x.2.1 x.2.2
    · rw [Bool.not_false, cond_true, cond_false, ck_pos (by omega), ck_pos q3]; rfl
    · rw [Bool.not_true, cond_false, cond_true, ck_pos q3]; rfl
theorem k69a {N M : Nat} {s : Int × Int} {d : Di} {m : Ky → Option Bool} (hs : SC s.1 s.2) (he : ∀ j, j < d.length → enj d j) (hm : MI m) (hM : d.length < M) (hl : d.length < 1000) :
    ∃ m', iter (sf69_L1 N d s) M (([] : List Int), (0 : Int), m) = some (wl (pp s d) d.length, m') ∧ MI m' := by
  obtain ⟨y, e, h1, h2⟩ := iter_ind (step := sf69_L1 N d s) (fun x => ∃ j : Nat, j ≤ d.length ∧ x.2.1 = (j : Int) ∧ x.1 = wl (pp s d) j ∧ MI x.2.2) (fun x => d.length - x.2.1.toNat) (fun y => y.1 = wl (pp s d) d.length ∧ MI y.2) (fun x hx => by
      obtain ⟨w, i, m⟩ := x
      obtain ⟨j, hj, e1, e2, e3⟩ := hx
      dsimp only at e1 e2 e3
      subst e1; subst e2
      by_cases c : j < d.length
      rotate_left
      · refine .inr ⟨(wl (pp s d) j, m), ?_, by rw [show j = d.length by omega], e3⟩
        unfold sf69_L1
        dsimp only
        rw [decide_eq_false (show ¬ (j : Int) < (d.length : Int) by omega), cond_false]
      · obtain ⟨x, hx⟩ : ∃ x, d[j]? = some x := ⟨_, lt_some c⟩
        have q3 : rng ((j : Int) + 1) := by unfold rng; omega
        have hlen := wl_len (p := pp s d) j
        have hp := pp_at (s := s) hx
        have k := k103 (N := N) hs (he j c x hx)
        rcases e3.at (s.1, s.2, x.1, x.2.1, x.2.2) with g | ⟨g, g2⟩
        · refine .inl ⟨(wl (pp s d) (j + 1), ((j + 1 : Nat) : Int), upm m (s.1, s.2, x.1, x.2.1, x.2.2) (exb s.1 s.2 x.1 x.2.1 x.2.2)), ?_, ⟨j + 1, by omega, rfl, rfl, e3.upd _ _ _ _ _⟩, by dsimp only; omega⟩
          unfold sf69_L1
          dsimp only
          rw [decide_eq_true (show (j : Int) < (d.length : Int) by omega), cond_true, ix_at rfl hx, g, Bool.not_false, cond_true, k, bnd_ret, wl_succ, hp]
          cases exb s.1 s.2 x.1 x.2.1 x.2.2
          · rw [Bool.not_false, cond_true, cond_false, ck_pos (by omega), ck_pos q3]; rfl
          · rw [Bool.not_true, cond_false, cond_true, ck_pos q3]; rfl
        · refine .inl ⟨(wl (pp s d) (j + 1), ((j + 1 : Nat) : Int), m), ?_, ⟨j + 1, by omega, rfl, rfl, e3⟩, by dsimp only; omega⟩
          dsimp only at g2
          unfold sf69_L1
          dsimp only
          rw [decide_eq_true (show (j : Int) < (d.length : Int) by omega), cond_true, ix_at rfl hx, g, Bool.not_true, cond_false, g2, wl_succ, hp]
          cases exb s.1 s.2 x.1 x.2.1 x.2.2
          · rw [Bool.not_false, cond_true, cond_false, ck_pos (by omega), ck_pos q3]; rfl
          · rw [Bool.not_true, cond_false, cond_true, ck_pos q3]; rfl) M (([] : List Int), (0 : Int), m) ⟨0, by omega, rfl, rfl, hm⟩ (by dsimp only; omega)
  refine ⟨y.2, ?_, h2⟩
  rw [e, ← h1]
theorem l4 {N : Nat} {d : Di} {s : Int × Int} : sf69_L4 N d s = sf69_L1 N d s := rfl
/-- How many entries the scales do not explain. -/
def cn (l : Sc) (d : Di) (i : Nat) : Int := match l[i]? with | some s => (wl (pp s d) d.length).length | none => 0
theorem cn_at {l : Sc} {d : Di} {i : Nat} {s : Int × Int} (h : l[i]? = some s) : cn l d i = (wl (pp s d) d.length).length := by unfold cn; rw [h]
/-- The first one with the fewest. -/
def bi (c : Nat → Int) : Nat → Nat
  | 0 => 0
  | j + 1 => if c j < c (bi c j) then j else bi c j
theorem bi_lt {c : Nat → Int} : ∀ j n, j ≤ n → 0 < n → bi c j < n
  | 0, n, _, h => h
  | j + 1, n, h, h' => by
    unfold bi
    split
    · omega
    · exact bi_lt j n (by omega) h'
theorem k69 {l : Sc} {d : Di} (ok : OkD l d) (h0 : 0 < l.length) : ∃ s, l[bi (cn l d) l.length]? = some s ∧ sf69 100 l d = some (((bi (cn l d) l.length : Nat) : Int), wl (pp s d) d.length) := by
  have hl8 := ok.l8
  have hd12 := ok.d12
  have lt := bi_lt (c := cn l d) l.length l.length (Nat.le_refl _) h0
  obtain ⟨s, hs⟩ : ∃ s, l[bi (cn l d) l.length]? = some s := ⟨_, lt_some lt⟩
  refine ⟨s, hs, ?_⟩
  obtain ⟨y, e, m1, m2⟩ := iter_ind (step := sf69_L2 100 l d) (fun x => ∃ j : Nat, j ≤ l.length ∧ x.1 = (j : Int) ∧ MI x.2.1 ∧ ∀ i, i < j → x.2.2 i = cn l d i) (fun x => l.length - x.1.toNat) (fun y => MI y.1 ∧ ∀ i, i < l.length → y.2 i = cn l d i) (fun x hx => by
      obtain ⟨i, m, f⟩ := x
      obtain ⟨j, hj, e1, e2, e3⟩ := hx
      dsimp only at e1 e2 e3
      subst e1
      by_cases c : j < l.length
      rotate_left
      · refine .inr ⟨(m, f), ?_, e2, fun i hi => e3 i (by omega)⟩
        unfold sf69_L2
        dsimp only
        rw [decide_eq_false (show ¬ (j : Int) < (l.length : Int) by omega), cond_false]
      · obtain ⟨x, hx⟩ : ∃ x, l[j]? = some x := ⟨_, lt_some c⟩
        have q3 : rng ((j : Int) + 1) := by unfold rng; omega
        obtain ⟨m', k1, k2⟩ := k69a (N := 100) (M := 100) (ok.sc j c x hx) ok.en e2 (by omega) (by omega)
        refine .inl ⟨(((j + 1 : Nat) : Int), m', ups f j ((wl (pp x d) d.length).length : Int)), ?_, ⟨j + 1, by omega, rfl, k2, fun i hi => ?_⟩, by dsimp only; omega⟩
        · unfold sf69_L2
          dsimp only
          rw [decide_eq_true (show (j : Int) < (l.length : Int) by omega), cond_true, ix_at rfl hx, k1, bnd_ret, ck_pos (by omega), ck_pos q3, Int.toNat_natCast]; rfl
        · show (if i = j then ((wl (pp x d) d.length).length : Int) else f i) = _
          by_cases e : i = j
          · rw [if_pos e, e, cn_at hx]
          · rw [if_neg e]; exact e3 i (by omega)) 100 ((0 : Int), (fun _ => none), (fun _ => (0 : Int))) ⟨0, by omega, rfl, MI.none, fun i hi => by omega⟩ (by dsimp only; omega)
  unfold sf69
  rw [e, bnd_ret]
  rw [iter_up (x := ((0 : Int), (0 : Int))) (fun j => (((bi (cn l d) j : Nat) : Int), (j : Int))) l.length ((bi (cn l d) l.length : Nat) : Int) rfl (fun j hj => ?_) ?_ (by omega), bnd_ret]
  · obtain ⟨m', k1, k2⟩ := k69a (N := 100) (M := 100) (s := s) (ok.sc _ lt s hs) ok.en m1 (by omega) (by omega)
    rw [ix_at rfl hs, l4, k1, bnd_ret]
  · unfold sf69_L3
    dsimp only
    rw [decide_eq_false (show ¬ (l.length : Int) < (l.length : Int) by omega), cond_false]
  · have q3 : rng ((j : Int) + 1) := by unfold rng; omega
    have lt' := bi_lt (c := cn l d) j l.length (by omega) h0
    unfold sf69_L3
    dsimp only
    rw [decide_eq_true (show (j : Int) < (l.length : Int) by omega), cond_true, ck_pos (by omega), ck_pos (by omega), Int.toNat_natCast, Int.toNat_natCast, m2 j hj, m2 _ lt']
    show _ = some (Sum.inl (((if cn l d j < cn l d (bi (cn l d) j) then j else bi (cn l d) j : Nat) : Int), ((j + 1 : Nat) : Int)))
    by_cases c : cn l d j < cn l d (bi (cn l d) j)
    · rw [decide_eq_true c, cond_true, ck_pos q3, if_pos c]; rfl
    · rw [decide_eq_false c, cond_false, ck_pos q3, if_neg c]; rfl
/-- The scales that explain all. -/
def kl (c : Nat → Int) : Nat → List Int
  | 0 => []
  | j + 1 => bif decide (c j = 0) then kl c j ++ [(j : Int)] else kl c j
theorem kl_len {c : Nat → Int} : ∀ j, (kl c j).length ≤ j
  | 0 => Nat.le_refl _
  | j + 1 => by
    have := kl_len (c := c) j
    unfold kl
    cases decide (c j = 0)
    · rw [cond_false]; omega
    · rw [cond_true, List.length_append, List.length_singleton]; omega
theorem k68a {N M : Nat} {s : Int × Int} {d : Di} {m : Ky → Option Bool} (hs : SC s.1 s.2) (he : ∀ j, j < d.length → enj d j) (hm : MI m) (hM : d.length < M) (hl : d.length < 1000) :
    ∃ m', MI m' ∧ ((wl (pp s d) d.length).length = 0 ∧ iter (sf68_L1 N d s) M ((0 : Int), m) = some (.inr m') ∨ (wl (pp s d) d.length).length ≠ 0 ∧ iter (sf68_L1 N d s) M ((0 : Int), m) = some (.inl m')) := by
  obtain ⟨y, e, h⟩ := iter_ind (step := sf68_L1 N d s) (fun x => ∃ j : Nat, j ≤ d.length ∧ x.1 = (j : Int) ∧ MI x.2 ∧ ∀ i, i < j → pp s d i = true) (fun x => d.length - x.1.toNat) (fun y => ∃ m', MI m' ∧ ((wl (pp s d) d.length).length = 0 ∧ y = .inr m' ∨ (wl (pp s d) d.length).length ≠ 0 ∧ y = .inl m')) (fun x hx => by
      obtain ⟨i, m⟩ := x
      obtain ⟨j, hj, e1, e2, e3⟩ := hx
      dsimp only at e1 e2 e3
      subst e1
      by_cases c : j < d.length
      rotate_left
      · refine .inr ⟨.inr m, ?_, m, e2, .inl ⟨(wl_nil _).2 fun i hi => e3 i (by omega), rfl⟩⟩
        unfold sf68_L1
        dsimp only
        rw [decide_eq_false (show ¬ (j : Int) < (d.length : Int) by omega), cond_false]
      · obtain ⟨x, hx⟩ : ∃ x, d[j]? = some x := ⟨_, lt_some c⟩
        have q3 : rng ((j : Int) + 1) := by unfold rng; omega
        have hp := pp_at (s := s) hx
        have k := k103 (N := N) hs (he j c x hx)
        cases hv : exb s.1 s.2 x.1 x.2.1 x.2.2
        · rw [hv] at hp k
          have bad : (wl (pp s d) d.length).length ≠ 0 := fun h => by
            have := (wl_nil _).1 h j c
            rw [hp] at this; cases this
          rcases e2.at (s.1, s.2, x.1, x.2.1, x.2.2) with g | ⟨g, g2⟩
          · refine .inr ⟨.inl (upm m (s.1, s.2, x.1, x.2.1, x.2.2) false), ?_, _, by rw [← hv]; exact e2.upd _ _ _ _ _, .inr ⟨bad, rfl⟩⟩
            unfold sf68_L1
            dsimp only
            rw [decide_eq_true (show (j : Int) < (d.length : Int) by omega), cond_true, ix_at rfl hx, g, Bool.not_false, cond_true, k, bnd_ret, Bool.not_false, cond_true]
          · dsimp only at g2
            rw [hv] at g2
            refine .inr ⟨.inl m, ?_, m, e2, .inr ⟨bad, rfl⟩⟩
            unfold sf68_L1
            dsimp only
            rw [decide_eq_true (show (j : Int) < (d.length : Int) by omega), cond_true, ix_at rfl hx, g, Bool.not_true, cond_false, g2, Bool.not_false, cond_true]
        · rw [hv] at hp k
          have more : ∀ i, i < j + 1 → pp s d i = true := fun i hi => by
            by_cases e : i = j
            · rw [e]; exact hp
            · exact e3 i (by omega)
          rcases e2.at (s.1, s.2, x.1, x.2.1, x.2.2) with g | ⟨g, g2⟩
          · refine .inl ⟨(((j + 1 : Nat) : Int), upm m (s.1, s.2, x.1, x.2.1, x.2.2) true), ?_, ⟨j + 1, by omega, rfl, by rw [← hv]; exact e2.upd _ _ _ _ _, more⟩, by dsimp only; omega⟩
            unfold sf68_L1
            dsimp only
            rw [decide_eq_true (show (j : Int) < (d.length : Int) by omega), cond_true, ix_at rfl hx, g, Bool.not_false, cond_true, k, bnd_ret, Bool.not_true, cond_false, ck_pos q3]; rfl
          · dsimp only at g2
            rw [hv] at g2
            refine .inl ⟨(((j + 1 : Nat) : Int), m), ?_, ⟨j + 1, by omega, rfl, e2, more⟩, by dsimp only; omega⟩
            unfold sf68_L1
            dsimp only
            rw [decide_eq_true (show (j : Int) < (d.length : Int) by omega), cond_true, ix_at rfl hx, g, Bool.not_true, cond_false, g2, Bool.not_true, cond_false, ck_pos q3]; rfl) M ((0 : Int), m) ⟨0, by omega, rfl, hm, fun i hi => by omega⟩ (by dsimp only; omega)
  obtain ⟨m', g1, g2⟩ := h
  refine ⟨m', g1, ?_⟩
  rcases g2 with ⟨a, b⟩ | ⟨a, b⟩
  · exact .inl ⟨a, by rw [e, b]⟩
  · exact .inr ⟨a, by rw [e, b]⟩
theorem k68 {l : Sc} {d : Di} (ok : OkD l d) : sf68 100 l d = some (kl (cn l d) l.length) := by
  have hl8 := ok.l8
  have hd12 := ok.d12
  obtain ⟨y, e, h⟩ := iter_ind (step := sf68_L2 100 l d) (fun x => ∃ j : Nat, j ≤ l.length ∧ x.2.1 = (j : Int) ∧ x.1 = kl (cn l d) j ∧ MI x.2.2) (fun x => l.length - x.2.1.toNat) (fun y => y.1 = kl (cn l d) l.length) (fun x hx => by
      obtain ⟨w, i, m⟩ := x
      obtain ⟨j, hj, e1, e2, e3⟩ := hx
      dsimp only at e1 e2 e3
      subst e1; subst e2
      by_cases c : j < l.length
      rotate_left
      · refine .inr ⟨(kl (cn l d) j, m), ?_, by rw [show j = l.length by omega]⟩
        unfold sf68_L2
        dsimp only
        rw [decide_eq_false (show ¬ (j : Int) < (l.length : Int) by omega), cond_false]
      · obtain ⟨x, hx⟩ : ∃ x, l[j]? = some x := ⟨_, lt_some c⟩
        have q3 : rng ((j : Int) + 1) := by unfold rng; omega
        have hlen := kl_len (c := cn l d) j
        have hc := cn_at (d := d) hx
        obtain ⟨m', k1, k2⟩ := k68a (N := 100) (M := 100) (ok.sc j c x hx) ok.en e3 (by omega) (by omega)
        refine .inl ⟨(kl (cn l d) (j + 1), ((j + 1 : Nat) : Int), m'), ?_, ⟨j + 1, by omega, rfl, rfl, k1⟩, by dsimp only; omega⟩
        unfold sf68_L2
        dsimp only
        show _ = some (Sum.inl ((bif decide (cn l d j = 0) then kl (cn l d) j ++ [(j : Int)] else kl (cn l d) j), ((j + 1 : Nat) : Int), m'))
        rcases k2 with ⟨a, b⟩ | ⟨a, b⟩
        · rw [decide_eq_true (show (j : Int) < (l.length : Int) by omega), cond_true, ix_at rfl hx, b, bnd_ret, sel_inr, ck_pos (by omega), ck_pos q3, decide_eq_true (show cn l d j = 0 by rw [hc]; omega), cond_true]; rfl
        · rw [decide_eq_true (show (j : Int) < (l.length : Int) by omega), cond_true, ix_at rfl hx, b, bnd_ret, sel_inl, ck_pos q3, decide_eq_false (show ¬ cn l d j = 0 by rw [hc]; omega), cond_false]; rfl) 100 (([] : List Int), (0 : Int), (fun _ => none)) ⟨0, by omega, rfl, rfl, MI.none⟩ (by dsimp only; omega)
  unfold sf68
  rw [e, bnd_ret, h]
theorem k42 {N : Nat} {l : List Int} (hN : l.length < N) (hl : N < 1000000000) : sf42 N l l = some true := by
  unfold sf42
  rw [decide_eq_true rfl, Bool.not_true, cond_false]
  rw [iter_up (x := (0 : Int)) (fun j => (j : Int)) l.length (.inr ()) rfl (fun j hj => ?_) ?_ hN, bnd_ret, sel_inr]
  · unfold sf42_L1
    rw [decide_eq_false (show ¬ (l.length : Int) < (l.length : Int) by omega), cond_false]
  · obtain ⟨x, hx⟩ : ∃ x, l[j]? = some x := ⟨_, lt_some hj⟩
    have q3 : rng ((j : Int) + 1) := by unfold rng; omega
    unfold sf42_L1
    rw [decide_eq_true (show (j : Int) < (l.length : Int) by omega), cond_true, ix_at rfl hx, ix_at rfl hx, decide_eq_true rfl, Bool.not_true, cond_false, ck_pos q3]; rfl
theorem k6 {l : Sc} {d : Di} (ok : OkD l d) : iter (sf6_L1 100 l d) 100 (([] : List Int), (0 : Int), (0 : Int)) = some (kl (cn l d) l.length, ((bi (cn l d) l.length : Nat) : Int)) := by
  have hl8 := ok.l8
  have hd12 := ok.d12
  refine iter_up (fun j => (kl (cn l d) j, ((bi (cn l d) j : Nat) : Int), (j : Int))) l.length _ rfl (fun j hj => ?_) ?_ (by omega)
  · obtain ⟨x, hx⟩ : ∃ x, l[j]? = some x := ⟨_, lt_some hj⟩
    have q3 : rng ((j : Int) + 1) := by unfold rng; omega
    have hlen := kl_len (c := cn l d) j
    have hc := cn_at (d := d) hx
    have lt' := bi_lt (c := cn l d) j l.length (by omega) (by omega)
    obtain ⟨z, hz⟩ : ∃ z, l[bi (cn l d) j]? = some z := ⟨_, lt_some lt'⟩
    have hcz := cn_at (d := d) hz
    unfold sf6_L1
    dsimp only
    rw [decide_eq_true (show (j : Int) < (l.length : Int) by omega), cond_true, ix_at rfl hx, k41 (ok.sc j hj x hx) ok.en (by omega) (by omega), bnd_ret]
    have e1 : (bif (decide (((wl (pp x d) d.length).length : Int) = (0 : Int))) then (ck (((kl (cn l d) j).length + 1) * 8 ≤ 35184372088832 ∧ (kl (cn l d) j).length + 1 ≤ 35184372088832) (some (kl (cn l d) j ++ [(j : Int)]))) else some (kl (cn l d) j)) = some (kl (cn l d) (j + 1)) := by
      show _ = some (bif decide (cn l d j = 0) then kl (cn l d) j ++ [(j : Int)] else kl (cn l d) j)
      rw [hc]
      cases decide (((wl (pp x d) d.length).length : Int) = 0)
      · rw [cond_false, cond_false]
      · rw [cond_true, cond_true, ck_pos (by omega)]
    rw [e1, bnd_ret, ix_at rfl hz, k41 (ok.sc _ lt' z hz) ok.en (by omega) (by omega), bnd_ret]
    show _ = some (Sum.inl (kl (cn l d) (j + 1), ((if cn l d j < cn l d (bi (cn l d) j) then j else bi (cn l d) j : Nat) : Int), ((j + 1 : Nat) : Int)))
    rw [hc, hcz]
    by_cases c : ((wl (pp x d) d.length).length : Int) < ((wl (pp z d) d.length).length : Int)
    · rw [decide_eq_true c, cond_true, ck_pos q3, if_pos c]; rfl
    · rw [decide_eq_false c, cond_false, ck_pos q3, if_neg c]; rfl
  · unfold sf6_L1
    dsimp only
    rw [decide_eq_false (show ¬ (l.length : Int) < (l.length : Int) by omega), cond_false]
end Go.Hx.V

/- Layer 3: diaries with an entry more, and in another order; the law of P3.14. -/
namespace Go.Hx.V
open Go.Hx
set_option linter.unusedVariables false
set_option linter.unusedSimpArgs false
set_option maxRecDepth 20000
def ne (s : Int × Int) (e : Int × Int × Int) : Bool := !exb s.1 s.2 e.1 e.2.1 e.2.2
theorem pp_ne {s : Int × Int} {d : Di} {j : Nat} {e : Int × Int × Int} (h : d[j]? = some e) : pp s d j = !ne s e := by
  rw [pp_at h]; unfold ne; rw [Bool.not_not]
theorem wl_count {s : Int × Int} {d : Di} : ∀ n, n ≤ d.length → (wl (pp s d) n).length = (d.take n).countP (ne s)
  | 0, _ => rfl
  | n + 1, h => by
    obtain ⟨e, he⟩ : ∃ e, d[n]? = some e := ⟨_, lt_some (by omega)⟩
    rw [wl_succ, take_succ' he, List.countP_append, ← wl_count n (by omega), pp_ne he]
    cases hv : ne s e
    · rw [Bool.not_false, cond_true, List.countP_singleton, hv]; rfl
    · rw [Bool.not_true, cond_false, List.length_append, List.countP_singleton, hv]; rfl
theorem wl_all {s : Int × Int} {d : Di} : (wl (pp s d) d.length).length = d.countP (ne s) := by
  rw [wl_count _ (Nat.le_refl _), List.take_length]
theorem cn_count {l : Sc} {d : Di} {i : Nat} {s : Int × Int} (h : l[i]? = some s) : cn l d i = (d.countP (ne s) : Nat) := by rw [cn_at h, wl_all]
theorem cn_low {l : Sc} {d : Di} {i : Nat} : 0 ≤ cn l d i := by
  unfold cn
  split <;> omega
/-- Two diaries with as many entries that are not explained. -/
theorem cn_same {l : Sc} {d d' : Di} (h : ∀ s, d.countP (ne s) = d'.countP (ne s)) : cn l d = cn l d' := by
  funext i
  unfold cn
  cases e : l[i]? with
  | none => rfl
  | some s =>
    show ((wl (pp s d) d.length).length : Int) = ((wl (pp s d') d'.length).length : Int)
    rw [wl_all, wl_all, h s]
theorem cn_more {l : Sc} {d : Di} {e : Int × Int × Int} {i : Nat} : cn l d i ≤ cn l (d ++ [e]) i := by
  cases h : l[i]? with
  | none => unfold cn; rw [h]; exact Int.le_refl _
  | some s =>
    rw [cn_count h, cn_count h, List.countP_append]
    omega
theorem bi_min {c : Nat → Int} : ∀ n i, i < n → c (bi c n) ≤ c i
  | 0, i, h => by omega
  | n + 1, i, h => by
    unfold bi
    by_cases e : i = n
    · subst e
      split
      · exact Int.le_refl _
      · omega
    · have := bi_min (c := c) n i (by omega)
      split
      · omega
      · exact this
theorem kl_mem {c : Nat → Int} : ∀ n (x : Int), x ∈ kl c n ↔ ∃ j : Nat, j < n ∧ c j = 0 ∧ x = j
  | 0, x => ⟨fun h => (by cases h), fun ⟨j, h, _⟩ => by omega⟩
  | n + 1, x => by
    have ih := kl_mem (c := c) n x
    show x ∈ (bif decide (c n = 0) then kl c n ++ [(n : Int)] else kl c n) ↔ _
    by_cases h : c n = 0
    · rw [decide_eq_true h, cond_true, List.mem_append, ih, List.mem_singleton]
      constructor
      · rintro (⟨j, h1, h2, h3⟩ | h1)
        · exact ⟨j, by omega, h2, h3⟩
        · exact ⟨n, by omega, h, h1⟩
      · rintro ⟨j, h1, h2, h3⟩
        by_cases e : j = n
        · subst e; exact .inr h3
        · exact .inl ⟨j, by omega, h2, h3⟩
    · rw [decide_eq_false h, cond_false, ih]
      constructor
      · rintro ⟨j, h1, h2, h3⟩; exact ⟨j, by omega, h2, h3⟩
      · rintro ⟨j, h1, h2, h3⟩
        by_cases e : j = n
        · subst e; exact absurd h2 h
        · exact ⟨j, by omega, h2, h3⟩
theorem wl_mem {p : Nat → Bool} : ∀ n (x : Int), x ∈ wl p n ↔ ∃ j : Nat, j < n ∧ p j = false ∧ x = j
  | 0, x => ⟨fun h => (by cases h), fun ⟨j, h, _⟩ => by omega⟩
  | n + 1, x => by
    have ih := wl_mem (p := p) n x
    rw [wl_succ]
    cases h : p n
    · rw [cond_false, List.mem_append, ih, List.mem_singleton]
      constructor
      · rintro (⟨j, h1, h2, h3⟩ | h1)
        · exact ⟨j, by omega, h2, h3⟩
        · exact ⟨n, by omega, h, h1⟩
      · rintro ⟨j, h1, h2, h3⟩
        by_cases e : j = n
        · subst e; exact .inr h3
        · exact .inl ⟨j, by omega, h2, h3⟩
    · rw [cond_true, ih]
      constructor
      · rintro ⟨j, h1, h2, h3⟩; exact ⟨j, by omega, h2, h3⟩
      · rintro ⟨j, h1, h2, h3⟩
        by_cases e : j = n
        · subst e; rw [h] at h2; cases h2
        · exact ⟨j, by omega, h2, h3⟩
theorem con_succ {l : List Int} {z x : Int} {n : Nat} (h : l[n]? = some x) : (l.take (n + 1)).contains z = ((l.take n).contains z || decide (x = z)) := by
  rw [take_succ' h]
  rw [Bool.eq_iff_iff]
  simp only [List.contains_iff_mem, List.mem_append, List.mem_singleton, Bool.or_eq_true, decide_eq_true_eq]
  constructor
  · rintro (h | h)
    · exact .inl h
    · exact .inr h.symm
  · rintro (h | h)
    · exact .inl h
    · exact .inr h.symm
theorem k15a {a b : List Int} {ea eb z : Int} {q : Nat} (hz : b[q]? = some z) (ha : a.length < 100) (hq : q < 100) : iter (sf15_L1 (a, ea) (b, eb) (q : Int)) 100 (false, (0 : Int)) = some (a.contains z) := by
  have : iter (sf15_L1 (a, ea) (b, eb) (q : Int)) 100 (false, (0 : Int)) = some ((a.take a.length).contains z) := by
    refine iter_up (fun j => ((a.take j).contains z, (j : Int))) a.length _ rfl (fun j hj => ?_) ?_ (by omega)
    · obtain ⟨x, hx⟩ : ∃ x, a[j]? = some x := ⟨_, lt_some hj⟩
      have q3 : rng ((j : Int) + 1) := by unfold rng; omega
      unfold sf15_L1
      dsimp only
      rw [decide_eq_true (show (j : Int) < (a.length : Int) by omega), cond_true, con_succ hx]
      cases (a.take j).contains z
      · rw [cond_false, ix_at rfl hx, ix_at rfl hz, ck_pos q3, Bool.false_or]; rfl
      · rw [cond_true, ck_pos q3, Bool.true_or]; rfl
    · unfold sf15_L1
      dsimp only
      rw [decide_eq_false (show ¬ (a.length : Int) < (a.length : Int) by omega), cond_false]
  rw [this, List.take_length]
theorem k15b {a b : List Int} {ea eb : Int} (h : ∀ z, z ∈ b → z ∈ a) (ha : a.length < 100) (hb : b.length < 100) : iter (sf15_L2 100 (a, ea) (b, eb)) 100 (0 : Int) = some (.inr ()) := by
  refine iter_up (fun j => (j : Int)) b.length (Sum.inr ()) rfl (fun j hj => ?_) ?_ (by omega)
  · obtain ⟨x, hx⟩ : ∃ x, b[j]? = some x := ⟨_, lt_some hj⟩
    have q3 : rng ((j : Int) + 1) := by unfold rng; omega
    have hc : a.contains x = true := List.contains_iff_mem.2 (h x (List.mem_iff_getElem?.2 ⟨j, hx⟩))
    unfold sf15_L2
    dsimp only
    rw [decide_eq_true (show (j : Int) < (b.length : Int) by omega), cond_true, k15a hx ha (by omega), hc, bnd_ret, Bool.not_true, cond_false, ck_pos q3]; rfl
  · unfold sf15_L2
    dsimp only
    rw [decide_eq_false (show ¬ (b.length : Int) < (b.length : Int) by omega), cond_false]
theorem k15c {w : List Int} {n e : Int} {r : Di} {q : Int} (hw : w.length < 100) : iter (sf15_L3 (n, w, e) (r, q)) 100 (false, (0 : Int)) = some (w.contains q) := by
  have : iter (sf15_L3 (n, w, e) (r, q)) 100 (false, (0 : Int)) = some ((w.take w.length).contains q) := by
    refine iter_up (fun j => ((w.take j).contains q, (j : Int))) w.length _ rfl (fun j hj => ?_) ?_ (by omega)
    · obtain ⟨x, hx⟩ : ∃ x, w[j]? = some x := ⟨_, lt_some hj⟩
      have q3 : rng ((j : Int) + 1) := by unfold rng; omega
      unfold sf15_L3
      dsimp only
      rw [decide_eq_true (show (j : Int) < (w.length : Int) by omega), cond_true, con_succ hx]
      cases (w.take j).contains q
      · rw [cond_false, ix_at rfl hx, ck_pos q3, Bool.false_or]; rfl
      · rw [cond_true, ck_pos q3, Bool.true_or]; rfl
    · unfold sf15_L3
      dsimp only
      rw [decide_eq_false (show ¬ (w.length : Int) < (w.length : Int) by omega), cond_false]
  rw [this, List.take_length]
/-- The entries that are explained. -/
def rr (p : Nat → Bool) (d : Di) : Nat → Di
  | 0 => []
  | j + 1 => bif p j then rr p d j ++ [(d[j]?).getD (0, 0, 0)] else rr p d j
theorem rr_len {p : Nat → Bool} {d : Di} : ∀ n, (rr p d n).length + (wl p n).length = n
  | 0 => rfl
  | n + 1 => by
    have ih := rr_len (p := p) (d := d) n
    show (bif p n then rr p d n ++ [(d[n]?).getD (0, 0, 0)] else rr p d n).length + (bif p n then wl p n else wl p n ++ [(n : Int)]).length = n + 1
    cases p n
    · rw [cond_false, cond_false, List.length_append, List.length_singleton]; omega
    · rw [cond_true, cond_true, List.length_append, List.length_singleton]; omega
theorem rr_mem {p : Nat → Bool} {d : Di} : ∀ n, n ≤ d.length → ∀ e, e ∈ rr p d n → ∃ j : Nat, j < n ∧ p j = true ∧ d[j]? = some e
  | 0, _, e, h => by cases h
  | n + 1, hn, e, h => by
    have h' : e ∈ (bif p n then rr p d n ++ [(d[n]?).getD (0, 0, 0)] else rr p d n) := h
    cases hp : p n
    · rw [hp, cond_false] at h'
      obtain ⟨j, h1, h2⟩ := rr_mem n (by omega) e h'
      exact ⟨j, by omega, h2⟩
    · rw [hp, cond_true, List.mem_append, List.mem_singleton] at h'
      rcases h' with h' | h'
      · obtain ⟨j, h1, h2⟩ := rr_mem n (by omega) e h'
        exact ⟨j, by omega, h2⟩
      · obtain ⟨y, hy⟩ : ∃ y, d[n]? = some y := ⟨_, lt_some (by omega)⟩
        rw [hy] at h'
        exact ⟨n, by omega, hp, by rw [hy, h']; rfl⟩
theorem k15d {d : Di} {e0 e1 e2 n e : Int} {p : Nat → Bool} (hx : (d ++ [(e0, e1, e2)]).length < 100) : iter (sf15_L4 100 d e0 e1 e2 (n, wl p (d ++ [(e0, e1, e2)]).length, e)) 100 (([] : Di), (0 : Int)) = some (rr p (d ++ [(e0, e1, e2)]) (d ++ [(e0, e1, e2)]).length) := by
  obtain ⟨x, hxx⟩ : ∃ x, d ++ [(e0, e1, e2)] = x := ⟨_, rfl⟩
  rw [hxx] at hx ⊢
  have hwl := wl_len (p := p) x.length
  refine iter_up (fun j => (rr p x j, (j : Int))) x.length _ rfl (fun j hj => ?_) ?_ (by omega)
  · obtain ⟨y, hy⟩ : ∃ y, x[j]? = some y := ⟨_, lt_some hj⟩
    have q3 : rng ((j : Int) + 1) := by unfold rng; omega
    have hlen := rr_len (p := p) (d := x) j
    have hc : (wl p x.length).contains (j : Int) = !p j := by
      rw [Bool.eq_iff_iff, List.contains_iff_mem, wl_mem]
      constructor
      · rintro ⟨i, h1, h2, h3⟩
        have : i = j := by omega
        subst this; rw [h2]; rfl
      · intro h
        refine ⟨j, hj, ?_, rfl⟩
        cases hp : p j
        · rfl
        · rw [hp] at h; cases h
    unfold sf15_L4
    dsimp only
    rw [hxx, decide_eq_true (show (j : Int) < (x.length : Int) by omega), cond_true, k15c (by omega), bnd_ret, hc, Bool.not_not]
    show _ = some (Sum.inl ((bif p j then rr p x j ++ [(x[j]?).getD (0, 0, 0)] else rr p x j), ((j + 1 : Nat) : Int)))
    cases p j
    · rw [cond_false, cond_false, ck_pos q3]; rfl
    · rw [cond_true, cond_true, ix_at rfl hy, ck_pos (by omega), ck_pos q3, hy]; rfl
  · unfold sf15_L4
    dsimp only
    rw [hxx, decide_eq_false (show ¬ (x.length : Int) < (x.length : Int) by omega), cond_false]
theorem en_mem {d : Di} : (∀ j, j < d.length → enj d j) ↔ ∀ e, e ∈ d → EN e.1 e.2.1 e.2.2 :=
  ⟨fun h e he => by
    obtain ⟨j, hj⟩ := List.mem_iff_getElem?.1 he
    exact h j (some_lt hj) e hj, fun h j _ e he => h e (List.mem_iff_getElem?.2 ⟨j, he⟩)⟩
theorem OkD.of {l : Sc} {d d' : Di} (ok : OkD l d) (hl : d'.length ≤ 12) (h : ∀ e, e ∈ d' → e ∈ d) : OkD l d' := ⟨ok.l8, hl, ok.sc, en_mem.2 fun e he => en_mem.1 ok.en e (h e he)⟩
/-- The checks, for a diary that is all right. -/
theorem ok67 {l : Sc} {d : Di} (ok : OkD l d) : sf67 100 l d = some 0 := by
  have hl8 := ok.l8
  have hd12 := ok.d12
  unfold sf67 sf74
  rw [decide_eq_false (show ¬ (12 : Int) < (d.length : Int) by omega), cond_false, decide_eq_false (show ¬ (8 : Int) < (l.length : Int) by omega), cond_false]
  rcases k97 (N := 100) (l := l) (by omega) (by omega) with ⟨a, b⟩ | ⟨a, b⟩
  rotate_left
  · exact absurd ok.sc a
  rw [b, bnd_ret, Bool.not_true, cond_false, bnd_ret, decide_eq_true rfl, Bool.not_true, cond_false, k93, bnd_ret]
  dsimp only
  rcases k92 (N := 100) (l := d) (by omega) (by omega) with ⟨g, k⟩ | ⟨g, k⟩
  · rw [k, bnd_ret, Bool.not_true, cond_false]
  · exact absurd ok.en g
theorem ok37 {l : Sc} {d : Di} (ok : OkD l d) : sf37 100 l d = some (kl (cn l d) l.length, 0) := by
  unfold sf37
  rw [ok67 ok, bnd_ret, decide_eq_true (show (0 : Int) = 0 from rfl), Bool.not_true, cond_false, k68 ok, bnd_ret]
theorem ok39 {l : Sc} {d : Di} (ok : OkD l d) (h0 : 0 < l.length) : ∃ s, l[bi (cn l d) l.length]? = some s ∧ sf39 100 l d = some (((bi (cn l d) l.length : Nat) : Int), wl (pp s d) d.length, 0) := by
  obtain ⟨s, hs, k⟩ := k69 ok h0
  refine ⟨s, hs, ?_⟩
  unfold sf39
  rw [ok67 ok, bnd_ret, decide_eq_true (show (0 : Int) = 0 from rfl), Bool.not_true, cond_false, decide_eq_false (show ¬ (l.length : Int) = 0 by omega), cond_false, k, bnd_ret]
/-- The law of P3.14. -/
theorem law15 {l : Sc} {d : Di} {e0 e1 e2 w : Int} (hd : d.length < 1000000000) (hb : 0 ≤ w ∧ w ≤ 255) : sf15 100 l d e0 e1 e2 w = some true := by
  have hxl : (d ++ [(e0, e1, e2)]).length = d.length + 1 := by rw [List.length_append, List.length_singleton]
  unfold sf15
  rw [ck_pos (by rw [List.length_nil]; omega), ck_pos (by omega)]
  by_cases c1 : l.length = 0
  · rw [decide_eq_true (show (l.length : Int) = 0 by omega), cond_true, bnd_ret, cond_true, bnd_ret, sel_inl]
  rw [decide_eq_false (show ¬ (l.length : Int) = 0 by omega), cond_false]
  by_cases c2 : 11 < d.length
  · rw [decide_eq_true (show (11 : Int) < (d.length : Int) by omega), cond_true, bnd_ret, cond_true, bnd_ret, sel_inl]
  rw [decide_eq_false (show ¬ (11 : Int) < (d.length : Int) by omega), cond_false]
  by_cases c3 : 11 < l.length
  · have f40 : sf40 100 l (d ++ [(e0, e1, e2)]) = some 3 := by
      unfold sf40
      rw [decide_eq_true (show (8 : Int) < (l.length : Int) by omega), cond_true, bnd_ret, cond_true, bnd_ret, sel_inl]
    rw [f40, bnd_ret, decide_eq_false (show ¬ (3 : Int) = 0 by decide), Bool.not_false, bnd_ret, cond_true, bnd_ret, sel_inl]
  obtain ⟨x, hx⟩ : ∃ x, d ++ [(e0, e1, e2)] = x := ⟨_, rfl⟩
  have hxl' : x.length = d.length + 1 := by rw [← hx]; exact hxl
  obtain ⟨e, f67, f40, he⟩ := checks (l := l) (d := x) (by omega) (by omega)
  have k15d' := fun (n e : Int) (p : Nat → Bool) => k15d (d := d) (e0 := e0) (e1 := e1) (e2 := e2) (n := n) (e := e) (p := p) (by omega)
  rw [hx] at k15d' ⊢
  rw [f40, bnd_ret]
  by_cases c0 : e = 0
  rotate_left
  · rw [decide_eq_false c0, Bool.not_false, bnd_ret, cond_true, bnd_ret, sel_inl]
  rw [decide_eq_true c0, Bool.not_true, bnd_ret, cond_false, bnd_ret, sel_inr]
  have okx := he c0
  have hl8 := okx.l8
  have hd12 := okx.d12
  -- the place where it is turned
  obtain ⟨k, hk⟩ : ∃ k : Nat, Int.tmod w (x.length : Int) = (k : Int) := ⟨(Int.tmod w (x.length : Int)).toNat, by have := Int.tmod_nonneg (x.length : Int) hb.1; omega⟩
  have hkl : k < x.length := by have := Int.tmod_lt_of_pos w (show (0 : Int) < (x.length : Int) by omega); omega
  have hdr : ((x.drop k).take (x.length - k)).length = x.length - k := by rw [List.length_take, List.length_drop]; omega
  have htk : ((x.drop 0).take (k - 0)).length = k := by rw [List.length_take, List.length_drop]; omega
  rw [hk, Int.toNat_natCast, ck_pos (wrap_small w (by omega) (by omega)), ck_pos (by omega), ck_pos (by omega), ck_pos (by rw [List.length_nil]; omega), ck_pos (by omega), ck_pos (by omega)]
  obtain ⟨y, hy⟩ : ∃ y, (x.drop k).take (x.length - k) ++ (x.drop 0).take (k - 0) = y := ⟨_, rfl⟩
  have hyl : y.length = x.length := by rw [← hy, List.length_append, hdr, htk]; omega
  have ydef : y = x.drop k ++ x.take k := by
    rw [← hy, List.drop_zero, Nat.sub_zero]
    rw [List.take_of_length_le (by rw [List.length_drop]; omega)]
  rw [hy]
  have okd : OkD l d := okx.of (by omega) fun e he => by rw [← hx]; exact List.mem_append_left _ he
  have oky : OkD l y := okx.of (by omega) fun e he => by
    rw [ydef] at he
    rcases List.mem_append.1 he with h | h
    · exact List.mem_of_mem_drop h
    · exact List.mem_of_mem_take h
  have cyx : cn l y = cn l x := cn_same fun s => by
    rw [ydef, List.countP_append, Nat.add_comm, ← List.countP_append, List.take_append_drop]
  have cdx : ∀ i, cn l d i ≤ cn l x i := fun i => by rw [← hx]; exact cn_more
  rw [k25 (by omega) (by omega), bnd_ret, k38 (by omega) (by omega), bnd_ret, ok37 okd, bnd_ret, bnd_ret, k38 (by omega) (by omega), bnd_ret, ok37 okx, bnd_ret, bnd_ret, k38 (by omega) (by omega), bnd_ret, ok37 oky, bnd_ret, cyx]
  obtain ⟨sd, hsd, g39d⟩ := ok39 okd (by omega)
  obtain ⟨sx, hsx, g39x⟩ := ok39 okx (by omega)
  obtain ⟨sy, hsy, g39y⟩ := ok39 oky (by omega)
  rw [cyx] at hsy g39y
  have esy : sy = sx := by rw [hsx] at hsy; cases hsy; rfl
  subst esy
  rw [bnd_ret, bnd_ret, g39d, bnd_ret, bnd_ret, bnd_ret, g39x, bnd_ret, bnd_ret, bnd_ret, g39y, bnd_ret]
  dsimp only
  have ltx := some_lt hsx
  have nx := cn_at (d := x) hsx
  have ny := cn_at (d := y) hsx
  have nd := cn_at (d := d) hsd
  rw [cyx] at ny
  have hwx : (wl (pp sy x) x.length).length = (wl (pp sy y) y.length).length := by omega
  have hle : (wl (pp sd d) d.length).length ≤ (wl (pp sy x) x.length).length := by
    have a1 := bi_min (c := cn l d) l.length (bi (cn l x) l.length) ltx
    have a2 := cdx (bi (cn l x) l.length)
    omega
  have hkb := kl_len (c := cn l x) l.length
  have hka := kl_len (c := cn l d) l.length
  have hwl := wl_len (p := pp sy x) x.length
  have six : ((decide ((0 : Int) < ((kl (cn l x) l.length).length : Int))) == (decide (((wl (pp sy x) x.length).length : Int) = (0 : Int)))) = true := by
    rw [beq_iff_eq, decide_eq_decide]
    constructor
    · intro h
      obtain ⟨z, hz⟩ : ∃ z, z ∈ kl (cn l x) l.length := by
        cases e : kl (cn l x) l.length with
        | nil => rw [e] at h; exact absurd h (by decide)
        | cons z t => exact ⟨z, List.mem_cons_self ..⟩
      obtain ⟨j, j1, j2, j3⟩ := (kl_mem _ _).1 hz
      have a1 := bi_min (c := cn l x) l.length j j1
      omega
    · intro h
      have : ((bi (cn l x) l.length : Nat) : Int) ∈ kl (cn l x) l.length := (kl_mem _ _).2 ⟨_, ltx, by omega, rfl⟩
      have := List.length_pos_of_mem this
      omega
  have sub : ∀ z, z ∈ kl (cn l x) l.length → z ∈ kl (cn l d) l.length := fun z hz => by
    obtain ⟨j, j1, j2, j3⟩ := (kl_mem _ _).1 hz
    have := cdx j
    have := cn_low (l := l) (d := d) (i := j)
    exact (kl_mem _ _).2 ⟨j, j1, by omega, j3⟩
  rw [decide_eq_true (show (0 : Int) = 0 from rfl), Bool.not_true, cond_false, cond_false, cond_false, cond_false, cond_false, cond_false, k42 (by omega) (by omega), bnd_ret, Bool.not_true, cond_false, decide_eq_false (show ¬ ((wl (pp sy x) x.length).length : Int) < ((wl (pp sd d) d.length).length : Int) by omega), cond_false, decide_eq_true (show ((bi (cn l x) l.length : Nat) : Int) = ((bi (cn l x) l.length : Nat) : Int) from rfl), Bool.not_true, cond_false, decide_eq_true (show ((wl (pp sy x) x.length).length : Int) = ((wl (pp sy y) y.length).length : Int) by omega), Bool.not_true, cond_false, decide_eq_false (show ¬ ((bi (cn l x) l.length : Nat) : Int) < 0 by omega), cond_false, decide_eq_false (show ¬ (l.length : Int) ≤ ((bi (cn l x) l.length : Nat) : Int) by omega), cond_false, six, Bool.not_true, bnd_ret, cond_false, bnd_ret, sel_inr, k15b sub (by omega) (by omega), bnd_ret, sel_inr, k15d', bnd_ret, ix_at rfl hsx]
  unfold sf17
  rw [bnd_ret]
  dsimp only
  have hrl := rr_len (p := pp sy x) (d := x) x.length
  obtain ⟨r, hr⟩ : ∃ r, rr (pp sy x) x x.length = r := ⟨_, rfl⟩
  rw [hr] at hrl ⊢
  have okr : OkD [sy] r := by
    refine ⟨by show 1 ≤ 8; omega, by omega, fun j hj s hs => ?_, en_mem.2 fun e he => ?_⟩
    · have : j = 0 := by
        have h1 : [sy].length = 1 := rfl
        omega
      subst this
      cases hs
      exact okx.sc _ ltx _ hsx
    · rw [← hr] at he
      obtain ⟨j, j1, j2, j3⟩ := rr_mem _ (Nat.le_refl _) e he
      exact okx.en j j1 e j3
  have zero : cn [sy] r 0 = 0 := by
    have h1 := cn_count (l := [sy]) (d := r) (i := 0) (s := sy) rfl
    rw [h1]
    have : r.countP (ne sy) = 0 := by
      rw [List.countP_eq_zero]
      intro e he hn
      rw [← hr] at he
      obtain ⟨j, j1, j2, j3⟩ := rr_mem _ (Nat.le_refl _) e he
      rw [pp_ne j3, hn] at j2
      cases j2
    rw [this]; rfl
  have hkl1 : kl (cn [sy] r) [sy].length = [(0 : Int)] := by
    show (bif decide (cn [sy] r 0 = 0) then [] ++ [((0 : Nat) : Int)] else []) = _
    rw [decide_eq_true zero]; rfl
  have f37 := ok37 okr
  rw [hkl1] at f37
  rw [k38 (by omega) (by omega), bnd_ret]
  have f37' : sf37 100 [(sy.1, sy.2)] r = some ([(0 : Int)], 0) := f37
  rw [f37', bnd_ret]
  dsimp only
  rw [decide_eq_true (show (0 : Int) = 0 from rfl), cond_true, ck_pos (by unfold rng; omega), decide_eq_true (by omega), cond_true, k42 (by show 1 < 100; omega) (by omega), bnd_ret, cond_true]
end Go.Hx.V

/- The plain machine once more, as closures: what the kernel can reckon fast. This file: the machine. -/
namespace Go.Hx
noncomputable section

/-- Where a run goes on: temporaries, marks, blocks, the next number. -/
abbrev Kt := Tr HV → List Nat → Tr HBlk → Nat → Option (HV × HS)
/-- Where an operation's value goes. -/
abbrev Kv := HV → Tr HBlk → Nat → Option (HV × HS)
/-- Operations: the floor, temporaries, blocks, the next number, and where the value goes. -/
abbrev Ko := Nat → Tr HV → Tr HBlk → Nat → Kv → Option (HV × HS)
/-- Codes: the floor, the round, and where they go: behind, out of a block, out of the function. -/
abbrev Kc := Nat → Option Nat → Kt → (Nat → Kt) → Kt → Kt
/-- Functions. -/
abbrev Kf := Nat → List HV → Tr HBlk → Nat → Kv → Option (HV × HS)

def Pa.tmp (p : Pa) (a : Tr HV) : HV := Option.rec (motive := fun _ => HV) .undef (fun v => v) (Tr.getP p a)
/-- A closure that is made once: the kernel keeps what a closed term comes to. -/
inductive Bx (α : Type) where
  | mk (f : α)
def Bx.run {α : Type} (b : Bx α) : α := Bx.rec (motive := fun _ => α) (fun f => f) b
def Bx.then {α β : Type} (b : Bx α) (g : α → Bx β) : Bx β := Bx.rec (motive := fun _ => Bx β) g b
/-- A road, made once. -/
def Pa.then {β : Type} (p : Pa) (g : Pa → Bx β) : Bx β := Pa.rec (motive := fun _ => Bx β) (g .z) (fun q _ => g (.a q)) (fun q _ => g (.b q)) (fun q _ => g (.c q)) (fun q _ => g (.d q)) p
def evK (x : Lo) : Bx (Tr HV → HV) :=
  match x with
  | .t n => .mk (Pa.tmp (pa n))
  | .c v => .mk (fun _ => v)
def evL (x : Lo) (a : Tr HV) : HV := (evK x).run a
/-- All that is not served by itself. -/
def slowK (lp : Nat → Option LFunc) (nt : Nat) (o : LOp) : Ko := fun fl a h nx k =>
  match opH lp (exec lp 0) fl o ⟨nt, a, []⟩ ⟨h, nx⟩ with
  | some (v, σ) => k v σ.h σ.nx
  | none => none
def callK (fn : Nat → Bx Kf) (ro : Nat → Nat → List HV → Tr HBlk → Nat → Kv → Option (HV × HS)) (f : Tr HV → HV) (xs : List Lo) : Ko := fun fl a h nx k =>
  match f a with
  | .func g first captured => (fn g).run fl (first ++ xs.map (fun x => evL x a) ++ captured) h nx k
  | .yield l => ro fl l (xs.map fun x => evL x a) h nx k
  | _ => none
def binK (g : IntKind → Int → Int → Option HV) (x y : HV) (h : Tr HBlk) (nx : Nat) (k : Kv) : Option (HV × HS) :=
  match x, y with
  | .int k1 m, .int k2 n => bif sameK k1 k2 then (match g k1 m n with | some v => k v h nx | none => none) else none
  | _, _ => none
def addrK (off : Nat) (x : HV) (h : Tr HBlk) (nx : Nat) (k : Kv) : Option (HV × HS) :=
  match x with
  | .ptr (some (b, o)) => k (.ptr (some (b, Nat.add o off))) h nx
  | _ => none
def idxK (len size : Nat) (x i : HV) (h : Tr HBlk) (nx : Nat) (k : Kv) : Option (HV × HS) :=
  match x, i with
  | .ptr (some (b, o)), .int _ (.ofNat i) => bif Nat.blt i len then k (.ptr (some (b, Nat.add o (Nat.mul i size)))) h nx else none
  | _, _ => none
def nilK (x : HV) (h : Tr HBlk) (nx : Nat) (k : Kv) : Option (HV × HS) :=
  match x with
  | .ptr (some p) => k (.ptr (some p)) h nx
  | .func f first captured => k (.func f first captured) h nx
  | _ => none
def nthK (i : Nat) : List HV → Option HV :=
  Nat.rec (motive := fun _ => List HV → Option HV) (fun l => List.rec (motive := fun _ => Option HV) none (fun v _ _ => some v) l) (fun _ ih l => List.rec (motive := fun _ => Option HV) none (fun _ t _ => ih t) l) i
def setR (i : Nat) (v : HV) : List HV → List HV :=
  Nat.rec (motive := fun _ => List HV → List HV) (fun l => List.rec (motive := fun _ => List HV) [] (fun _ t _ => v :: t) l) (fun _ ih l => List.rec (motive := fun _ => List HV) [] (fun x t _ => x :: ih t) l) i
def loadK (x : HV) (h : Tr HBlk) (nx : Nat) (k : Kv) : Option (HV × HS) :=
  match x with
  | .ptr (some (b, o)) =>
    match h.get b with
    | some (.cells cs _) =>
      match nthK o cs with
      | some v => k v h nx
      | none => none
    | _ => none
  | _ => none
def wrOk : BK → Bool
  | .ro => false
  | _ => true
def storeK (fl : Nat) (x v : HV) (h : Tr HBlk) (nx : Nat) (k : Kv) : Option (HV × HS) :=
  match x with
  | .ptr (some (b, o)) =>
    match h.get b with
    | some (.cells cs bk) =>
      bif Nat.ble fl b && v.one && wrOk bk then
        match nthK o cs with
        | some _ => k .undef (h.set b (some (.cells (setR o v cs) bk))) nx
        | none => none
      else none
    | _ => none
  | _ => none
def compOp (lp : Nat → Option LFunc) (fn : Nat → Bx Kf) (ro : Nat → Nat → List HV → Tr HBlk → Nat → Kv → Option (HV × HS)) (nt : Nat) (o : LOp) : Bx Ko :=
  match o with
  | .move x => (evK x).then fun e => .mk fun _ a h nx k => k (e a) h nx
  | .bin op x y => (evK x).then fun e => (evK y).then fun f => .mk fun _ a h nx k => binK (bif isShift op then shiftH op else intFast op) (e a) (f a) h nx k
  | .fieldAddr off x => (evK x).then fun e => .mk fun _ a h nx k => addrK off (e a) h nx k
  | .indexAddrA len size x i => (evK x).then fun e => (evK i).then fun f => .mk fun _ a h nx k => idxK len size (e a) (f a) h nx k
  | .nilCheck x => (evK x).then fun e => .mk fun _ a h nx k => nilK (e a) h nx k
  | .load false 1 x => (evK x).then fun e => .mk fun _ a h nx k => loadK (e a) h nx k
  | .store 1 x v => (evK x).then fun e => (evK v).then fun f => .mk fun fl a h nx k => bif (f a).one then storeK fl (e a) (f a) h nx k else slowK lp nt (.store 1 x v) fl a h nx k
  | .call f xs => (evK f).then fun e => .mk (callK fn ro e xs)
  | o => .mk (slowK lp nt o)
def putK (nt : Nat) (dst : Option Nat) : Bx (Tr HV → HV → Tr HV) :=
  match dst with
  | none => .mk fun a _ => a
  | some d => bif Nat.blt d nt then (pa d).then fun p => .mk (fun a v => Tr.setP (some v) p a) else .mk fun a _ => a
def isB (want : Bool) : HV → Bool
  | .bool b => b == want
  | _ => false
def guardK (g : Option (Nat × Bool)) (o : Bx Ko) : Bx Ko :=
  match g with
  | none => o
  | some (t, want) => (evK (.t t)).then fun e => o.then fun o => .mk fun fl a h nx k =>
      bif isB want (e a) then o fl a h nx k else k .undef h nx
def compOps (op : LOp → Bx Ko) (nt : Nat) : List LOper → Bx (Nat → Kt → Kt)
  | [] => .mk fun _ k => k
  | o :: os => (guardK o.g (op o.op)).then fun f => (putK nt o.dst).then fun p => (compOps op nt os).then fun r => .mk fun fl k a ds h nx => f fl a h nx fun v h nx => r fl k (p a v) ds h nx
def drawK (op : LOp → Bx Ko) (nt s : Nat) : List LOper → Bx (Nat → Nat → Nat → Tr HBlk → List (Nat × List (Nat × HBlk)) → Kt → Tr HV → List Nat → Nat → Option (HV × HS))
  | [] => .mk fun _ _ _ h0 done k a ds nx => k a ds (merge h0 none done) nx
  | o :: os => (guardK o.g (op o.op)).then fun f => (putK nt o.dst).then fun p => (drawK op nt s os).then fun r => (compOps op nt (o :: os)).then fun q => .mk fun fl n0 i h0 done k a ds nx =>
      bif Nat.blt i s then
        bif o.anc.contains i then
          f n0 a (merge h0 (some o.anc) done) nx fun v h nx' => bif Nat.ble nx nx' then r fl n0 (Nat.succ i) h0 ((i, newFrom h n0 (Nat.sub nx' n0)) :: dropAll o.anc done) k (p a v) ds nx' else none
        else
          f nx a (merge h0 (some o.anc) done) nx fun v h nx' => bif Nat.ble nx nx' then r fl n0 (Nat.succ i) h0 (bif Nat.beq nx nx' then done else (i, newFrom h nx (Nat.sub nx' nx)) :: done) k (p a v) ds nx' else none
      else q fl k a ds (merge h0 none done) nx
/-- The loop's record, by its parts. -/
def loopK (b : Option HBlk) (k : LState → HExit → Nat → Tr HV → List Nat → LCode → LCode → Nat → Option (HV × HS)) : Option (HV × HS) :=
  match b with
  | some (.loop ⟨st, pe, nt, tm, ps, asg, bo, mk⟩) => k st pe nt tm ps asg bo mk
  | _ => none
def marksK (rd : Option Nat) (h : Tr HBlk) (nx : Nat) (k : Nat → List Nat → Tr HBlk → Nat → Option (HV × HS)) : Option (HV × HS) :=
  match rd with
  | none => k nx [nx] (h.set nx (some .marks)) (Nat.succ nx)
  | some l => loopK (h.get l) fun _ _ _ _ _ _ _ mk => k mk [] h nx
def notBusy : LState → Bool
  | .busy => false
  | _ => true
def isReady : LState → Bool
  | .ready => true
  | _ => false
def jumpK (e : HExit) (kn : Kt) (kx : Nat → Kt) (kr : Kt) : Kt :=
  match e with
  | .normal => kn
  | .exit i => kx i
  | .ret => kr
def rangeK (fn : Nat → Bx Kf) (nt : Nat) (e : Tr HV → HV) (ps : List Nat) (assign body : LCode) : Kc := fun fl rd kn kx kr a ds h nx =>
  match e a with
  | .func g first captured =>
    marksK rd h nx fun mk ms h1 n1 =>
      (fn g).run fl (first ++ [.yield n1] ++ captured) (h1.set n1 (some (.loop ⟨.ready, .normal, nt, a, ps, assign, body, mk⟩))) (Nat.succ n1) fun _ h3 n3 =>
        loopK (h3.get n1) fun st pe nt' tm ps' asg bo mk' =>
          bif notBusy st && Nat.ble fl n1 then jumpK pe kn kx kr a (ms ++ ds) (h3.set n1 (some (.loop ⟨.exhausted, pe, nt', tm, ps', asg, bo, mk'⟩))) n3 else none
  | _ => none
def endK (l : Nat) (e : HExit) (k : Kv) (h : Tr HBlk) (nx : Nat) : Option (HV × HS) :=
  loopK (h.get l) fun _ _ nt tm ps asg bo mk =>
    match e with
    | .normal => k (.bool true) (h.set l (some (.loop ⟨.ready, .normal, nt, tm, ps, asg, bo, mk⟩))) nx
    | e => k (.bool false) (h.set l (some (.loop ⟨.done, e, nt, tm, ps, asg, bo, mk⟩))) nx
def roundK (co : Nat → LCode → Bx Kc) : Nat → Nat → List HV → Tr HBlk → Nat → Kv → Option (HV × HS) := fun fl l args h nx k =>
  loopK (h.get l) fun _ _ nt tm ps asg bo _ =>
    match zipPut nt tm ps args with
    | some tm1 =>
      (co nt asg).run fl (some l)
        (fun a1 ds1 h1 n1 => loopK (h1.get l) fun st pe nt' tm' ps' asg' bo' mk' =>
          bif isReady st && Nat.ble fl l then
            (co nt bo).run fl (some l) (fun _ _ => endK l .normal k) (fun i _ _ => endK l (.exit i) k) (fun _ _ => endK l .ret k) a1 ds1 (h1.set l (some (.loop ⟨.busy, pe, nt', tm', ps', asg', bo', mk'⟩))) n1
          else none)
        (fun _ _ _ _ _ => none) (fun _ _ _ _ => none) tm1 [] h nx
    | none => none
def comp (op : LOp → Bx Ko) (fn : Nat → Bx Kf) (nt : Nat) : LCode → Bx Kc
  | .skip => .mk fun _ _ kn _ _ => kn
  | .seq x y => (comp op fn nt x).then fun f => (comp op fn nt y).then fun g => .mk fun fl rd kn kx kr => f fl rd (g fl rd kn kx kr) kx kr
  | .cond c x y => (evK c).then fun e => (comp op fn nt x).then fun f => (comp op fn nt y).then fun g => .mk fun fl rd kn kx kr a ds h nx =>
      match e a with
      | .bool b => bif b then f fl rd kn kx kr a ds h nx else g fl rd kn kx kr a ds h nx
      | _ => none
  | .block id x => (comp op fn nt x).then fun f => .mk fun fl rd kn kx kr => f fl rd kn (fun i => bif Nat.beq i id then kn else kx i) kr
  | .loop x => (comp op fn nt x).then fun f => .mk fun fl rd _ kx kr => Nat.rec (motive := fun _ => Kt) (fun _ _ _ _ => none) (fun _ ih => f fl rd ih kx kr) 1000000
  | .scope x => comp op fn nt x
  | .exit id => .mk fun _ _ _ kx _ => kx id
  | .ret => .mk fun _ _ _ _ kr => kr
  | .reg ops => (compOps op nt ops).then fun f => .mk fun fl _ kn _ _ => f fl kn
  | .draw s ops => (drawK op nt s ops).then fun f => .mk fun fl _ kn _ _ a ds h nx => bif Nat.ble fl nx then f fl nx 0 h [] kn a ds nx else none
  | .rangeFunc f ps assign body => (evK f).then fun e => .mk (rangeK fn nt e ps assign body)
  | .bad => .mk fun _ _ _ _ _ _ _ _ _ => none
def leaveK (fl : Nat) (nt : Nat) (res : List LRes) (k : Kv) : Kt := fun a ds h nx =>
  match leaveH fl ⟨nt, a, ds⟩ res ⟨h, nx⟩ with
  | some (v, σ) => k v σ.h σ.nx
  | none => none
abbrev Kr := Nat → Nat → List HV → Tr HBlk → Nat → Kv → Option (HV × HS)
/-- Behind a call that wrote nothing of its caller's. -/
def gcK (h : Tr HBlk) (nx : Nat) (k : Kv) : Kv := fun v h' nx' => k v (keepD h' nx 5 [v] h) nx'
def specK (g : List HV → HS → Option (HV × HS)) : Kf := fun _ args h nx k =>
  match g args ⟨h, nx⟩ with
  | some (v, σ) => bif Nat.ble nx σ.nx then k v σ.h σ.nx else none
  | none => none
def enterK (lf : LFunc) (body : Kc) : Bx Kf :=
  bif lf.imp then .mk fun fl args h nx k => bif Nat.ble args.length lf.nt then body fl none (leaveK fl lf.nt lf.res k) (fun _ _ _ _ _ => none) (leaveK fl lf.nt lf.res k) (putAll .e 0 args) [] h nx else none
  else .mk fun _ args h nx k => bif Nat.ble args.length lf.nt then body nx none (leaveK nx lf.nt lf.res (gcK h nx k)) (fun _ _ _ _ _ => none) (leaveK nx lf.nt lf.res (gcK h nx k)) (putAll .e 0 args) [] h nx else none
/-- Functions and rounds, so deep. -/
def bothK (lp : Nat → Option LFunc) : Nat → (Nat → Bx Kf) × Kr
  | 0 => (fun _ => .mk fun _ _ _ _ _ => none, fun _ _ _ _ _ _ => none)
  | n + 1 =>
    (fun f =>
      match lp f with
      | none => .mk fun _ _ _ _ _ => none
      | some lf =>
        match lf.spec with
        | some g => .mk (specK g)
        | none => (comp (compOp lp (bothK lp n).1 (bothK lp n).2 lf.nt) (bothK lp n).1 lf.nt lf.body).then (enterK lf),
     roundK fun nt c => comp (compOp lp (bothK lp n).1 (bothK lp n).2 nt) (bothK lp n).1 nt c)
def fnK (lp : Nat → Option LFunc) (n : Nat) : Nat → Bx Kf := (bothK lp n).1
end
end Go.Hx

/- The plain machine as closures: where it comes to something, the plain machine comes to the same. -/
namespace Go.Hx
variable {lp : Nat → Option LFunc} {nt : Nat}

theorem run_mk {α : Type} (f : α) : (Bx.mk f).run = f := rfl
theorem then_eq {α β : Type} (b : Bx α) (g : α → Bx β) : b.then g = g b.run := by cases b; rfl
theorem pa_then {β : Type} (p : Pa) (g : Pa → Bx β) : p.then g = g p := by cases p <;> rfl
theorem tmp_eq (a : Tr HV) (ds : List Nat) (n : Nat) : (pa n).tmp a = (⟨nt, a, ds⟩ : HAct).tmp n := by
  show Option.rec (motive := fun _ => HV) HV.undef (fun v => v) (a.get n) = (a.get n).getD .undef
  cases a.get n <;> rfl
theorem ev_eq (x : Lo) (a : Tr HV) (ds : List Nat) : (evK x).run a = (⟨nt, a, ds⟩ : HAct).ev x := by
  cases x with
  | t n => exact tmp_eq a ds n
  | c v => rfl
theorem evs_eq (xs : List Lo) (a : Tr HV) (ds : List Nat) : (xs.map fun x => evL x a) = xs.map (⟨nt, a, ds⟩ : HAct).ev := by
  apply List.map_congr_left
  intro x _
  exact ev_eq x a ds

def KoOk (lp : Nat → Option LFunc) (nt : Nat) (G : Ko) (o : LOp) : Prop := ∀ fl a ds h nx (k : Kv) r, G fl a h nx k = some r → ∃ n v σ', opH lp (exec lp n) fl o ⟨nt, a, ds⟩ ⟨h, nx⟩ = some (v, σ') ∧ k v σ'.h σ'.nx = some r
def KosOk (lp : Nat → Option LFunc) (nt : Nat) (G : Nat → Kt → Kt) (os : List LOper) : Prop := ∀ fl (k : Kt) a ds h nx r, G fl k a ds h nx = some r → ∃ n a' σ', runOps lp (exec lp n) fl os ⟨nt, a, ds⟩ ⟨h, nx⟩ = some (a', σ') ∧ a'.nt = nt ∧ k a'.tmps a'.defers σ'.h σ'.nx = some r
def contK (e : HExit) (kn : Kt) (kx : Nat → Kt) (kr : Kt) (a : HAct) (σ : HS) : Option (HV × HS) :=
  match e with
  | .normal => kn a.tmps a.defers σ.h σ.nx
  | .exit i => kx i a.tmps a.defers σ.h σ.nx
  | .ret => kr a.tmps a.defers σ.h σ.nx
def KcOk (lp : Nat → Option LFunc) (nt : Nat) (F : Kc) (c : LCode) : Prop := ∀ fl rd kn kx kr a ds h nx r, F fl rd kn kx kr a ds h nx = some r → ∃ n e a' σ', exec lp n fl rd c ⟨nt, a, ds⟩ ⟨h, nx⟩ = some (e, a', σ') ∧ a'.nt = nt ∧ contK e kn kx kr a' σ' = some r
def KfOk (lp : Nat → Option LFunc) (F : Kf) (f : Nat) : Prop := ∀ fl args h nx (k : Kv) r, F fl args h nx k = some r → ∃ n v σ', callF lp (exec lp n) fl f args ⟨h, nx⟩ = some (v, σ') ∧ k v σ'.h σ'.nx = some r

def KrOk (lp : Nat → Option LFunc) (ro : Kr) : Prop := ∀ fl l args h nx (k : Kv) r, ro fl l args h nx k = some r → ∃ n v σ', roundH (exec lp n) fl l args ⟨h, nx⟩ = some (v, σ') ∧ k v σ'.h σ'.nx = some r
theorem slow_ok (o : LOp) : KoOk lp nt (slowK lp nt o) o := by
  intro fl a ds h nx k r hr
  unfold slowK at hr
  rw [op_congr (a := ⟨nt, a, []⟩) (b := ⟨nt, a, ds⟩) ⟨h, nx⟩ (fun _ _ => rfl)] at hr
  split at hr
  · rename_i v σ' ho; exact ⟨0, v, σ', ho, hr⟩
  · cases hr
theorem call_ok {fn : Nat → Bx Kf} {ro : Kr} (hfn : ∀ f, KfOk lp (fn f).run f) (hro : KrOk lp ro) (f : Lo) (xs : List Lo) : KoOk lp nt (callK fn ro (evK f).run xs) (.call f xs) := by
  intro fl a ds h nx k r hr
  unfold callK at hr
  rw [ev_eq (nt := nt) f a ds, evs_eq (nt := nt) xs a ds] at hr
  split at hr
  · rename_i g first captured hf
    obtain ⟨n, v, σ', h1, h2⟩ := hfn g _ _ _ _ _ _ hr
    refine ⟨n, v, σ', ?_, h2⟩
    show callH lp _ fl _ _ _ = _
    unfold callH
    rw [hf]
    exact h1
  · rename_i l hf
    obtain ⟨n, v, σ', h1, h2⟩ := hro _ _ _ _ _ _ _ hr
    refine ⟨n, v, σ', ?_, h2⟩
    show callH lp _ fl _ _ _ = _
    unfold callH
    rw [hf]
    exact h1
  · cases hr
theorem nth_eq : ∀ (i : Nat) (l : List HV), nthK i l = l[i]?
  | 0, [] => rfl
  | 0, v :: l => rfl
  | i + 1, [] => rfl
  | i + 1, v :: l => (nth_eq i l).trans (by simp)
theorem set_eq (v : HV) : ∀ (i : Nat) (l : List HV), i < l.length → overwrite l i [v] = some (setR i v l)
  | _, [], h => by simp at h
  | 0, x :: l, _ => by cases l <;> rfl
  | i + 1, x :: l, h => by
    unfold overwrite
    rw [set_eq v i l (by simpa using h)]
    rfl
theorem op_ok {fn : Nat → Bx Kf} {ro : Kr} (hfn : ∀ f, KfOk lp (fn f).run f) (hro : KrOk lp ro) (o : LOp) : KoOk lp nt (compOp lp fn ro nt o).run o := by
  have slow := slow_ok (lp := lp) (nt := nt) o
  unfold compOp
  split
  case h_1 x =>
    rw [then_eq, run_mk]
    intro fl a ds h nx k r hr
    dsimp only at hr
    rw [ev_eq (nt := nt) x a ds] at hr
    exact ⟨0, _, ⟨h, nx⟩, rfl, hr⟩
  case h_2 op x y =>
    rw [then_eq, then_eq, run_mk]
    intro fl a ds h nx k r hr
    dsimp only at hr
    rw [ev_eq (nt := nt) x a ds, ev_eq (nt := nt) y a ds] at hr
    unfold binK at hr
    split at hr
    · rename_i k1 m k2 n e1 e2
      cases hk : sameK k1 k2 with
      | false => rw [hk] at hr; cases hr
      | true =>
        rw [hk] at hr
        simp only [cond_true] at hr
        split at hr
        · rename_i v e3
          refine ⟨0, v, ⟨h, nx⟩, ?_, hr⟩
          show keep _ (binH op _ _) = _
          rw [e1, e2]
          unfold binH
          dsimp only
          cases hsh : isShift op with
          | true => rw [hsh] at e3; simp only [cond_true] at e3 ⊢; rw [e3]; rfl
          | false => rw [hsh] at e3; simp only [cond_false] at e3 ⊢; rw [hk, e3]; rfl
        · cases hr
    · cases hr
  case h_3 off x =>
    rw [then_eq, run_mk]
    intro fl a ds h nx k r hr
    dsimp only at hr
    rw [ev_eq (nt := nt) x a ds] at hr
    unfold addrK at hr
    split at hr
    · rename_i b o e1
      refine ⟨0, _, ⟨h, nx⟩, ?_, hr⟩
      show oFieldAddr off x _ _ = _
      unfold oFieldAddr
      rw [e1]
    · cases hr
  case h_4 len size x i =>
    rw [then_eq, then_eq, run_mk]
    intro fl a ds h nx k r hr
    dsimp only at hr
    rw [ev_eq (nt := nt) x a ds, ev_eq (nt := nt) i a ds] at hr
    unfold idxK at hr
    split at hr
    · rename_i b o kk j e1 e2
      cases hb : Nat.blt j len with
      | false => rw [hb] at hr; cases hr
      | true =>
        rw [hb] at hr
        refine ⟨0, _, ⟨h, nx⟩, ?_, hr⟩
        show oIndexAddrA len size x i _ _ = _
        unfold oIndexAddrA
        rw [e1, e2]
        simp only [natOf, stepTo, hb, cond_true]
    · cases hr
  case h_5 x =>
    rw [then_eq, run_mk]
    intro fl a ds h nx k r hr
    dsimp only at hr
    rw [ev_eq (nt := nt) x a ds] at hr
    unfold nilK at hr
    split at hr
    · rename_i p e1
      refine ⟨0, _, ⟨h, nx⟩, ?_, hr⟩
      show oNilCheck x _ _ = _
      unfold oNilCheck
      rw [e1]
    · rename_i f first captured e1
      refine ⟨0, _, ⟨h, nx⟩, ?_, hr⟩
      show oNilCheck x _ _ = _
      unfold oNilCheck
      rw [e1]
    · cases hr
  case h_6 x =>
    rw [then_eq, run_mk]
    intro fl a ds h nx k r hr
    dsimp only at hr
    rw [ev_eq (nt := nt) x a ds] at hr
    unfold loadK at hr
    split at hr
    · rename_i b o e1
      split at hr
      · rename_i cs bk e2
        rw [nth_eq] at hr
        split at hr
        · rename_i v e3
          refine ⟨0, v, ⟨h, nx⟩, ?_, hr⟩
          show oLoad false 1 x _ _ = _
          unfold oLoad
          rw [e1]
          have hc : (⟨h, nx⟩ : HS).cells b = some cs := by unfold HS.cells; rw [e2]
          have hr2 : (⟨h, nx⟩ : HS).read (b, o) 1 = some [v] := by
            unfold HS.read
            simp only [hc, Option.bind_eq_bind, Option.bind_some]
            have hlt : o < cs.length := by
              rcases Nat.lt_or_ge o cs.length with h | h
              · exact h
              · rw [List.getElem?_eq_none h] at e3; cases e3
            rw [List.drop_eq_getElem_cons hlt]
            rw [List.getElem?_eq_getElem hlt] at e3
            cases e3
            simp [takeN]
          simp only [hr2, whole, keep]
        · cases hr
      · cases hr
    · cases hr
  case h_7 x y =>
    rw [then_eq, then_eq, run_mk]
    intro fl a ds h nx k r hr
    dsimp only at hr
    rw [ev_eq (nt := nt) x a ds, ev_eq (nt := nt) y a ds] at hr
    revert hr
    cases h1 : ((⟨nt, a, ds⟩ : HAct).ev y).one with
    | false => exact fun hr => slow fl a ds h nx k r hr
    | true =>
    intro hr
    simp only [cond_true] at hr
    unfold storeK at hr
    split at hr
    · rename_i b o e1
      split at hr
      · rename_i cs bk e2
        revert hr
        cases hc : (Nat.ble fl b && ((⟨nt, a, ds⟩ : HAct).ev y).one && wrOk bk) with
        | false => intro hr; cases hr
        | true =>
          intro hr
          simp only [cond_true] at hr
          simp only [Bool.and_eq_true] at hc
          obtain ⟨⟨c1, c2⟩, c3⟩ := hc
          rw [nth_eq] at hr
          split at hr
          · rename_i u e3
            have hlt : o < cs.length := by
              rcases Nat.lt_or_ge o cs.length with h | h
              · exact h
              · rw [List.getElem?_eq_none h] at e3; cases e3
            refine ⟨0, .undef, ⟨h.set b (some (.cells (setR o ((⟨nt, a, ds⟩ : HAct).ev y) cs) bk)), nx⟩, ?_, hr⟩
            have hcells : ((⟨nt, a, ds⟩ : HAct).ev y).cells = [(⟨nt, a, ds⟩ : HAct).ev y] := by
              generalize (⟨nt, a, ds⟩ : HAct).ev y = v at c2
              cases v <;> first | rfl | cases c2
            show oStore fl 1 x y _ _ = _
            unfold oStore
            rw [e1, hcells]
            have hw : (⟨h, nx⟩ : HS).write fl (b, o) [(⟨nt, a, ds⟩ : HAct).ev y] = some ⟨h.set b (some (.cells (setR o ((⟨nt, a, ds⟩ : HAct).ev y) cs) bk)), nx⟩ := by
              unfold HS.write
              simp only [e2]
              cases bk with
              | ro => cases c3
              | exact => simp only [c1, List.all_cons, c2, List.all_nil, Bool.and_true, cond_true, set_eq _ _ _ hlt, Option.map_some]; rfl
              | opn z => simp only [c1, List.all_cons, c2, List.all_nil, Bool.and_true, cond_true, set_eq _ _ _ hlt, Option.map_some]; rfl
            simp only [hw]
            rfl
          · cases hr
      · cases hr
    · cases hr
  case h_8 f xs =>
    rw [then_eq, run_mk]
    exact call_ok hfn hro f xs
  case h_9 => exact slow
theorem guard_k {G : Bx Ko} {o : LOper} (h : KoOk lp nt G.run o.op) : ∀ fl a ds hp nx (k : Kv) r, (guardK o.g G).run fl a hp nx k = some r →
    ∃ n v σ', (bif wantedH o.g ⟨nt, a, ds⟩ then opH lp (exec lp n) fl o.op ⟨nt, a, ds⟩ ⟨hp, nx⟩ else some (.undef, ⟨hp, nx⟩)) = some (v, σ') ∧ k v σ'.h σ'.nx = some r := by
  intro fl a ds hp nx k r hr
  unfold guardK at hr
  split at hr
  · rename_i hg
    obtain ⟨n, v, σ', h1, h2⟩ := h fl a ds hp nx k r hr
    refine ⟨n, v, σ', ?_, h2⟩
    rw [hg]
    exact h1
  · rename_i t want hg
    rw [then_eq, then_eq, run_mk] at hr
    rw [ev_eq (nt := nt) (.t t) a ds] at hr
    have hw : wantedH o.g ⟨nt, a, ds⟩ = isB want ((⟨nt, a, ds⟩ : HAct).ev (.t t)) := by
      rw [hg]
      unfold wantedH isB
      dsimp only [HAct.ev]
      generalize (⟨nt, a, ds⟩ : HAct).tmp t = x
      cases x <;> rfl
    rw [hw]
    cases hb : isB want ((⟨nt, a, ds⟩ : HAct).ev (.t t)) with
    | true =>
      rw [hb] at hr
      exact h fl a ds hp nx k r hr
    | false =>
      rw [hb] at hr
      exact ⟨0, .undef, ⟨hp, nx⟩, rfl, hr⟩
theorem put_k (dst : Option Nat) (a : Tr HV) (ds : List Nat) (v : HV) : (⟨nt, a, ds⟩ : HAct).put dst v = ⟨nt, (putK nt dst).run a v, ds⟩ := by
  unfold HAct.put putK
  cases dst with
  | none => rfl
  | some d =>
    dsimp only
    cases Nat.blt d nt with
    | false => rfl
    | true => rw [cond_true, cond_true, pa_then]; rfl
theorem step_k {G : Bx Ko} {o : LOper} (h : KoOk lp nt G.run o.op) : ∀ fl a ds hp nx (k : Kv) r, (guardK o.g G).run fl a hp nx k = some r →
    ∃ n v σ', stepOp lp (exec lp n) fl o ⟨nt, a, ds⟩ ⟨hp, nx⟩ = some (⟨nt, (putK nt o.dst).run a v, ds⟩, σ') ∧ k v σ'.h σ'.nx = some r := by
  intro fl a ds hp nx k r hr
  obtain ⟨n, v, σ', h1, h2⟩ := guard_k h fl a ds hp nx k r hr
  refine ⟨n, v, σ', ?_, h2⟩
  unfold stepOp
  cases hw : wantedH o.g ⟨nt, a, ds⟩ with
  | true => rw [hw] at h1; simp only [cond_true] at h1 ⊢; rw [h1]; simp only [put_k]
  | false =>
    rw [hw] at h1
    cases h1
    simp only [cond_false, put_k]
theorem ops_k {op : LOp → Bx Ko} (hop : ∀ o, KoOk lp nt (op o).run o) : ∀ os, KosOk lp nt (compOps op nt os).run os
  | [] => fun fl k a ds h nx r hr => ⟨0, _, _, rfl, rfl, hr⟩
  | o :: os => by
    intro fl k a ds h nx r hr
    unfold compOps at hr
    rw [then_eq, then_eq, then_eq, run_mk] at hr
    obtain ⟨n, v, σ1, h1, h2⟩ := step_k (hop o.op) fl a ds h nx _ r hr
    obtain ⟨m, a', σ', h3, h4, h5⟩ := ops_k hop os fl k _ ds _ _ r h2
    refine ⟨max n m, a', σ', ?_, h4, h5⟩
    unfold runOps
    rw [stepOp_mon (exec_mon (Nat.le_max_left n m)) h1]
    exact runOps_mon (exec_mon (Nat.le_max_right n m)) h3
theorem draw_k {op : LOp → Bx Ko} (hop : ∀ o, KoOk lp nt (op o).run o) {s : Nat} : ∀ os fl n0 i h0 done (k : Kt) a ds nx r, fl ≤ n0 → n0 ≤ nx → (drawK op nt s os).run fl n0 i h0 done k a ds nx = some r →
    ∃ n a' σ', drawOps lp (exec lp n) fl s n0 h0 os i done ⟨nt, a, ds⟩ nx = some (a', σ') ∧ a'.nt = nt ∧ k a'.tmps a'.defers σ'.h σ'.nx = some r
  | [], fl, n0, i, h0, done, k, a, ds, nx, r, _, _, hr => ⟨0, _, _, rfl, rfl, hr⟩
  | o :: os, fl, n0, i, h0, done, k, a, ds, nx, r, hfl, hn0, hr => by
    unfold drawK at hr
    rw [then_eq, then_eq, then_eq, then_eq, run_mk] at hr
    cases hc : Nat.blt i s with
    | false =>
      rw [hc] at hr
      obtain ⟨n, a', σ', h1, h2, h3⟩ := ops_k hop (o :: os) fl k a ds _ nx r hr
      refine ⟨n, a', σ', ?_, h2, h3⟩
      unfold drawOps
      rw [hc]
      exact h1
    | true =>
      rw [hc] at hr
      simp only [cond_true] at hr
      cases hw : o.anc.contains i with
      | true =>
        rw [hw] at hr
        simp only [cond_true] at hr
        obtain ⟨n, v, σ1, h1, h2⟩ := step_k (hop o.op) n0 a ds _ nx _ r hr
        revert h2
        cases hb : Nat.ble nx σ1.nx with
        | false => intro h2; cases h2
        | true =>
          intro h2
          simp only [cond_true] at h2
          have hle := Nat.le_of_ble_eq_true hb
          obtain ⟨m, a', σ', h3, h4, h5⟩ := draw_k hop os fl n0 (Nat.succ i) h0 _ k _ ds _ r hfl (Nat.le_trans hn0 hle) h2
          refine ⟨max n m, a', σ', ?_, h4, h5⟩
          have hmx : Nat.max fl n0 = n0 := Nat.max_eq_right hfl
          unfold drawOps
          rw [hc, hw]
          simp only [cond_true, hmx]
          rw [stepOp_mon (exec_mon (Nat.le_max_left n m)) h1]
          simp only [hb, Bool.not_true, cond_false]
          exact drawOps_mon (exec_mon (Nat.le_max_right n m)) h3
      | false =>
        rw [hw] at hr
        simp only [cond_false] at hr
        obtain ⟨n, v, σ1, h1, h2⟩ := step_k (hop o.op) nx a ds _ nx _ r hr
        revert h2
        cases hb : Nat.ble nx σ1.nx with
        | false => intro h2; cases h2
        | true =>
          intro h2
          simp only [cond_true] at h2
          have hle := Nat.le_of_ble_eq_true hb
          obtain ⟨m, a', σ', h3, h4, h5⟩ := draw_k hop os fl n0 (Nat.succ i) h0 _ k _ ds _ r hfl (Nat.le_trans hn0 hle) h2
          refine ⟨max n m, a', σ', ?_, h4, h5⟩
          have hmx : Nat.max fl nx = nx := Nat.max_eq_right (by omega)
          unfold drawOps
          rw [hc, hw]
          simp only [cond_true, cond_false, hmx]
          rw [stepOp_mon (exec_mon (Nat.le_max_left n m)) h1]
          simp only [hb, Bool.not_true, cond_false]
          exact drawOps_mon (exec_mon (Nat.le_max_right n m)) h3
theorem seq_run {n : Nat} {fl : Nat} {rd : Option Nat} {x y : LCode} {a a1 : HAct} {σ σ1 : HS} {q : HExit × HAct × HS} {m : Nat} (h1 : exec lp n fl rd x a σ = some (.normal, a1, σ1)) (h2 : exec lp m fl rd y a1 σ1 = some q) : xSeq (exec lp (max n m)) fl rd x y a σ = some q := by
  unfold xSeq
  rw [exec_mon (Nat.le_max_left n m) _ _ _ _ _ _ h1]
  exact exec_mon (Nat.le_max_right n m) _ _ _ _ _ _ h2
theorem loop_k {b : Option HBlk} {k : LState → HExit → Nat → Tr HV → List Nat → LCode → LCode → Nat → Option (HV × HS)} {r : HV × HS} (hr : loopK b k = some r) : ∃ q : HLoop, b = some (.loop q) ∧ k q.state q.pending q.nt q.tmps q.params q.assign q.body q.marks = some r := by
  unfold loopK at hr
  split at hr
  · exact ⟨_, rfl, hr⟩
  · cases hr
theorem marks_k {rd : Option Nat} {h : Tr HBlk} {nx : Nat} {k : Nat → List Nat → Tr HBlk → Nat → Option (HV × HS)} {r : HV × HS} (hr : marksK rd h nx k = some r) : ∃ mk ms h1 n1, marksOf rd ⟨h, nx⟩ = some (mk, ms, ⟨h1, n1⟩) ∧ k mk ms h1 n1 = some r := by
  unfold marksK at hr
  cases rd with
  | none => exact ⟨_, _, _, _, rfl, hr⟩
  | some l =>
    obtain ⟨q, hq, hk⟩ := loop_k hr
    refine ⟨_, _, _, _, ?_, hk⟩
    unfold marksOf
    simp only [hq]
theorem jump_k (e : HExit) (kn : Kt) (kx : Nat → Kt) (kr : Kt) (a : HAct) (σ : HS) : jumpK e kn kx kr a.tmps a.defers σ.h σ.nx = contK e kn kx kr a σ := by cases e <;> rfl
theorem range_k {fn : Nat → Bx Kf} (hfn : ∀ f, KfOk lp (fn f).run f) (f : Lo) (ps : List Nat) (assign body : LCode) : KcOk lp nt (rangeK fn nt (evK f).run ps assign body) (.rangeFunc f ps assign body) := by
  intro fl rd kn kx kr a ds h nx r hr
  unfold rangeK at hr
  rw [ev_eq (nt := nt) f a ds] at hr
  split at hr
  · rename_i g first captured hf
    obtain ⟨mk, ms, h1, n1, hm, hr⟩ := marks_k hr
    obtain ⟨n, v, σ3, hc, hr⟩ := hfn g _ _ _ _ _ _ hr
    obtain ⟨q, hq, hr⟩ := loop_k hr
    revert hr
    cases hb : (notBusy q.state && Nat.ble fl n1) with
    | false => intro hr; cases hr
    | true =>
      intro hr
      simp only [cond_true] at hr
      simp only [Bool.and_eq_true] at hb
      refine ⟨n + 1, q.pending, ⟨nt, a, ms ++ ds⟩, σ3.upd n1 (some (.loop { q with state := .exhausted })), ?_, rfl, ?_⟩
      · show xRange lp (exec lp n) fl rd f ps assign body _ _ = _
        unfold xRange
        rw [hf, hm]
        dsimp only
        have hc' : callF lp (exec lp n) fl g (first ++ [.yield n1] ++ captured) ((⟨h1, n1⟩ : HS).new (.loop ⟨.ready, .normal, nt, a, ps, assign, body, mk⟩)) = some (v, σ3) := hc
        rw [hc']
        dsimp only
        unfold endLoopH
        rw [hq]
        dsimp only
        have hnb := hb.1
        cases hst : q.state <;> rw [hst] at hnb <;> first | (exact absurd hnb (by decide)) | (dsimp only; rw [hb.2]; rfl)
      · rw [← jump_k]; exact hr
  · cases hr
theorem end_k {l : Nat} {e : HExit} {k : Kv} {h : Tr HBlk} {nx : Nat} {r : HV × HS} (hr : endK l e k h nx = some r) : ∃ v σ', endRoundH l e ⟨h, nx⟩ = some (v, σ') ∧ k v σ'.h σ'.nx = some r := by
  unfold endK at hr
  obtain ⟨q, hq, hr⟩ := loop_k hr
  cases e with
  | normal =>
    refine ⟨.bool true, (⟨h, nx⟩ : HS).upd l (some (.loop { q with state := .ready, pending := .normal })), ?_, hr⟩
    unfold endRoundH
    simp only [hq]
  | exit id =>
    refine ⟨.bool false, (⟨h, nx⟩ : HS).upd l (some (.loop { q with state := .done, pending := .exit id })), ?_, hr⟩
    unfold endRoundH
    simp only [hq]
  | ret =>
    refine ⟨.bool false, (⟨h, nx⟩ : HS).upd l (some (.loop { q with state := .done, pending := .ret })), ?_, hr⟩
    unfold endRoundH
    simp only [hq]
theorem round_k {co : Nat → LCode → Bx Kc} (hco : ∀ nt c, KcOk lp nt (co nt c).run c) : KrOk lp (roundK co) := by
  intro fl l args h nx k r hr
  unfold roundK at hr
  obtain ⟨q, hq, hr⟩ := loop_k hr
  split at hr
  · rename_i tm1 hz
    obtain ⟨n, e, a1, σ1, h1, h2, h3⟩ := hco _ _ _ _ _ _ _ _ _ _ _ _ hr
    cases e with
    | normal =>
      dsimp only [contK] at h3
      obtain ⟨q1, hq1, h3⟩ := loop_k h3
      revert h3
      cases hb : (isReady q1.state && Nat.ble fl l) with
      | false => intro h3; cases h3
      | true =>
        intro h3
        simp only [cond_true] at h3
        simp only [Bool.and_eq_true] at hb
        obtain ⟨m, e, a2, σ2, h4, h5, h6⟩ := hco _ _ _ _ _ _ _ _ _ _ _ _ h3
        have ea : (⟨q.nt, a1.tmps, a1.defers⟩ : HAct) = a1 := by rw [← h2]
        rw [ea] at h4
        have hbegin : beginRoundH fl l σ1 = some ⟨σ1.h.set l (some (.loop { q1 with state := .busy })), σ1.nx⟩ := by
          unfold beginRoundH
          rw [hq1]
          dsimp only
          have hrd := hb.1
          cases hst : q1.state <;> rw [hst] at hrd <;> first | (exact absurd hrd (by decide)) | (dsimp only; rw [hb.2]; rfl)
        have hend : ∃ v σ', endRoundH l e σ2 = some (v, σ') ∧ k v σ'.h σ'.nx = some r := by
          cases e <;> exact end_k h6
        obtain ⟨v, σ', g1, g2⟩ := hend
        refine ⟨max n m, v, σ', ?_, g2⟩
        unfold roundH
        rw [hq]
        dsimp only
        rw [hz]
        dsimp only
        rw [exec_mon (Nat.le_max_left n m) _ _ _ _ _ _ h1]
        dsimp only
        rw [hbegin]
        dsimp only
        rw [exec_mon (Nat.le_max_right n m) _ _ _ _ _ _ h4]
        exact g1
    | exit id => cases h3
    | ret => cases h3
  · cases hr
theorem comp_k {op : LOp → Bx Ko} {fn : Nat → Bx Kf} (hop : ∀ o, KoOk lp nt (op o).run o) (hfn : ∀ f, KfOk lp (fn f).run f) : ∀ c, KcOk lp nt (comp op fn nt c).run c
  | .skip => fun fl rd kn kx kr a ds h nx r hr => ⟨1, .normal, _, _, rfl, rfl, hr⟩
  | .seq x y => by
    intro fl rd kn kx kr a ds h nx r hr
    unfold comp at hr
    rw [then_eq, then_eq, run_mk] at hr
    obtain ⟨n, e, a1, σ1, h1, h2, h3⟩ := comp_k hop hfn x fl rd _ kx kr a ds h nx r hr
    cases e with
    | normal =>
      dsimp only [contK] at h3
      obtain ⟨m, e, a', σ', h4, h5, h6⟩ := comp_k hop hfn y fl rd kn kx kr a1.tmps a1.defers σ1.h σ1.nx r h3
      have ea : (⟨nt, a1.tmps, a1.defers⟩ : HAct) = a1 := by rw [← h2]
      rw [ea] at h4
      exact ⟨max n m + 1, e, a', σ', seq_run h1 h4, h5, h6⟩
    | exit id => exact ⟨n + 1, .exit id, a1, σ1, by show xSeq _ _ _ _ _ _ _ = _; unfold xSeq; rw [h1], h2, h3⟩
    | ret => exact ⟨n + 1, .ret, a1, σ1, by show xSeq _ _ _ _ _ _ _ = _; unfold xSeq; rw [h1], h2, h3⟩
  | .cond c x y => by
    intro fl rd kn kx kr a ds h nx r hr
    unfold comp at hr
    rw [then_eq, then_eq, then_eq, run_mk] at hr
    rw [ev_eq (nt := nt) c a ds] at hr
    split at hr
    · rename_i b hb
      cases b with
      | true =>
        obtain ⟨n, e, a', σ', h1, h2, h3⟩ := comp_k hop hfn x fl rd kn kx kr a ds h nx r hr
        refine ⟨n + 1, e, a', σ', ?_, h2, h3⟩
        show xCond _ _ _ _ _ _ _ _ = _
        unfold xCond
        rw [hb]; exact h1
      | false =>
        obtain ⟨n, e, a', σ', h1, h2, h3⟩ := comp_k hop hfn y fl rd kn kx kr a ds h nx r hr
        refine ⟨n + 1, e, a', σ', ?_, h2, h3⟩
        show xCond _ _ _ _ _ _ _ _ = _
        unfold xCond
        rw [hb]; exact h1
    · cases hr
  | .block id x => by
    intro fl rd kn kx kr a ds h nx r hr
    unfold comp at hr
    rw [then_eq, run_mk] at hr
    obtain ⟨n, e, a', σ', h1, h2, h3⟩ := comp_k hop hfn x fl rd kn _ kr a ds h nx r hr
    cases e with
    | normal => exact ⟨n + 1, .normal, a', σ', by show xBlock _ _ _ _ _ _ _ = _; unfold xBlock; rw [h1], h2, h3⟩
    | ret => exact ⟨n + 1, .ret, a', σ', by show xBlock _ _ _ _ _ _ _ = _; unfold xBlock; rw [h1], h2, h3⟩
    | exit i =>
      dsimp only [contK] at h3
      refine ⟨n + 1, bif Nat.beq i id then .normal else .exit i, a', σ', by show xBlock _ _ _ _ _ _ _ = _; unfold xBlock; rw [h1], h2, ?_⟩
      revert h3
      cases Nat.beq i id <;> exact fun h => h
  | .loop x => by
    intro fl rd kn kx kr a ds h nx r hr
    unfold comp at hr
    rw [then_eq, run_mk] at hr
    have ihx := comp_k hop hfn x
    revert hr
    generalize 1000000 = m
    induction m generalizing a ds h nx with
    | zero => intro hr; cases hr
    | succ m ih =>
      intro hr
      obtain ⟨n, e, a1, σ1, h1, h2, h3⟩ := ihx fl rd _ kx kr a ds h nx r hr
      cases e with
      | normal =>
        dsimp only [contK] at h3
        obtain ⟨k, e, a', σ', h4, h5, h6⟩ := ih a1.tmps a1.defers σ1.h σ1.nx h3
        have ea : (⟨nt, a1.tmps, a1.defers⟩ : HAct) = a1 := by rw [← h2]
        rw [ea] at h4
        exact ⟨max n k + 1, e, a', σ', seq_run h1 h4, h5, h6⟩
      | exit id => exact ⟨n + 1, .exit id, a1, σ1, by show xSeq _ _ _ _ _ _ _ = _; unfold xSeq; rw [h1], h2, h3⟩
      | ret => exact ⟨n + 1, .ret, a1, σ1, by show xSeq _ _ _ _ _ _ _ = _; unfold xSeq; rw [h1], h2, h3⟩
  | .scope x => by
    intro fl rd kn kx kr a ds h nx r hr
    obtain ⟨n, e, a', σ', h1, h2, h3⟩ := comp_k hop hfn x fl rd kn kx kr a ds h nx r hr
    exact ⟨n + 1, e, a', σ', h1, h2, h3⟩
  | .exit id => fun fl rd kn kx kr a ds h nx r hr => ⟨1, .exit id, _, _, rfl, rfl, hr⟩
  | .ret => fun fl rd kn kx kr a ds h nx r hr => ⟨1, .ret, _, _, rfl, rfl, hr⟩
  | .reg ops => by
    intro fl rd kn kx kr a ds h nx r hr
    unfold comp at hr
    rw [then_eq, run_mk] at hr
    obtain ⟨n, a', σ', h1, h2, h3⟩ := ops_k hop ops fl kn a ds h nx r hr
    refine ⟨n + 1, .normal, a', σ', ?_, h2, h3⟩
    show xNormal _ = _
    rw [h1]; rfl
  | .draw s ops => by
    intro fl rd kn kx kr a ds h nx r hr
    unfold comp at hr
    rw [then_eq, run_mk] at hr
    cases hb : Nat.ble fl nx with
    | false => rw [hb] at hr; cases hr
    | true =>
      rw [hb] at hr
      obtain ⟨n, a', σ', h1, h2, h3⟩ := draw_k hop ops fl nx 0 h [] kn a ds nx r (Nat.le_of_ble_eq_true hb) (Nat.le_refl _) hr
      refine ⟨n + 1, .normal, a', σ', ?_, h2, h3⟩
      show xDraw lp (exec lp n) fl s ops _ _ = _
      unfold xDraw
      rw [hb]
      simp only [cond_true, h1]
      rfl
  | .rangeFunc f ps assign body => by
    unfold comp
    rw [then_eq, run_mk]
    exact range_k hfn f ps assign body
  | .bad => fun fl rd kn kx kr a ds h nx r hr => by cases hr
theorem leave_k {fl : Nat} {res : List LRes} {k : Kv} {a : HAct} {σ : HS} {r : HV × HS} (hn : a.nt = nt) (hr : leaveK fl nt res k a.tmps a.defers σ.h σ.nx = some r) : ∃ v σ', leaveH fl a res σ = some (v, σ') ∧ k v σ'.h σ'.nx = some r := by
  unfold leaveK at hr
  have ea : (⟨nt, a.tmps, a.defers⟩ : HAct) = a := by rw [← hn]
  rw [ea] at hr
  split at hr
  · rename_i v σ' h1; exact ⟨v, σ', h1, hr⟩
  · cases hr
theorem both_k : ∀ n, (∀ f, KfOk lp ((bothK lp n).1 f).run f) ∧ KrOk lp (bothK lp n).2
  | 0 => ⟨fun f fl args h nx k r hr => (by cases hr), fun fl l args h nx k r hr => (by cases hr)⟩
  | n + 1 => by
    obtain ⟨hfn, hro⟩ := both_k n
    have hco : ∀ nt c, KcOk lp nt (comp (compOp lp (bothK lp n).1 (bothK lp n).2 nt) (bothK lp n).1 nt c).run c := fun nt c => comp_k (fun o => op_ok hfn hro o) hfn c
    refine ⟨fun f fl args h nx k r hr => ?_, round_k hco⟩
    unfold bothK at hr
    dsimp only at hr
    split at hr
    · cases hr
    · rename_i lf hlf
      split at hr
      · rename_i g hg
        rw [run_mk] at hr
        unfold specK at hr
        split at hr
        · rename_i v σ h1
          cases hb : Nat.ble nx σ.nx with
          | false => rw [hb] at hr; cases hr
          | true =>
            rw [hb] at hr
            refine ⟨0, v, σ, ?_, hr⟩
            unfold callF
            rw [hlf]
            simp only [hg]
            unfold specH
            rw [h1]
            simp only [hb, cond_true]
        · cases hr
      rename_i hsp
      rw [then_eq] at hr
      have run : ∀ (fl0 : Nat) (k0 : Kv), (bif Nat.ble args.length lf.nt then (comp (compOp lp (bothK lp n).1 (bothK lp n).2 lf.nt) (bothK lp n).1 lf.nt lf.body).run fl0 none (leaveK fl0 lf.nt lf.res k0) (fun _ _ _ _ _ => none) (leaveK fl0 lf.nt lf.res k0) (putAll .e 0 args) [] h nx else none) = some r →
          ∃ m v σ', callB (exec lp m) fl0 lf args ⟨h, nx⟩ = some (v, σ') ∧ k0 v σ'.h σ'.nx = some r := by
        intro fl0 k0 hr
        cases hb : Nat.ble args.length lf.nt with
        | false => rw [hb] at hr; cases hr
        | true =>
          rw [hb] at hr
          simp only [cond_true] at hr
          have hmx : Nat.max lf.nt args.length = lf.nt := Nat.max_eq_left (Nat.le_of_ble_eq_true hb)
          obtain ⟨m, e, a', σ', h1, h2, h3⟩ := hco lf.nt lf.body fl0 none _ _ _ _ _ _ _ r hr
          cases e with
          | normal =>
            obtain ⟨v, σ'', g1, g2⟩ := leave_k h2 h3
            refine ⟨m, v, σ'', ?_, g2⟩
            unfold callB
            rw [hmx, h1]
            exact g1
          | exit id => cases h3
          | ret =>
            obtain ⟨v, σ'', g1, g2⟩ := leave_k h2 h3
            refine ⟨m, v, σ'', ?_, g2⟩
            unfold callB
            rw [hmx, h1]
            exact g1
      unfold enterK at hr
      cases hi : lf.imp with
      | true =>
        rw [hi] at hr
        simp only [cond_true] at hr
        rw [run_mk] at hr
        obtain ⟨m, v, σ', g1, g2⟩ := run fl k hr
        refine ⟨m, v, σ', ?_, g2⟩
        unfold callF
        rw [hlf]
        simp only [hsp, hi, cond_true]
        exact g1
      | false =>
        rw [hi] at hr
        simp only [cond_false] at hr
        rw [run_mk] at hr
        obtain ⟨m, v, σ', g1, g2⟩ := run nx (gcK h nx k) hr
        refine ⟨m, v, gcH ⟨h, nx⟩ σ' v, ?_, g2⟩
        unfold callF
        rw [hlf]
        simp only [hsp, hi, cond_false, g1]
theorem fn_k (n f : Nat) : KfOk lp ((fnK lp n f).run) f := (both_k n).1 f
/-- **What the closures reckon, the plain machine does.** -/
theorem c_of_k {n f : Nat} {args : List HV} {h : Tr HBlk} {nx : Nat} {Q : HV → HS → Prop} {k : Kv} {r : HV × HS} (hr : (fnK lp n f).run 0 args h nx k = some r) (hk : ∀ v h nx, k v h nx = some r → Q v ⟨h, nx⟩) : C lp 0 f args ⟨h, nx⟩ Q := by
  obtain ⟨m, v, σ', h1, h2⟩ := fn_k n f 0 args h nx k r hr
  exact ⟨m, v, σ', h1, hk _ _ _ h2⟩
end Go.Hx

/- The closed run of 'awake': the chapter's first examples, which each law of the layer asks for at its end. -/
namespace Go.Hx
theorem mixed : (Go.Proofs.Try.prog).follows .mixedOrders = true := by kernel_rfl
noncomputable def endK0 : Kv := fun v _ _ => some (v, ⟨.e, 0⟩)
theorem closed_of {lp : Nat → Option LFunc} {n f : Nat} (hr : (fnK lp n f).run 0 [] .e 0 endK0 = some (.bool true, ⟨.e, 0⟩)) : C lp 0 f [] ⟨.e, 0⟩ (fun v _ => v = .bool true) :=
  c_of_k hr fun v h nx hk => by unfold endK0 at hk; cases hk; rfl
theorem closed22 : C LP 0 22 [] ⟨.e, 0⟩ (fun v _ => v = .bool true) := closed_of (n := 40) (by kernel_rfl)
end Go.Hx

/- A struct argument with lists in its fields: its cells, one by one, on the plain machine. -/
namespace Go.Hx
open Go.RowKit
variable {P : Program}
end Go.Hx

/- The frame of the laws: 'awake' is known; arguments that are structs with lists in their fields, as lists and numbers. -/
namespace Go.Hx
open Go.RowKit Go.ChangeShapes Go.WideShapes Go.ChangeAt
theorem spWakes_ok : ∀ args σ v σ', spWakes args σ = some (v, σ') → σ' = σ ∧ args.all flat = true ∧ flatV v = true ∧ C LP 0 22 args ⟨.e, 0⟩ (fun v' _ => v' = v) := by
  intro args σ v σ' h
  cases args with
  | nil => cases h; exact ⟨rfl, rfl, rfl, closed22⟩
  | cons a l => cases h
theorem lw_ok : LpOk Go.Proofs.Try.prog LW := withS_ok lowP_ok (spec_plain mixed lowP_ok spWakes_ok)
theorem wfk {k : IntKind} {n : Int} (h : (Lit.int k n).wf = true) : k.min ≤ n ∧ n ≤ k.max := by
  simp only [Lit.wf, Bool.and_eq_true, decide_eq_true_eq] at h
  exact h
def e2 (x : Int × Int) : List HV := [i64 x.1, i64 x.2]
def e3 (x : Int × Int × Int) : List HV := [i64 x.1, i64 x.2.1, i64 x.2.2]
theorem dec2 : ∀ us : Nat → Value, (∀ j k, [Leaf.i .i64, .i .i64][j]? = some k → LeafV k (us j)) → ∃ x : Int × Int, ∀ j u, (e2 x)[j]? = some u → ∀ ρ, VR ρ u (us j) := by
  intro us h
  obtain ⟨a, e0⟩ := leaf_int (h 0 _ rfl)
  obtain ⟨b, e1⟩ := leaf_int (h 1 _ rfl)
  refine ⟨(a, b), fun j u hj ρ => ?_⟩
  match j, hj with
  | 0, hj => cases hj; rw [e0]; exact .int _ _
  | 1, hj => cases hj; rw [e1]; exact .int _ _
  | j + 2, hj => simp [e2] at hj
theorem dec3 : ∀ us : Nat → Value, (∀ j k, [Leaf.i .i64, .i .i64, .i .i64][j]? = some k → LeafV k (us j)) → ∃ x : Int × Int × Int, ∀ j u, (e3 x)[j]? = some u → ∀ ρ, VR ρ u (us j) := by
  intro us h
  obtain ⟨a, e0⟩ := leaf_int (h 0 _ rfl)
  obtain ⟨b, e1⟩ := leaf_int (h 1 _ rfl)
  obtain ⟨c, e2⟩ := leaf_int (h 2 _ rfl)
  refine ⟨(a, b, c), fun j u hj ρ => ?_⟩
  match j, hj with
  | 0, hj => cases hj; rw [e0]; exact .int _ _
  | 1, hj => cases hj; rw [e1]; exact .int _ _
  | 2, hj => cases hj; rw [e2]; exact .int _ _
  | j + 3, hj => simp [e3] at hj
theorem rel2 (F : V.PH) (x : Int × Int) : V.rP V.rI V.rI F x (e2 x) := ⟨[_], [_], rfl, rfl, rfl⟩
theorem rel3 (F : V.PH) (x : Int × Int × Int) : V.rP V.rI (V.rP V.rI V.rI) F x (e3 x) := ⟨[_], [_, _], rfl, rfl, ⟨[_], [_], rfl, rfl, rfl⟩⟩
/-- A list argument, with room; 'Z' holds of each element. -/
def AL {α : Type} (enc : α → List HV) (sz : Nat) (W : World) (v : Value) (Z : α → Prop) : Prop :=
  ∃ (o : Option Slot) (mk : Nat → HV) (l : List α), ArgL enc sz W v o mk l ∧ (∀ k p n c, mk k = .slice p n c → n ≤ c) ∧ ∀ x ∈ l, Z x
theorem row_of {α : Type} {rel : V.Rel α} {enc : α → List HV} {sz : Nat} {ss : List (Option Slot)} {k : Nat} {o : Option Slot} {l : List α} {p : Option (Nat × Nat)} {c : Nat} (hrel : ∀ F x, rel F x (enc x)) (hk : k < ss.length) (ho : ss.getD k none = o) (hc : l.length ≤ c)
    (hr : ∀ (h : Tr HBlk) (nx : Nat), k < nx → h.get k = (o.map fun s => .cells s.cs .ro) → Row enc sz h nx p l) : V.RowF rel sz (V.all (lay ss)) p c l := by
  refine ⟨hc, fun hne => ?_⟩
  obtain ⟨b, off, cs, q, h1, h2, h3, h4⟩ := hr (lay ss) ss.length hk (by rw [lay_get, ho]) hne
  exact ⟨b, off, cs, q, h1, h3, fun i x hx => ⟨_, h4 i x hx, hrel _ x⟩⟩
theorem slice_cap {P : Program} {H : Type} {enc : TypeId × Value → H} {w : World} {base : Nat} {held : Bool} {t e : TypeId} {a : Option Addr} {len cap : Nat} {dd : DataW H} {p : List MemPlace} (ht : P.underlying t = some (.slice e)) (h : DataW.Trod enc P w base (fun _ => true) held t (.slice a len cap) dd p) : len ≤ cap := by
  obtain ⟨fuel, hf⟩ := h
  rcases Deep.open_slice ht hf with ⟨hcs, _⟩ | ⟨a, len', cap', m, n, D, Pl, hcs, _, hlc, hm, hmm, _, hx⟩
  · simp [Value.cells] at hcs
    omega
  · simp [Value.cells] at hcs
    obtain ⟨rfl, rfl, rfl⟩ := hcs
    exact hlc
theorem arg_al {P : Program} {H : Type} {enc0 : TypeId × Value → H} {w : World} {base : Nat} {held : Bool} {α : Type} [Inhabited α] {enc : α → List HV} {t e : TypeId} {d : Nat} {ks : List Leaf} {v : Value} {dd : DataW H} {p : List MemPlace} {b0 : Nat} (ht : P.underlying t = some (.slice e)) (hk : leaves P d e = some ks) (hl : ks.length = P.cellsOf e)
    (hv : Value.okWide P w .any b0 t v) (h : DataW.Trod enc0 P w base (fun _ => true) held t v dd p) (he : ∀ x, (enc x).length = ks.length)
    (hdec : ∀ us : Nat → Value, (∀ j k, ks[j]? = some k → LeafV k (us j)) → ∃ x : α, ∀ j u, (enc x)[j]? = some u → ∀ ρ, VR ρ u (us j)) : AL enc ks.length w v (fun _ => True) := by
  rcases open_rows ht hk hl hv h with rfl | ⟨blk, off, len, cap, C, el, z, rfl, hw, hx⟩
  · exact ⟨none, fun _ => .slice none 0 0, [], ⟨fun s e => (by cases e), fun k ρ _ => .slice0, fun k => ⟨none, 0, rfl, fun h nx _ _ hne => absurd rfl hne⟩⟩, fun k p n c e => by cases e; exact Nat.le_refl _, fun _ _ => trivial⟩
  · have each : ∀ i, i < len → ∃ x : α, ∀ j u, (enc x)[j]? = some u → ∃ c, C[off + (i * ks.length + j)]? = some c ∧ ∀ ρ, VR ρ u c := by
      intro i hi
      obtain ⟨x, hx1⟩ := hdec (fun j => (C[off + (i * ks.length + j)]?).getD .nilFunc) (fun j k hj => by
        obtain ⟨u, h1, h2⟩ := hx i hi j k hj
        rw [h1]; exact h2)
      refine ⟨x, fun j u hj => ?_⟩
      have hjl : j < ks.length := by
        rw [← he x]
        rcases Nat.lt_or_ge j (enc x).length with h | h
        · exact h
        · rw [List.getElem?_eq_none h] at hj; cases hj
      obtain ⟨c, h1, _⟩ := hx i hi j _ (List.getElem?_eq_getElem hjl)
      refine ⟨c, h1, fun ρ => ?_⟩
      have := hx1 j u hj ρ
      rwa [h1] at this
    obtain ⟨f, hf⟩ := Deep.choose_lt each
    refine ⟨some ⟨((List.range len).map f).flatMap enc, ⟨blk, off, 0⟩⟩, fun k => .slice (some (k, 0)) len cap, (List.range len).map f, ⟨fun s e => ?_, fun k ρ hr => ?_, fun k => ⟨some (k, 0), cap, by simp, fun h nx hk hg => ?_⟩⟩, fun k p n c e => by cases e; exact slice_cap ht h, fun _ _ => trivial⟩
    · cases e
      refine ⟨C, el, z, hw, fun i u hu => ?_⟩
      obtain ⟨i', j, x, rfl, h2, h3⟩ := flat_at he _ i u hu
      have hi' : i' < len := by
        rcases Nat.lt_or_ge i' len with h | h
        · exact h
        · rw [List.getElem?_eq_none (by simp; omega)] at h2; cases h2
      rw [List.getElem?_map, List.getElem?_range hi'] at h2
      cases h2
      exact hf i' hi' j u h3
    · exact VR.slice (r := ⟨blk, off, 0⟩) (o := 0) hr
    · exact flat_row0 (c := cap) he hk (by rw [hg]; rfl)
end Go.Hx

/- The arguments of the laws of layer 3: lists of scales, diaries. -/
namespace Go.Hx
open Go.RowKit Go.ChangeShapes Go.WideShapes Go.ChangeAt
open Go.Proofs
set_option maxRecDepth 100000
theorem leaves23 : leaves Try.prog 20 23 = some [.i .i64, .i .i64] := by kernel_rfl
theorem leaves93 : leaves Try.prog 20 93 = some [.i .i64, .i .i64, .i .i64] := by kernel_rfl
theorem cells23 : 2 = Try.prog.cellsOf 23 := by kernel_rfl
theorem cells93 : 3 = Try.prog.cellsOf 93 := by kernel_rfl
section
variable {H : Type} {enc : TypeId × Value → H} {w : World} {base : Nat} {held : Bool} {v : Value} {dd : DataW H} {p : List MemPlace} {b0 : Nat}
theorem arg_scales (hv : Value.okWide Try.prog w .any b0 36 v) (h : DataW.Trod enc Try.prog w base (fun _ => true) held 36 v dd p) : AL e2 2 w v (fun _ => True) :=
  arg_al (enc := e2) Try.underlying36 leaves23 cells23 hv h (fun _ => rfl) dec2
theorem arg_diary (hv : Value.okWide Try.prog w .any b0 61 v) (h : DataW.Trod enc Try.prog w base (fun _ => true) held 61 v dd p) : AL e3 3 w v (fun _ => True) :=
  arg_al (enc := e3) Try.underlying61 leaves93 cells93 hv h (fun _ => rfl) dec3
end
end Go.Hx

