/- Layer 4: the program's check of a screw. -/
import Derived.Test.YtamfcjekhiapdaaH07
import Derived.Test.YtamfcjekhiapdaaH00
import Derived.Test.YtamfcjekhiapdaaH02
import Derived.Test.YtamfcjekhiapdaaH01
import Derived.Test.YtamfcjekhiapdaaH04
import Derived.Test.YtamfcjekhiapdaaH03
import Derived.Test.YtamfcjekhiapdaaH05
import Derived.OpenShut
import Derived.ChangeSlices
import Derived.Test.YtamfcjekhiapdaaRows
set_option linter.all false
/- Layer 4: the program's check of a screw. -/
namespace Go.Hx.V
open Go.Hx
set_option linter.unusedVariables false
set_option linter.unusedSimpArgs false
set_option maxRecDepth 20000
theorem iter_allB {step : Int → Option (Int ⊕ (Unit ⊕ Unit))} {N : Nat} (i0 n : Nat) (p : Nat → Prop) (h : ∀ j, i0 ≤ j → j < i0 + n → (p j ∧ step (j : Int) = some (.inl ((j + 1 : Nat) : Int))) ∨ (¬ p j ∧ step (j : Int) = some (.inr (.inl ())))) (he : step ((i0 + n : Nat) : Int) = some (.inr (.inr ()))) (hN : n < N) :
    ((∀ j, i0 ≤ j → j < i0 + n → p j) ∧ iter step N (i0 : Int) = some (.inr ())) ∨ (¬ (∀ j, i0 ≤ j → j < i0 + n → p j) ∧ iter step N (i0 : Int) = some (.inl ())) := by
  haveI : DecidablePred fun j => p (i0 + j) := fun _ => Classical.propDecidable _
  rcases iter_all (step := step) (N := N) (x := (i0 : Int)) (fun j => ((i0 + j : Nat) : Int)) n (fun j => p (i0 + j)) (.inr ()) (.inl ()) rfl (fun j hj hp => by
    rcases h (i0 + j) (by omega) (by omega) with g | g
    · exact g.2
    · exact absurd hp g.1) (fun j hj hp => by
    rcases h (i0 + j) (by omega) (by omega) with g | g
    · exact absurd g.1 hp
    · exact g.2) he hN with ⟨g1, g2⟩ | ⟨g1, g2⟩
  · exact .inl ⟨fun j h1 h2 => by have := g1 (j - i0) (by omega); rwa [show i0 + (j - i0) = j by omega] at this, g2⟩
  · exact .inr ⟨fun hh => g1 fun j hj => hh _ (by omega) (by omega), g2⟩
theorem m97 {N : Nat} {ph : Ph} (hN : ph.length < N) (hl : ph.length < 1000000000) : ((∀ (i : Nat) r, ph[i]? = some r → spn r) ∧ sf97 N ph = some true) ∨ (¬ (∀ (i : Nat) r, ph[i]? = some r → spn r) ∧ sf97 N ph = some false) := by
  unfold sf97
  have k1 : ∀ j, 0 ≤ j → j < 0 + ph.length → (((fun i => ∀ r, ph[i]? = some r → spn r)) j ∧ sf97_L1 N ph (j : Int) = some (.inl ((j + 1 : Nat) : Int))) ∨ (¬ ((fun i => ∀ r, ph[i]? = some r → spn r)) j ∧ sf97_L1 N ph (j : Int) = some (.inr (.inl ()))) := fun j _ hj => by
    obtain ⟨r, hr⟩ : ∃ r, ph[j]? = some r := ⟨_, lt_some (by omega)⟩
    have q3 : rng ((j : Int) + 1) := by unfold rng; omega
    unfold sf97_L1
    rw [decide_eq_true (show (j : Int) < (ph.length : Int) by omega), cond_true, ix_at rfl hr, m98, bnd_ret]
    by_cases c : spn r
    · left
      rw [decide_eq_true (show spn (r.1, r.2) from c), Bool.not_true, cond_false, ck_pos q3]
      exact ⟨fun r' h => by rw [hr] at h; cases h; exact c, rfl⟩
    · right
      rw [decide_eq_false (show ¬ spn (r.1, r.2) from c), Bool.not_false, cond_true]
      exact ⟨fun h => c (h r hr), rfl⟩
  have k2 : sf97_L1 N ph ((0 + ph.length : Nat) : Int) = some (.inr (.inr ())) := by
    unfold sf97_L1
    rw [decide_eq_false (show ¬ ((0 + ph.length : Nat) : Int) < (ph.length : Int) by omega), cond_false]
  rcases iter_allB (step := sf97_L1 N ph) (N := N) 0 ph.length (fun i => ∀ r, ph[i]? = some r → spn r) k1 k2 hN with ⟨g1, g2⟩ | ⟨g1, g2⟩
  · left
    have g2' : iter (sf97_L1 N ph) N (0 : Int) = some (.inr ()) := g2
    rw [g2', bnd_ret]
    exact ⟨fun i r hr => g1 i (by omega) (by have := some_lt hr; omega) r hr, rfl⟩
  · right
    have g2' : iter (sf97_L1 N ph) N (0 : Int) = some (.inl ()) := g2
    rw [g2', bnd_ret]
    exact ⟨fun h => g1 fun j _ _ r hr => h j r hr, rfl⟩
def zsp (z : Int × Int × Int) : Prop := (0 ≤ z.1 ∧ z.1 ≤ 60) ∧ spn z.2
theorem m99 {N : Nat} {zo : Zo} (hN : zo.length < N) (hl : zo.length < 1000000000) : ((∀ (i : Nat) z, zo[i]? = some z → zsp z) ∧ sf99 N zo = some true) ∨ (¬ (∀ (i : Nat) z, zo[i]? = some z → zsp z) ∧ sf99 N zo = some false) := by
  unfold sf99
  have k1 : ∀ j, 0 ≤ j → j < 0 + zo.length → (((fun i => ∀ z, zo[i]? = some z → zsp z)) j ∧ sf99_L1 N zo (j : Int) = some (.inl ((j + 1 : Nat) : Int))) ∨ (¬ ((fun i => ∀ z, zo[i]? = some z → zsp z)) j ∧ sf99_L1 N zo (j : Int) = some (.inr (.inl ()))) := fun j _ hj => by
    obtain ⟨r, hr⟩ : ∃ r, zo[j]? = some r := ⟨_, lt_some (by omega)⟩
    have q3 : rng ((j : Int) + 1) := by unfold rng; omega
    unfold sf99_L1
    rw [decide_eq_true (show (j : Int) < (zo.length : Int) by omega), cond_true, ix_at rfl hr, m100, bnd_ret]
    by_cases c : zsp r
    · left
      rw [decide_eq_true (show (0 ≤ r.1 ∧ r.1 ≤ 60) ∧ spn (r.2.1, r.2.2) from c), Bool.not_true, cond_false, ck_pos q3]
      exact ⟨fun r' h => by rw [hr] at h; cases h; exact c, rfl⟩
    · right
      rw [decide_eq_false (show ¬ ((0 ≤ r.1 ∧ r.1 ≤ 60) ∧ spn (r.2.1, r.2.2)) from c), Bool.not_false, cond_true]
      exact ⟨fun h => c (h r hr), rfl⟩
  have k2 : sf99_L1 N zo ((0 + zo.length : Nat) : Int) = some (.inr (.inr ())) := by
    unfold sf99_L1
    rw [decide_eq_false (show ¬ ((0 + zo.length : Nat) : Int) < (zo.length : Int) by omega), cond_false]
  rcases iter_allB (step := sf99_L1 N zo) (N := N) 0 zo.length (fun i => ∀ z, zo[i]? = some z → zsp z) k1 k2 hN with ⟨g1, g2⟩ | ⟨g1, g2⟩
  · left
    have g2' : iter (sf99_L1 N zo) N (0 : Int) = some (.inr ()) := g2
    rw [g2', bnd_ret]
    exact ⟨fun i r hr => g1 i (by omega) (by have := some_lt hr; omega) r hr, rfl⟩
  · right
    have g2' : iter (sf99_L1 N zo) N (0 : Int) = some (.inl ()) := g2
    rw [g2', bnd_ret]
    exact ⟨fun h => g1 fun j _ _ r hr => h j r hr, rfl⟩
def zri (zo : Zo) (i : Nat) : Prop := ∀ y z : Int × Int × Int, zo[i - 1]? = some y → zo[i]? = some z → y.1 < z.1
theorem m101 {N : Nat} {zo : Zo} (hN : zo.length < N) (hl : zo.length < 1000000000) : ((∀ i, 1 ≤ i → i < zo.length → zri zo i) ∧ sf101 N zo = some true) ∨ (¬ (∀ i, 1 ≤ i → i < zo.length → zri zo i) ∧ sf101 N zo = some false) := by
  unfold sf101
  have k1 : ∀ j, 1 ≤ j → j < 1 + (zo.length - 1) → ((zri zo) j ∧ sf101_L1 N zo (j : Int) = some (.inl ((j + 1 : Nat) : Int))) ∨ (¬ (zri zo) j ∧ sf101_L1 N zo (j : Int) = some (.inr (.inl ()))) := fun j h1 hj => by
    obtain ⟨z, hz⟩ : ∃ r, zo[j]? = some r := ⟨_, lt_some (by omega)⟩
    obtain ⟨y, hy⟩ : ∃ r, zo[j - 1]? = some r := ⟨_, lt_some (by omega)⟩
    have q3 : rng ((j : Int) + 1) := by unfold rng; omega
    have q4 : rng ((j : Int) - 1) := by unfold rng; omega
    unfold sf101_L1
    rw [decide_eq_true (show (j : Int) < (zo.length : Int) by omega), cond_true, ck_pos q4, ix_at (n := j - 1) (by omega) hy, ix_at rfl hz]
    unfold sf102
    rw [bnd_ret]
    by_cases c : y.1 < z.1
    · left
      rw [decide_eq_true c, Bool.not_true, cond_false, ck_pos q3]
      exact ⟨fun y' z' h h' => by rw [hy] at h; rw [hz] at h'; cases h; cases h'; exact c, rfl⟩
    · right
      rw [decide_eq_false c, Bool.not_false, cond_true]
      exact ⟨fun h => c (h y z hy hz), rfl⟩
  have k2 : sf101_L1 N zo ((1 + (zo.length - 1) : Nat) : Int) = some (.inr (.inr ())) := by
    unfold sf101_L1
    rw [decide_eq_false (show ¬ ((1 + (zo.length - 1) : Nat) : Int) < (zo.length : Int) by omega), cond_false]
  rcases iter_allB (step := sf101_L1 N zo) (N := N) 1 (zo.length - 1) (zri zo) k1 k2 (by omega) with ⟨g1, g2⟩ | ⟨g1, g2⟩
  · left
    have g2' : iter (sf101_L1 N zo) N (1 : Int) = some (.inr ()) := g2
    rw [g2', bnd_ret]
    exact ⟨fun i h1 h2 => g1 i h1 (by omega), rfl⟩
  · right
    have g2' : iter (sf101_L1 N zo) N (1 : Int) = some (.inl ()) := g2
    rw [g2', bnd_ret]
    exact ⟨fun h => g1 fun j h1 h2 => h j h1 (by omega), rfl⟩
theorem m84 {N : Nat} {st tk : Int} {ph : Ph} {zo : Zo} (hN : ph.length < N) (hN2 : zo.length < N) (hl : N < 1000000000) : sf84 N st ph zo tk = some (ph.map (·.1), zo.map (·.2.1)) := by
  have mi : ∀ {α β : Type} (f : α → β) (l : List α), (l.mapIdx fun _ x => f x) = l.map f := fun f l => by
    refine List.ext_getElem? fun i => ?_
    rw [List.getElem?_mapIdx, List.getElem?_map]
  unfold sf84
  rw [iter_map ph (fun _ x => x.1) (fun j x acc hx ha => ?_) (fun acc => ?_) hN, bnd_ret, iter_map zo (fun _ x => x.2.1) (fun j x acc hx ha => ?_) (fun acc => ?_) hN2, bnd_ret, mi, mi]
  · have hj := some_lt hx
    have q3 : rng ((j : Int) + 1) := by unfold rng; omega
    unfold sf84_L2
    dsimp only
    rw [decide_eq_true (show (j : Int) < (zo.length : Int) by omega), cond_true, ix_at rfl hx]
    unfold sf105
    rw [bnd_ret, ck_pos (by omega), ck_pos q3]; rfl
  · unfold sf84_L2
    dsimp only
    rw [decide_eq_false (show ¬ (zo.length : Int) < (zo.length : Int) by omega), cond_false]
  · have hj := some_lt hx
    have q3 : rng ((j : Int) + 1) := by unfold rng; omega
    unfold sf84_L1
    dsimp only
    rw [decide_eq_true (show (j : Int) < (ph.length : Int) by omega), cond_true, ix_at rfl hx]
    unfold sf105
    rw [bnd_ret, ck_pos (by omega), ck_pos q3]; rfl
  · unfold sf84_L1
    dsimp only
    rw [decide_eq_false (show ¬ (ph.length : Int) < (ph.length : Int) by omega), cond_false]
/-- The least of some numbers. -/
def lst (a : Int) (l : List Int) : Nat → Int
  | 0 => a
  | n + 1 => match l[n]? with | some x => if x < lst a l n then x else lst a l n | none => lst a l n
theorem m103 {N : Nat} {a : Int} {l : List Int} (hN : l.length < N) (hl : N < 1000000000) : sf103 N a l = some (lst a l l.length) := by
  unfold sf103
  rw [iter_up (step := sf103_L1 l) (x := (a, (0 : Int))) (fun j => (lst a l j, (j : Int))) l.length (lst a l l.length) rfl (fun j hj => ?_) ?_ hN, bnd_ret]
  · unfold sf103_L1
    dsimp only
    rw [decide_eq_false (show ¬ (l.length : Int) < (l.length : Int) by omega), cond_false]
  · obtain ⟨x, hx⟩ : ∃ r, l[j]? = some r := ⟨_, lt_some hj⟩
    have q3 : rng ((j : Int) + 1) := by unfold rng; omega
    unfold sf103_L1
    dsimp only
    rw [decide_eq_true (show (j : Int) < (l.length : Int) by omega), cond_true, ix_at rfl hx]
    rw [show lst a l (j + 1) = (if x < lst a l j then x else lst a l j) by rw [lst, hx]]
    by_cases c : x < lst a l j
    · rw [decide_eq_true c, cond_true, ck_pos q3, if_pos c]; rfl
    · rw [decide_eq_false c, cond_false, ck_pos q3, if_neg c]; rfl
theorem lst_le {a : Int} {l : List Int} : ∀ n, lst a l n ≤ a ∧ (∀ i x, i < n → l[i]? = some x → lst a l n ≤ x) ∧ (lst a l n = a ∨ ∃ i : Nat, l[i]? = some (lst a l n))
  | 0 => ⟨Int.le_refl _, fun i x h => by omega, .inl rfl⟩
  | n + 1 => by
    obtain ⟨h1, h2, h3⟩ := lst_le (a := a) (l := l) n
    unfold lst
    cases e : l[n]? with
    | none =>
      refine ⟨h1, fun i x hi hx => ?_, h3⟩
      rcases Nat.lt_or_ge i n with g | g
      · exact h2 i x g hx
      · rw [show i = n by omega, e] at hx; cases hx
    | some y =>
      dsimp only
      by_cases c : y < lst a l n
      · rw [if_pos c]
        refine ⟨by omega, fun i x hi hx => ?_, .inr ⟨n, e⟩⟩
        rcases Nat.lt_or_ge i n with g | g
        · have := h2 i x g hx; omega
        · rw [show i = n by omega, e] at hx; cases hx; omega
      · rw [if_neg c]
        refine ⟨h1, fun i x hi hx => ?_, h3⟩
        rcases Nat.lt_or_ge i n with g | g
        · exact h2 i x g hx
        · rw [show i = n by omega, e] at hx; cases hx; omega
theorem m103c {N : Nat} {x : Int} {l : List Int} (hx : l[0]? = some x) (hN : l.length < N) (hl : N < 1000000000) : ∃ m, sf103 N x ((l.drop (Int.toNat (1 : Int))).take (l.length - (Int.toNat (1 : Int)))) = some m ∧ (∀ (i : Nat) y, l[i]? = some y → m ≤ y) ∧ ∃ i : Nat, l[i]? = some m := by
  have e1 : Int.toNat 1 = 1 := rfl
  have e : ((l.drop (Int.toNat (1 : Int))).take (l.length - (Int.toNat (1 : Int)))) = l.drop 1 := by
    rw [e1, List.take_of_length_le (by rw [List.length_drop]; omega)]
  rw [e]
  have hlen : (l.drop 1).length = l.length - 1 := by rw [List.length_drop]
  refine ⟨_, m103 (by omega) hl, ?_, ?_⟩
  · obtain ⟨h1, h2, _⟩ := lst_le (a := x) (l := l.drop 1) (l.drop 1).length
    intro i y hy
    cases i with
    | zero => rw [hx] at hy; cases hy; exact h1
    | succ i => exact h2 i y (by have := some_lt hy; omega) (by rw [List.getElem?_drop, Nat.add_comm]; exact hy)
  · obtain ⟨_, _, h3⟩ := lst_le (a := x) (l := l.drop 1) (l.drop 1).length
    rcases h3 with h3 | ⟨i, h3⟩
    · exact ⟨0, by rw [h3]; exact hx⟩
    · exact ⟨1 + i, by rw [List.getElem?_drop] at h3; exact h3⟩
end Go.Hx.V

/- Layer 4: the program's check of a screw is the reference's; zones; places. -/
namespace Go.Hx.V
open Go.Hx
set_option linter.unusedVariables false
set_option linter.unusedSimpArgs false
set_option maxRecDepth 20000
theorem bndid {α : Type} {x : Option α} : bnd x (fun v => some v) = x := by cases x <;> rfl
theorem m18 {N : Nat} {st tk : Int} {ph : Ph} {zo : Zo} (hN : zo.length < N) (hN2 : ph.length < N) (hl : N < 1000000000) :
    ∃ e, sf18 N st ph zo tk = some e ∧ (e = 0 ↔ VS st ph zo tk) ∧ (e = 3 ↔ (8 < ph.length ∨ 3 < zo.length)) ∧ (e = 0 ∨ e = 1 ∨ e = 3) := by
  have big : 8 < ph.length ∨ 3 < zo.length → ∃ e : Int, some (3 : Int) = some e ∧ (e = 0 ↔ VS st ph zo tk) ∧ (e = 3 ↔ (8 < ph.length ∨ 3 < zo.length)) ∧ (e = 0 ∨ e = 1 ∨ e = 3) := fun h => ⟨3, rfl, ⟨fun e => by omega, fun v => by have := v.lp; have := v.lz; omega⟩, ⟨fun _ => h, fun _ => rfl⟩, .inr (.inr rfl)⟩
  have bad : ¬ (8 < ph.length ∨ 3 < zo.length) → ¬ VS st ph zo tk → ∃ e : Int, some (1 : Int) = some e ∧ (e = 0 ↔ VS st ph zo tk) ∧ (e = 3 ↔ (8 < ph.length ∨ 3 < zo.length)) ∧ (e = 0 ∨ e = 1 ∨ e = 3) := fun g h => ⟨1, rfl, ⟨fun e => by omega, fun v => absurd v h⟩, ⟨fun e => by omega, fun e => absurd e g⟩, .inr (.inl rfl)⟩
  unfold sf18
  by_cases c1 : 8 < ph.length
  · rw [decide_eq_true (show (8 : Int) < (ph.length : Int) by omega), cond_true, bnd_ret, cond_true]
    exact big (.inl c1)
  rw [decide_eq_false (show ¬ (8 : Int) < (ph.length : Int) by omega), cond_false, bnd_ret]
  by_cases c2 : 3 < zo.length
  · rw [decide_eq_true (show (3 : Int) < (zo.length : Int) by omega), cond_true]
    exact big (.inr c2)
  rw [decide_eq_false (show ¬ (3 : Int) < (zo.length : Int) by omega), cond_false]
  have g : ¬ (8 < ph.length ∨ 3 < zo.length) := by omega
  have fin : ∀ b : Bool, sf50 N st ph zo tk = some b → (b = true ↔ VS st ph zo tk) → ∃ e : Int, (bnd (sf50 N st ph zo tk) fun v11 => bif (!v11) then some (1 : Int) else some (0 : Int)) = some e ∧ (e = 0 ↔ VS st ph zo tk) ∧ (e = 3 ↔ (8 < ph.length ∨ 3 < zo.length)) ∧ (e = 0 ∨ e = 1 ∨ e = 3) := fun b hb hv => by
    rw [hb, bnd_ret]
    cases b with
    | true => exact ⟨0, rfl, ⟨fun _ => hv.1 rfl, fun _ => rfl⟩, ⟨fun e => by omega, fun e => absurd e g⟩, .inl rfl⟩
    | false => exact bad g fun v => by have := hv.2 v; cases this
  have no : ∀ {x : Option Bool}, sf50 N st ph zo tk = some false → ¬ VS st ph zo tk → ∃ e : Int, (bnd (sf50 N st ph zo tk) fun v11 => bif (!v11) then some (1 : Int) else some (0 : Int)) = some e ∧ (e = 0 ↔ VS st ph zo tk) ∧ (e = 3 ↔ (8 < ph.length ∨ 3 < zo.length)) ∧ (e = 0 ∨ e = 1 ∨ e = 3) := fun h hv => fin false h ⟨(fun e => by cases e), fun v => absurd v hv⟩
  by_cases d1 : 1 ≤ st
  rotate_left
  · exact no (x := none) (by unfold sf50; rw [decide_eq_false d1, cond_false]) fun v => d1 v.s1
  by_cases d2 : st ≤ 50
  rotate_left
  · exact no (x := none) (by unfold sf50; rw [decide_eq_true d1, cond_true, decide_eq_false d2, cond_false]) fun v => d2 v.s2
  by_cases d3 : 1 ≤ tk
  rotate_left
  · exact no (x := none) (by unfold sf50; rw [decide_eq_true d1, cond_true, decide_eq_true d2, cond_true, decide_eq_false d3, cond_false]) fun v => d3 v.t1
  by_cases d4 : tk ≤ 60
  rotate_left
  · exact no (x := none) (by unfold sf50; rw [decide_eq_true d1, cond_true, decide_eq_true d2, cond_true, decide_eq_true d3, cond_true, decide_eq_false d4, cond_false]) fun v => d4 v.t2
  have e50 : sf50 N st ph zo tk = (bnd (sf76 N st ph zo tk) fun v8 => (bif v8 then (bnd (sf77 N st ph zo tk) fun v12 => (bif v12 then (bnd (sf78 N st ph zo tk) fun v16 => some v16) else some false)) else some false)) := by
    unfold sf50
    rw [decide_eq_true d1, cond_true, decide_eq_true d2, cond_true, decide_eq_true d3, cond_true, decide_eq_true d4, cond_true]
  by_cases d5 : 0 < ph.length
  rotate_left
  · exact no (x := none) (by rw [e50]; unfold sf76; rw [decide_eq_false (show ¬ (0 : Int) < (ph.length : Int) by omega), cond_false, bnd_ret, cond_false]) fun v => d5 v.pn
  have e76 : sf76 N st ph zo tk = sf97 N ph := by unfold sf76; rw [decide_eq_true (show (0 : Int) < (ph.length : Int) by omega), cond_true, bndid]
  rcases m97 hN2 (by omega) with ⟨p1, p2⟩ | ⟨p1, p2⟩
  rotate_left
  · exact no (x := none) (by rw [e50, e76, p2, bnd_ret, cond_false]) fun v => p1 fun i r hr => v.ps i r hr
  by_cases d6 : 0 < zo.length
  rotate_left
  · exact no (x := none) (by rw [e50, e76, p2, bnd_ret, cond_true]; unfold sf77; rw [decide_eq_false (show ¬ (0 : Int) < (zo.length : Int) by omega), cond_false, bnd_ret, cond_false]) fun v => d6 v.zn
  obtain ⟨z0, h0⟩ : ∃ z, zo[0]? = some z := ⟨_, lt_some d6⟩
  have e77 : sf77 N st ph zo tk = (bif (decide (z0.1 = 0)) then (bnd (sf99 N zo) fun v7 => (bif v7 then (bnd (sf101 N zo) fun v11 => some v11) else some false)) else some false) := by
    unfold sf77
    rw [decide_eq_true (show (0 : Int) < (zo.length : Int) by omega), cond_true]
    exact ix_at (n := 0) rfl h0
  by_cases d7 : z0.1 = 0
  rotate_left
  · exact no (x := none) (by rw [e50, e76, p2, bnd_ret, cond_true, e77, decide_eq_false d7, cond_false, bnd_ret, cond_false]) fun v => d7 (v.z0 _ h0)
  rw [decide_eq_true d7, cond_true] at e77
  rcases m99 hN (by omega) with ⟨q1, q2⟩ | ⟨q1, q2⟩
  rotate_left
  · exact no (x := none) (by rw [e50, e76, p2, bnd_ret, cond_true, e77, q2, bnd_ret, cond_false, bnd_ret, cond_false]) fun v => q1 fun i z hz => v.zs i z hz
  rw [q2, bnd_ret, cond_true, bndid] at e77
  rcases m101 hN (by omega) with ⟨u1, u2⟩ | ⟨u1, u2⟩
  rotate_left
  · exact no (x := none) (by rw [e50, e76, p2, bnd_ret, cond_true, e77, u2, bnd_ret, cond_false]) fun v => u1 fun i hi1 hi2 y z hy hz => v.zi (i - 1) y z hy (by rw [show i - 1 + 1 = i by omega]; exact hz)
  -- the least sum
  obtain ⟨r0, hr0⟩ : ∃ r, ph[0]? = some r := ⟨_, lt_some d5⟩
  have f1 : (ph.map (·.1))[0]? = some r0.1 := by rw [List.getElem?_map, hr0]; rfl
  have f2 : (zo.map (·.2.1))[0]? = some z0.2.1 := by rw [List.getElem?_map, h0]; rfl
  obtain ⟨m1, a1, a2, i1, a3⟩ := m103c (N := N) f1 (by rw [List.length_map]; omega) hl
  obtain ⟨m2, b1, b2, i2, b3⟩ := m103c (N := N) f2 (by rw [List.length_map]; omega) hl
  obtain ⟨ra, hra, rfl⟩ : ∃ r, ph[i1]? = some r ∧ r.1 = m1 := by
    rw [List.getElem?_map] at a3
    cases h : ph[i1]? with
    | none => rw [h] at a3; cases a3
    | some r => rw [h] at a3; exact ⟨r, rfl, Option.some.inj a3⟩
  obtain ⟨zb, hzb, rfl⟩ : ∃ r, zo[i2]? = some r ∧ r.2.1 = m2 := by
    rw [List.getElem?_map] at b3
    cases h : zo[i2]? with
    | none => rw [h] at b3; cases b3
    | some r => rw [h] at b3; exact ⟨r, rfl, Option.some.inj b3⟩
  have sa := p1 _ _ hra
  have sb := (q1 _ _ hzb).2
  unfold spn at sa sb
  have e78 : sf78 N st ph zo tk = some (decide (1 ≤ st + ra.1 + zb.2.1)) := by
    unfold sf78 sf83
    rw [bnd_ret, m84 hN2 hN hl, bnd_ret]
    have w1 : rng (st + ra.1) := by unfold rng; omega
    have w2 : rng (st + ra.1 + zb.2.1) := by unfold rng; omega
    have l1 : (ph.map (·.1)).length = ph.length := List.length_map ..
    have l2 : (zo.map (·.2.1)).length = zo.length := List.length_map ..
    have t1 : Int.toNat 1 = 1 := rfl
    dsimp only
    rw [ix_0 f1, ck_pos (by rw [l1, t1]; omega), a1, bnd_ret, ix_0 f2, ck_pos (by rw [l2, t1]; omega), b1, bnd_ret, ck_pos w1, ck_pos w2]
  refine fin (decide (1 ≤ st + ra.1 + zb.2.1)) (by rw [e50, e76, p2, bnd_ret, cond_true, e77, u2, bnd_ret, cond_true, e78, bnd_ret]) ?_
  rw [decide_eq_true_eq]
  refine ⟨fun h => ⟨by omega, by omega, d1, d2, d3, d4, d5, d6, fun z hz => by rw [h0] at hz; cases hz; exact d7, q1, fun i z z' hz hz' => u1 (i + 1) (by omega) (some_lt hz') z z' hz hz', p1, fun i k r z hr hz => ?_⟩, fun v => v.go _ _ _ _ hra hzb⟩
  have g1 := a2 i r.1 (by rw [List.getElem?_map, hr]; rfl)
  have g2 := b2 k z.2.1 (by rw [List.getElem?_map, hz]; rfl)
  omega
/-- The zone of a tick, of the first so many. -/
def znf (zo : Zo) (k : Int) : Nat → Nat
  | 0 => 0
  | n + 1 => match zo[n]? with | some z => if z.1 ≤ k then n else znf zo k n | none => znf zo k n
def zn (zo : Zo) (k : Int) : Nat := znf zo k zo.length
theorem znf_lt {zo : Zo} {k : Int} (h : 0 < zo.length) : ∀ n, n ≤ zo.length → znf zo k n < zo.length
  | 0, _ => h
  | n + 1, hn => by
    obtain ⟨z, hz⟩ : ∃ z, zo[n]? = some z := ⟨_, lt_some (by omega)⟩
    have := znf_lt (k := k) h n (by omega)
    rw [znf, hz]
    dsimp only
    by_cases c : z.1 ≤ k
    · rw [if_pos c]; omega
    · rw [if_neg c]; exact this
theorem m82 {N : Nat} {st tk k : Int} {ph : Ph} {zo : Zo} (hN : zo.length < N) (hl : N < 1000000000) : sf82 N st ph zo tk k = some (zn zo k : Int) := by
  unfold sf82
  rw [iter_up (step := sf82_L1 zo k) (x := ((0 : Int), (0 : Int))) (fun j => ((znf zo k j : Int), (j : Int))) zo.length (zn zo k : Int) rfl (fun j hj => ?_) ?_ hN, bnd_ret]
  · unfold sf82_L1
    dsimp only
    rw [decide_eq_false (show ¬ (zo.length : Int) < (zo.length : Int) by omega), cond_false]
    rfl
  · obtain ⟨z, hz⟩ : ∃ z, zo[j]? = some z := ⟨_, lt_some hj⟩
    have q3 : rng ((j : Int) + 1) := by unfold rng; omega
    unfold sf82_L1
    dsimp only
    rw [decide_eq_true (show (j : Int) < (zo.length : Int) by omega), cond_true, ix_at rfl hz]
    rw [show znf zo k (j + 1) = (if z.1 ≤ k then j else znf zo k j) by rw [znf, hz]]
    by_cases c : z.1 ≤ k
    · rw [decide_eq_true c, cond_true, ck_pos q3, if_pos c]; rfl
    · rw [decide_eq_false c, cond_false, ck_pos q3, if_neg c]; rfl
end Go.Hx.V

/- Layer 4: truths by words; places of ticks. -/
namespace Go.Hx.V
open Go.Hx
set_option linter.unusedVariables false
set_option linter.unusedSimpArgs false
set_option maxRecDepth 20000
def wd (ws : List Int) (j : Nat) : Int := if ws.length = 0 then 0 else (ws[j % ws.length]?).getD 0
theorem wd_bd {ws : List Int} (hw : ∀ x ∈ ws, 0 ≤ x ∧ x < 65536) (j : Nat) : 0 ≤ wd ws j ∧ wd ws j < 65536 := by
  unfold wd
  by_cases c : ws.length = 0
  · rw [if_pos c]; omega
  · rw [if_neg c]
    obtain ⟨x, hx⟩ : ∃ x, ws[j % ws.length]? = some x := ⟨_, lt_some (Nat.mod_lt _ (by omega))⟩
    rw [hx]
    exact hw x (List.mem_of_getElem? hx)
theorem m75 {N j : Nat} {ws : List Int} (hw : ∀ x ∈ ws, 0 ≤ x ∧ x < 65536) : sf75 N ws (j : Int) = some (wd ws j) := by
  unfold sf75
  by_cases c : ws.length = 0
  · rw [decide_eq_true (show (ws.length : Int) = 0 by omega), cond_true]
    unfold wd; rw [if_pos c]
  · rw [decide_eq_false (show ¬ (ws.length : Int) = 0 by omega), cond_false, ck_pos (by omega)]
    obtain ⟨x, hx⟩ : ∃ x, ws[j % ws.length]? = some x := ⟨_, lt_some (Nat.mod_lt _ (by omega))⟩
    have e : Int.tmod (j : Int) (ws.length : Int) = ((j % ws.length : Nat) : Int) := rfl
    have b := hw x (List.mem_of_getElem? hx)
    rw [ix_at e hx, ck_pos (wrap_small x (by omega) (by omega))]
    unfold wd; rw [if_neg c, hx]; rfl
def pck (r : Int × Int) (w : Int) : Int := r.1 + Int.tmod w (r.2 - r.1 + 1)
theorem pck_bd {r : Int × Int} {w : Int} (hs : spn r) (hw : 0 ≤ w) : r.1 ≤ pck r w ∧ pck r w ≤ r.2 := by
  unfold spn at hs
  unfold pck
  have h1 : 0 ≤ Int.tmod w (r.2 - r.1 + 1) := Int.tmod_nonneg _ hw
  have h2 : Int.tmod w (r.2 - r.1 + 1) < r.2 - r.1 + 1 := Int.tmod_lt_of_pos _ (by omega)
  omega
theorem m74 {N : Nat} {r : Int × Int} {w : Int} (hs : spn r) (hw : 0 ≤ w) : sf74 N r.1 r.2 w = some (pck r w) := by
  have b := pck_bd hs hw
  unfold spn at hs
  have q1 : rng (r.2 - r.1) := by unfold rng; omega
  have q2 : rng (r.2 - r.1 + 1) := by unfold rng; omega
  have q3 : rng (r.1 + Int.tmod w (r.2 - r.1 + 1)) := by unfold pck at b; unfold rng; omega
  unfold sf74
  rw [ck_pos q1, ck_pos q2, ck_pos (by omega), ck_pos q3]
  rfl
/-- A truth of ranges. -/
def Tru (l : List (Int × Int)) (p : List Int) : Prop := p.length = l.length ∧ ∀ (i : Nat) r x, l[i]? = some r → p[i]? = some x → r.1 ≤ x ∧ x ≤ r.2
def pkl (l : List (Int × Int)) (ws : List Int) (o : Nat) : List Int := l.mapIdx fun j r => pck r (wd ws (j + o))
theorem pkl_tru {l : List (Int × Int)} {ws : List Int} {o : Nat} (hw : ∀ x ∈ ws, 0 ≤ x ∧ x < 65536) (hs : ∀ (i : Nat) r, l[i]? = some r → spn r) : Tru l (pkl l ws o) := by
  refine ⟨by unfold pkl; rw [List.length_mapIdx], fun i r x hr hx => ?_⟩
  unfold pkl at hx
  rw [List.getElem?_mapIdx, hr] at hx
  rw [← Option.some.inj hx]
  exact pck_bd (hs i r hr) (wd_bd hw _).1
abbrev wr (zo : Zo) : List (Int × Int) := zo.map (·.2)
theorem m44 {N : Nat} {st tk : Int} {ph : Ph} {zo : Zo} {ws : List Int} (hw : ∀ x ∈ ws, 0 ≤ x ∧ x < 65536) (hp : ∀ (i : Nat) r, ph[i]? = some r → spn r) (hz : ∀ (i : Nat) z, zo[i]? = some z → zsp z) (hN : ph.length < N) (hN2 : zo.length < N) (hl : N < 1000000000) : sf44 N st ph zo tk ws = some (pkl ph ws 0, pkl (wr zo) ws 9) := by
  have e2 : pkl (wr zo) ws 9 = zo.mapIdx fun j z => pck z.2 (wd ws (j + 9)) := by
    unfold pkl wr
    refine List.ext_getElem? fun i => ?_
    rw [List.getElem?_mapIdx, List.getElem?_mapIdx, List.getElem?_map]
    cases zo[i]? <;> rfl
  rw [e2]
  unfold sf44
  rw [iter_map ph (fun j r => pck r (wd ws (j + 0))) (fun j x acc hx ha => ?_) (fun acc => ?_) hN, bnd_ret, iter_map zo (fun j z => pck z.2 (wd ws (j + 9))) (fun j x acc hx ha => ?_) (fun acc => ?_) hN2, bnd_ret]
  · rfl
  · have hj := some_lt hx
    have q3 : rng ((j : Int) + 1) := by unfold rng; omega
    have q9 : rng ((j : Int) + 9) := by unfold rng; omega
    unfold sf44_L2
    dsimp only
    rw [decide_eq_true (show (j : Int) < (zo.length : Int) by omega), cond_true, ix_at rfl hx, ck_pos q9, show (j : Int) + 9 = ((j + 9 : Nat) : Int) from rfl, m75 hw, bnd_ret, m74 (hz _ _ hx).2 (wd_bd hw _).1, bnd_ret, ck_pos (by omega), ck_pos q3]; rfl
  · unfold sf44_L2
    dsimp only
    rw [decide_eq_false (show ¬ (zo.length : Int) < (zo.length : Int) by omega), cond_false]
  · have hj := some_lt hx
    have q3 : rng ((j : Int) + 1) := by unfold rng; omega
    unfold sf44_L1
    dsimp only
    rw [decide_eq_true (show (j : Int) < (ph.length : Int) by omega), cond_true, ix_at rfl hx, m75 hw, bnd_ret, m74 (hp _ _ hx) (wd_bd hw _).1, bnd_ret, ck_pos (by omega), ck_pos q3]; rfl
  · unfold sf44_L1
    dsimp only
    rw [decide_eq_false (show ¬ (ph.length : Int) < (ph.length : Int) by omega), cond_false]
theorem m80 {N : Nat} {a b x : Int} : sf80 N a b x = some (decide (a ≤ x ∧ x ≤ b)) := by
  unfold sf80
  by_cases h : a ≤ x <;> simp [h]
theorem m52 {N : Nat} {st tk : Int} {ph : Ph} {zo : Zo} {p w : List Int} (tp : Tru ph p) (tw : Tru (wr zo) w) (hN : ph.length < N) (hN2 : zo.length < N) (hl : N < 1000000000) : sf52 N st ph zo tk p w = some true := by
  have lw : w.length = zo.length := by rw [tw.1, List.length_map]
  unfold sf52
  rw [decide_eq_true (show (p.length : Int) = (ph.length : Int) by rw [tp.1]), Bool.not_true, cond_false, decide_eq_true (show (w.length : Int) = (zo.length : Int) by rw [lw]), Bool.not_true, bnd_ret, cond_false, bnd_ret]
  have i1 : iter (sf52_L1 N ph p) N (0 : Int) = some (.inr ()) := by
    refine iter_up (fun j => (j : Int)) ph.length _ rfl (fun j hj => ?_) ?_ hN
    · obtain ⟨r, hr⟩ : ∃ r, ph[j]? = some r := ⟨_, lt_some hj⟩
      obtain ⟨x, hx⟩ : ∃ x, p[j]? = some x := ⟨_, lt_some (by rw [tp.1]; exact hj)⟩
      have q3 : rng ((j : Int) + 1) := by unfold rng; omega
      unfold sf52_L1
      rw [decide_eq_true (show (j : Int) < (ph.length : Int) by omega), cond_true, ix_at rfl hr, ix_at rfl hx, m80, bnd_ret, decide_eq_true (tp.2 _ _ _ hr hx), Bool.not_true, cond_false, ck_pos q3]; rfl
    · unfold sf52_L1
      rw [decide_eq_false (show ¬ (ph.length : Int) < (ph.length : Int) by omega), cond_false]
  have i2 : iter (sf52_L2 N zo w) N (0 : Int) = some (.inr ()) := by
    refine iter_up (fun j => (j : Int)) zo.length _ rfl (fun j hj => ?_) ?_ hN2
    · obtain ⟨r, hr⟩ : ∃ r, zo[j]? = some r := ⟨_, lt_some hj⟩
      obtain ⟨x, hx⟩ : ∃ x, w[j]? = some x := ⟨_, lt_some (by rw [lw]; exact hj)⟩
      have q3 : rng ((j : Int) + 1) := by unfold rng; omega
      have hr2 : (wr zo)[j]? = some r.2 := by unfold wr; rw [List.getElem?_map, hr]; rfl
      unfold sf52_L2
      rw [decide_eq_true (show (j : Int) < (zo.length : Int) by omega), cond_true, ix_at rfl hr, ix_at rfl hx, m80, bnd_ret, decide_eq_true (tw.2 _ _ _ hr2 hx), Bool.not_true, cond_false, ck_pos q3]; rfl
    · unfold sf52_L2
      rw [decide_eq_false (show ¬ (zo.length : Int) < (zo.length : Int) by omega), cond_false]
  show bnd (iter (sf52_L1 N ph p) N (0 : Int)) _ = _
  rw [i1, bnd_ret]
  show bnd (iter (sf52_L2 N zo w) N (0 : Int)) _ = _
  rw [i2, bnd_ret]
  rfl
/-! places -/
section
variable (st : Int) (n : Nat) (zo : Zo) (p w : List Int)
def stp (t : Nat) : Int := st + (p[t % n]?).getD 0 + (w[zn zo (t : Int)]?).getD 0
def plc : Nat → Int
  | 0 => 0
  | t + 1 => plc t + stp st n zo p w t
def pls (t : Nat) : List Int := (List.range (t + 1)).map (plc st n zo p w)
end
theorem pls_succ {st : Int} {n : Nat} {zo : Zo} {p w : List Int} {t : Nat} : pls st n zo p w (t + 1) = pls st n zo p w t ++ [plc st n zo p w (t + 1)] := by
  unfold pls
  rw [List.range_succ, List.map_append]; rfl
/-- A truth that is one of a valid screw. -/
structure TS (st : Int) (ph : Ph) (zo : Zo) (tk : Int) (p w : List Int) : Prop where
  v : VS st ph zo tk
  tp : Tru ph p
  tw : Tru (wr zo) w
theorem TS.step {st tk : Int} {ph : Ph} {zo : Zo} {p w : List Int} (h : TS st ph zo tk p w) (t : Nat) : ∃ x y : Int, p[t % ph.length]? = some x ∧ w[zn zo (t : Int)]? = some y ∧ stp st ph.length zo p w t = st + x + y ∧ (-20 ≤ x ∧ x ≤ 20) ∧ (-20 ≤ y ∧ y ≤ 20) ∧ 1 ≤ st + x + y := by
  have hm := Nat.mod_lt t h.v.pn
  have hz : zn zo (t : Int) < zo.length := znf_lt h.v.zn _ (Nat.le_refl _)
  obtain ⟨r, hr⟩ : ∃ r, ph[t % ph.length]? = some r := ⟨_, lt_some hm⟩
  obtain ⟨z, hz2⟩ : ∃ z, zo[zn zo (t : Int)]? = some z := ⟨_, lt_some hz⟩
  obtain ⟨x, hx⟩ : ∃ x, p[t % ph.length]? = some x := ⟨_, lt_some (by rw [h.tp.1]; exact hm)⟩
  obtain ⟨y, hy⟩ : ∃ y, w[zn zo (t : Int)]? = some y := ⟨_, lt_some (by rw [h.tw.1, List.length_map]; exact hz)⟩
  have b1 := h.tp.2 _ _ _ hr hx
  have b2 := h.tw.2 _ z.2 _ (by unfold wr; rw [List.getElem?_map, hz2]; rfl) hy
  have s1 := h.v.ps _ _ hr
  have s2 := (h.v.zs _ _ hz2).2
  have g := h.v.go _ _ _ _ hr hz2
  unfold spn at s1 s2
  refine ⟨x, y, hx, hy, by unfold stp; rw [hx, hy]; rfl, by omega, by omega, by omega⟩
theorem TS.bd {st tk : Int} {ph : Ph} {zo : Zo} {p w : List Int} (h : TS st ph zo tk p w) : ∀ t : Nat, (t : Int) ≤ plc st ph.length zo p w t ∧ plc st ph.length zo p w t ≤ 90 * t
  | 0 => by unfold plc; omega
  | t + 1 => by
    obtain ⟨x, y, _, _, e, b1, b2, b3⟩ := h.step t
    have := h.bd t
    have := h.v.s2
    unfold plc
    rw [e]
    omega
/-- One turn. -/
theorem m53a {N : Nat} {st tk : Int} {ph : Ph} {zo : Zo} {p w : List Int} (h : TS st ph zo tk p w) (q : Nat) (x17 : Int × Int × List Int) (hx : x17.1 = ((q * ph.length : Nat) : Int)) (hq : ((q * ph.length : Nat) : Int) < tk) (hN : 8 < N) (hl : N < 1000000000) :
    ∃ t : Nat, (t : Int) = min (((q + 1) * ph.length : Nat) : Int) tk ∧ (iter (sf53_L1 N st ph zo tk p w x17) N ((0 : Int), plc st ph.length zo p w (q * ph.length), pls st ph.length zo p w (q * ph.length)) = some (.inl (plc st ph.length zo p w t, pls st ph.length zo p w t)) ∨ iter (sf53_L1 N st ph zo tk p w x17) N ((0 : Int), plc st ph.length zo p w (q * ph.length), pls st ph.length zo p w (q * ph.length)) = some (.inr (plc st ph.length zo p w t, pls st ph.length zo p w t))) := by
  have hpn := h.v.pn
  have hlp := h.v.lp
  have ht2 := h.v.t2
  have e1 : (q + 1) * ph.length = q * ph.length + ph.length := by rw [Nat.add_mul, Nat.one_mul]
  obtain ⟨K, rfl⟩ : ∃ K : Nat, tk = (K : Int) := ⟨tk.toNat, by omega⟩
  -- a tick of the turn
  have stepj : ∀ j, j < ph.length → q * ph.length + j < K → sf53_L1 N st ph zo (K : Int) p w x17 ((j : Int), plc st ph.length zo p w (q * ph.length + j), pls st ph.length zo p w (q * ph.length + j)) = some (.inl (((j + 1 : Nat) : Int), plc st ph.length zo p w (q * ph.length + (j + 1)), pls st ph.length zo p w (q * ph.length + (j + 1)))) := fun j hj hk => by
    obtain ⟨x, y, hxx, hyy, e, b1, b2, b3⟩ := h.step (q * ph.length + j)
    have hmod : (q * ph.length + j) % ph.length = j := by rw [Nat.add_comm, Nat.mul_comm, Nat.add_mul_mod_self_left]; exact Nat.mod_eq_of_lt hj
    rw [hmod] at hxx
    have hb := h.bd (q * ph.length + j)
    have q1 : rng (((q * ph.length : Nat) : Int) + (j : Int)) := by unfold rng; omega
    have hs2 := h.v.s2
    have hs1 := h.v.s1
    have q2 : rng (st + x) := by unfold rng; omega
    have q3 : rng (st + x + y) := by unfold rng; omega
    have q4 : rng (plc st ph.length zo p w (q * ph.length + j) + (st + x + y)) := by unfold rng; omega
    have q5 : rng ((j : Int) + 1) := by unfold rng; omega
    have hlz := h.v.lz
    have llen : (pls st ph.length zo p w (q * ph.length + j)).length = q * ph.length + j + 1 := by unfold pls; rw [List.length_map, List.length_range]
    unfold sf53_L1
    dsimp only
    rw [decide_eq_true (show (j : Int) < (ph.length : Int) by omega), cond_true, hx, ck_pos q1, decide_eq_false (show ¬ (((q * ph.length : Nat) : Int) + (j : Int) = (K : Int)) by omega), cond_false, ix_at rfl hxx, ck_pos q2, show ((q * ph.length : Nat) : Int) + (j : Int) = ((q * ph.length + j : Nat) : Int) from rfl, m82 (by omega) hl, bnd_ret, ix_at rfl hyy, ck_pos q3, ck_pos q4, ck_pos (by rw [llen]; omega), ck_pos q5]
    have e2 : plc st ph.length zo p w (q * ph.length + (j + 1)) = plc st ph.length zo p w (q * ph.length + j) + (st + x + y) := by
      rw [← Nat.add_assoc]; show plc st ph.length zo p w (q * ph.length + j) + stp st ph.length zo p w (q * ph.length + j) = _; rw [e]
    rw [← Nat.add_assoc (q * ph.length) j 1, pls_succ, Nat.add_assoc, e2]
    rfl
  by_cases c : (q + 1) * ph.length ≤ K
  · refine ⟨(q + 1) * ph.length, by omega, .inr ?_⟩
    refine iter_up (fun j => ((j : Int), plc st ph.length zo p w (q * ph.length + j), pls st ph.length zo p w (q * ph.length + j))) ph.length _ rfl (fun j hj => stepj j hj (by omega)) ?_ (by omega)
    unfold sf53_L1
    dsimp only
    rw [decide_eq_false (show ¬ (ph.length : Int) < (ph.length : Int) by omega), cond_false, e1]
  · refine ⟨K, by omega, .inl ?_⟩
    have e3 : q * ph.length + (K - q * ph.length) = K := by omega
    refine iter_up (fun j => ((j : Int), plc st ph.length zo p w (q * ph.length + j), pls st ph.length zo p w (q * ph.length + j))) (K - q * ph.length) _ rfl (fun j hj => stepj j (by omega) (by omega)) ?_ (by omega)
    have q1 : rng (((q * ph.length : Nat) : Int) + ((K - q * ph.length : Nat) : Int)) := by unfold rng; omega
    unfold sf53_L1
    dsimp only
    rw [decide_eq_true (show ((K - q * ph.length : Nat) : Int) < (ph.length : Int) by omega), cond_true, hx, ck_pos q1, decide_eq_true (show ((q * ph.length : Nat) : Int) + ((K - q * ph.length : Nat) : Int) = (K : Int) by omega), cond_true, e3]
end Go.Hx.V

/- Layer 4: places of all ticks; the law of P4.13. -/
namespace Go.Hx.V
open Go.Hx
set_option linter.unusedVariables false
set_option linter.unusedSimpArgs false
set_option maxRecDepth 20000
theorem sel_inl {α β γ : Type} {f : α → Option γ} {g : β → Option γ} {x : α} : sel f g (.inl x) = f x := rfl
theorem sel_inr {α β γ : Type} {f : α → Option γ} {g : β → Option γ} {x : β} : sel f g (.inr x) = g x := rfl
theorem least {p : Nat → Prop} (h : ∃ m, p m) : ∃ m, p m ∧ ∀ q, q < m → ¬ p q := by
  obtain ⟨m, hm⟩ := h
  induction m using Nat.strongRecOn with
  | ind m ih =>
    by_cases g : ∀ q, q < m → ¬ p q
    · exact ⟨m, hm, g⟩
    · obtain ⟨q, hq⟩ : ∃ q, q < m ∧ p q := Classical.byContradiction fun hc => g fun q h1 h2 => hc ⟨q, h1, h2⟩
      exact ih q hq.1 hq.2
theorem m53 {N : Nat} {st : Int} {K : Nat} {ph : Ph} {zo : Zo} {p w : List Int} (h : TS st ph zo (K : Int) p w) (hN : 70 < N) (hl : N < 1000000000) : sf53 N st ph zo (K : Int) p w = some (pls st ph.length zo p w K) := by
  have hpn := h.v.pn
  have ht2 := h.v.t2
  have ht1 := h.v.t1
  have q1 : rng ((K : Int) + 1) := by unfold rng; omega
  have t1 : Int.toNat 1 = 1 := rfl
  have t2 : Int.toNat ((K : Int) + 1) = K + 1 := by omega
  -- the state ahead of a turn
  let s : Nat → Int × Int × List Int := fun q => (((q * ph.length : Nat) : Int), plc st ph.length zo p w (min (q * ph.length) K), pls st ph.length zo p w (min (q * ph.length) K))
  have hstep : ∀ q, q * ph.length < K → sf53_L2 N st ph zo (K : Int) p w (s q) = some (.inl (s (q + 1))) := fun q hq => by
    have e1 : (q + 1) * ph.length = q * ph.length + ph.length := by rw [Nat.add_mul, Nat.one_mul]
    have hlp := h.v.lp
    have hm : min (q * ph.length) K = q * ph.length := by omega
    obtain ⟨t, ht, hi⟩ := m53a (N := N) h q (s q) rfl (by omega) (by omega) hl
    have ht' : t = min ((q + 1) * ph.length) K := by omega
    have q3 : rng (((q * ph.length : Nat) : Int) + (ph.length : Int)) := by unfold rng; omega
    unfold sf53_L2
    rw [decide_eq_true (show (s q).1 < (K : Int) by show ((q * ph.length : Nat) : Int) < _; omega), cond_true]
    have e2 : ((0 : Int), (s q).2.1, (s q).2.2) = ((0 : Int), plc st ph.length zo p w (q * ph.length), pls st ph.length zo p w (q * ph.length)) := by show (_, plc _ _ _ _ _ (min _ _), pls _ _ _ _ _ (min _ _)) = _; rw [hm]
    have e3 : s (q + 1) = (((q * ph.length : Nat) : Int) + (ph.length : Int), plc st ph.length zo p w t, pls st ph.length zo p w t) := by
      show ((((q + 1) * ph.length : Nat) : Int), plc _ _ _ _ _ (min _ _), pls _ _ _ _ _ (min _ _)) = _
      rw [← ht', e1]; rfl
    rw [e2]
    rcases hi with hi | hi
    · rw [hi, bnd_ret, sel_inl, show (s q).1 = ((q * ph.length : Nat) : Int) from rfl, ck_pos q3, e3]
    · rw [hi, bnd_ret, sel_inr, show (s q).1 = ((q * ph.length : Nat) : Int) from rfl, ck_pos q3, e3]
  -- how many turns
  obtain ⟨m, hm1, hm2⟩ : ∃ m, K ≤ m * ph.length ∧ ∀ q, q < m → q * ph.length < K := by
    obtain ⟨m, h1, h2⟩ := least (p := fun m => K ≤ m * ph.length) ⟨K, Nat.le_mul_of_pos_right _ hpn⟩
    exact ⟨m, h1, fun q hq => Nat.not_le.1 (h2 q hq)⟩
  have hmK : m ≤ K := by
    rcases Nat.lt_or_ge K m with g | g
    · have := hm2 K g
      have := Nat.le_mul_of_pos_right K hpn
      omega
    · exact g
  have run : iter (sf53_L2 N st ph zo (K : Int) p w) N ((0 : Int), (0 : Int), List.replicate (Int.toNat 1) 0) = some (plc st ph.length zo p w K, pls st ph.length zo p w K) := by
    refine iter_up s m _ ?_ (fun q hq => hstep q (hm2 q hq)) ?_ (by omega)
    · show _ = (((0 * ph.length : Nat) : Int), plc _ _ _ _ _ (min (0 * ph.length) K), pls _ _ _ _ _ (min (0 * ph.length) K))
      rw [Nat.zero_mul, Nat.zero_min]; rfl
    · unfold sf53_L2
      rw [decide_eq_false (show ¬ (s m).1 < (K : Int) by show ¬ ((m * ph.length : Nat) : Int) < _; omega), cond_false]
      show some (Sum.inr (plc _ _ _ _ _ (min _ _), pls _ _ _ _ _ (min _ _))) = _
      rw [show min (m * ph.length) K = K by omega]
  unfold sf53
  rw [ck_pos q1, ck_pos (by rw [t1, t2]; omega), run, bnd_ret]
theorem m51 {N : Nat} {st tk k : Int} {ph : Ph} {zo : Zo} (v : VS st ph zo tk) (hk : 0 ≤ k ∧ k ≤ tk) (hN : 70 < N) (hl : N < 1000000000) : sf51 N st ph zo tk k = some 0 := by
  have := v.lp
  have := v.lz
  obtain ⟨e, he, h0, _⟩ := m18 (N := N) (st := st) (tk := tk) (ph := ph) (zo := zo) (by omega) (by omega) hl
  have e0 : e = 0 := h0.2 v
  subst e0
  unfold sf51
  rw [he, bnd_ret, decide_eq_true rfl, Bool.not_true, cond_false]
  unfold sf79
  rw [decide_eq_true hk.1, cond_true, bnd_ret, decide_eq_true hk.2, Bool.not_true, cond_false]
theorem m20 {N : Nat} {st : Int} {K k : Nat} {ph : Ph} {zo : Zo} {p w : List Int} (h : TS st ph zo (K : Int) p w) (hk : k ≤ K) (hN : 70 < N) (hl : N < 1000000000) : sf20 N st ph zo (K : Int) (k : Int) p w = some (plc st ph.length zo p w k, 0) := by
  have := h.v.lp
  have := h.v.lz
  unfold sf20
  rw [m51 h.v (by omega) hN hl, bnd_ret, decide_eq_true rfl, Bool.not_true, cond_false, m52 h.tp h.tw (by omega) (by omega) hl, bnd_ret, Bool.not_true, cond_false, m53 h hN hl, bnd_ret]
  have e : (pls st ph.length zo p w K)[k]? = some (plc st ph.length zo p w k) := by
    unfold pls
    rw [List.getElem?_map, List.getElem?_range (by omega)]; rfl
  rw [ix_at rfl e]
theorem m16 {N : Nat} {st tk : Int} {ph : Ph} {zo : Zo} {a b : List Int} : sf16 N st ph zo tk a b = some (decide (ph.length ≤ 11 ∧ zo.length ≤ 6 ∧ a.length ≤ 13 ∧ b.length ≤ 13)) := by
  unfold sf16
  by_cases c1 : ph.length ≤ 11
  · rw [decide_eq_true (show (ph.length : Int) ≤ 11 by omega), cond_true]
    by_cases c2 : zo.length ≤ 6
    · rw [decide_eq_true (show (zo.length : Int) ≤ 6 by omega), cond_true]
      by_cases c3 : a.length ≤ 13
      · rw [decide_eq_true (show (a.length : Int) ≤ 13 by omega), cond_true]
        exact sd (by omega)
      · rw [decide_eq_false (show ¬ (a.length : Int) ≤ 13 by omega), cond_false]
        exact sf_ (by omega)
    · rw [decide_eq_false (show ¬ (zo.length : Int) ≤ 6 by omega), cond_false]
      exact sf_ (by omega)
  · rw [decide_eq_false (show ¬ (ph.length : Int) ≤ 11 by omega), cond_false]
    exact sf_ (by omega)
/-- The law of P4.13. -/
theorem law15 {st tk : Int} {ph : Ph} {zo : Zo} {ws : List Int} (hw : ∀ x ∈ ws, 0 ≤ x ∧ x < 65536) : sf15 100 st ph zo tk ws = some true := by
  unfold sf15
  rw [m16, bnd_ret]
  by_cases c : ph.length ≤ 11 ∧ zo.length ≤ 6 ∧ ([] : List Int).length ≤ 13 ∧ ([] : List Int).length ≤ 13
  rotate_left
  · rw [decide_eq_false c, Bool.not_false, cond_true, bnd_ret, cond_true, bnd_ret]; rfl
  rw [decide_eq_true c, Bool.not_true, cond_false]
  obtain ⟨e, he, h0, _, h3⟩ := m56 (N := 100) (st := st) (tk := tk) (ph := ph) (zo := zo) (by omega) (by omega) (by omega)
  unfold sf23
  rw [bndid, he, bnd_ret, bnd_ret]
  by_cases c0 : e = 0
  rotate_left
  · rw [decide_eq_false c0, Bool.not_false, cond_true, bnd_ret]; rfl
  rw [decide_eq_true c0, Bool.not_true, cond_false, bnd_ret]
  have v := h0.1 c0
  have := v.t1
  obtain ⟨K, rfl⟩ : ∃ K : Nat, tk = (K : Int) := ⟨tk.toNat, by omega⟩
  have ht2 := v.t2
  have zs : ∀ (i : Nat) z, zo[i]? = some z → zsp z := v.zs
  have T : TS st ph zo (K : Int) (pkl ph ws 0) (pkl (wr zo) ws 9) := ⟨v, pkl_tru hw v.ps, pkl_tru hw fun i r hr => by
    unfold wr at hr
    rw [List.getElem?_map] at hr
    cases hz : zo[i]? with
    | none => rw [hz] at hr; cases hr
    | some z => rw [hz] at hr; cases hr; exact (v.zs i z hz).2⟩
  show bnd (sf44 100 st ph zo (K : Int) ws) _ = some true
  rw [m44 hw v.ps zs (by omega) (by omega) (by omega), bnd_ret]
  have lp : (pkl ph ws 0).length = ph.length := T.tp.1
  have lw : (pkl (wr zo) ws 9).length = zo.length := by rw [T.tw.1, List.length_map]
  generalize hp : pkl ph ws 0 = p at T lp
  generalize hw2 : pkl (wr zo) ws 9 = w at T lw
  have run : iter (sf15_L1 100 st ph zo (K : Int) (p, w)) 100 ((-1 : Int), (0 : Int)) = some (.inr ()) := by
    refine iter_up (fun j => (if j = 0 then -1 else plc st ph.length zo p w (j - 1), (j : Int))) (K + 1) _ rfl (fun j hj => ?_) ?_ (by omega)
    · have q3 : rng ((j : Int) + 1) := by unfold rng; omega
      have hlast : (if j = 0 then -1 else plc st ph.length zo p w (j - 1)) < plc st ph.length zo p w j := by
        by_cases c : j = 0
        · rw [if_pos c, c]; unfold plc; omega
        · rw [if_neg c]
          obtain ⟨x, y, _, _, e, _, _, b⟩ := T.step (j - 1)
          have : plc st ph.length zo p w j = plc st ph.length zo p w (j - 1) + stp st ph.length zo p w (j - 1) := by
            obtain ⟨i, rfl⟩ : ∃ i, j = i + 1 := ⟨j - 1, by omega⟩
            rfl
          omega
      unfold sf15_L1
      dsimp only
      rw [decide_eq_true (show (j : Int) ≤ (K : Int) by omega), cond_true, m19 (by omega) (by omega) (by omega), bnd_ret, m21 (by omega) (by omega), bnd_ret, m20 T (by omega) (by omega) (by omega), bnd_ret, decide_eq_true rfl, Bool.not_true, cond_false, decide_eq_false (show ¬ plc st ph.length zo p w j ≤ (if j = 0 then -1 else plc st ph.length zo p w (j - 1)) by omega), cond_false]
      by_cases c : j = 0
      · subst c
        rw [decide_eq_true (show ((0 : Nat) : Int) = 0 from rfl), cond_true, show plc st ph.length zo p w 0 = 0 from rfl, decide_eq_true (show ((0 : Int), (0 : Int)).1 = 0 from rfl), Bool.not_true, bnd_ret, cond_false, ck_pos q3]
        rfl
      · rw [decide_eq_false (show ¬ (j : Int) = 0 by omega), cond_false, bnd_ret, cond_false, ck_pos q3, if_neg (show ¬ j + 1 = 0 by omega)]
        rfl
    · unfold sf15_L1
      dsimp only
      rw [decide_eq_false (show ¬ ((K + 1 : Nat) : Int) ≤ (K : Int) by omega), cond_false]
  rw [run, bnd_ret]
  rfl
end Go.Hx.V

/- Layer 4: whole turns within one zone are of one length; the law of P4.11. -/
namespace Go.Hx.V
open Go.Hx
set_option linter.unusedVariables false
set_option linter.unusedSimpArgs false
set_option maxRecDepth 20000
theorem znf_le {zo : Zo} {k : Int} : ∀ n, znf zo k n ≤ n
  | 0 => Nat.le_refl _
  | n + 1 => by
    have := znf_le (zo := zo) (k := k) n
    rw [znf]
    cases h : zo[n]? with
    | none => dsimp only; omega
    | some z =>
      dsimp only
      by_cases c : z.1 ≤ k
      · rw [if_pos c]; omega
      · rw [if_neg c]; omega
theorem znf_mono {zo : Zo} {a b : Int} (h : a ≤ b) : ∀ n, znf zo a n ≤ znf zo b n
  | 0 => Nat.le_refl _
  | n + 1 => by
    have := znf_mono (zo := zo) h n
    have hl := znf_le (zo := zo) (k := a) n
    rw [znf, znf]
    cases hz : zo[n]? with
    | none => exact this
    | some z =>
      dsimp only
      by_cases c : z.1 ≤ a
      · rw [if_pos c, if_pos (show z.1 ≤ b by omega)]; omega
      · rw [if_neg c]
        by_cases c2 : z.1 ≤ b
        · rw [if_pos c2]; exact hl
        · rw [if_neg c2]; exact this
theorem zn_mono {zo : Zo} {a b : Int} (h : a ≤ b) : zn zo a ≤ zn zo b := znf_mono h _
def sm (f : Nat → Int) : Nat → Int
  | 0 => 0
  | n + 1 => sm f n + f n
theorem sm_eq {f g : Nat → Int} : ∀ n, (∀ j, j < n → f j = g j) → sm f n = sm g n
  | 0, _ => rfl
  | n + 1, h => by unfold sm; rw [sm_eq n fun j hj => h j (by omega), h n (by omega)]
theorem sm_shift (f : Nat → Int) : ∀ n, sm (fun j => f (j + 1)) n + f 0 = sm f n + f n
  | 0 => rfl
  | n + 1 => by
    have := sm_shift f n
    unfold sm
    omega
theorem sm_turn {g : Nat → Int} {n : Nat} (h : ∀ i, g (i + n) = g i) : ∀ a, sm (fun j => g (a + j)) n = sm g n
  | 0 => sm_eq n fun j _ => by rw [Nat.zero_add]
  | a + 1 => by
    have e : sm (fun j => g (a + (j + 1))) n + g a = sm (fun j => g (a + j)) n + g (a + n) := sm_shift (fun j => g (a + j)) n
    have e2 : sm (fun j => g (a + 1 + j)) n = sm (fun j => g (a + (j + 1))) n := sm_eq n fun j _ => by show g (a + 1 + j) = g (a + (j + 1)); congr 1; omega
    have e3 := h a
    have ih := sm_turn h a
    rw [e2]
    omega
theorem plc_add {st : Int} {n : Nat} {zo : Zo} {p w : List Int} (a : Nat) : ∀ m, plc st n zo p w (a + m) = plc st n zo p w a + sm (fun j => stp st n zo p w (a + j)) m
  | 0 => by unfold sm; rw [Nat.add_zero]; omega
  | m + 1 => by
    have := plc_add (st := st) (n := n) (zo := zo) (p := p) (w := w) a m
    show plc st n zo p w (a + m) + stp st n zo p w (a + m) = _
    unfold sm
    omega
/-- A whole turn in the zone 'z'. -/
theorem turn {st : Int} {n : Nat} {zo : Zo} {p w : List Int} {a z : Nat} (h1 : zn zo (a : Int) = z) (h2 : zn zo ((a : Int) + (n : Int) - 1) = z) :
    plc st n zo p w (a + n) - plc st n zo p w a = sm (fun t => st + (p[t % n]?).getD 0 + (w[z]?).getD 0) n := by
  have e := plc_add (st := st) (n := n) (zo := zo) (p := p) (w := w) a n
  have e2 : sm (fun j => stp st n zo p w (a + j)) n = sm (fun j => (fun t => st + (p[t % n]?).getD 0 + (w[z]?).getD 0) (a + j)) n := sm_eq n fun j hj => by
    have b1 := zn_mono (zo := zo) (show (a : Int) ≤ ((a + j : Nat) : Int) by omega)
    have b2 := zn_mono (zo := zo) (show ((a + j : Nat) : Int) ≤ (a : Int) + (n : Int) - 1 by omega)
    have e3 : zn zo ((a + j : Nat) : Int) = z := by omega
    show stp st n zo p w (a + j) = _
    unfold stp
    rw [e3]
  rw [sm_turn (g := fun t => st + (p[t % n]?).getD 0 + (w[z]?).getD 0) (fun i => by show _ + (p[(i + n) % n]?).getD 0 + _ = _; rw [Nat.add_mod_right])] at e2
  omega
theorem m49 {N : Nat} {st tk k : Int} {ph : Ph} {zo : Zo} (hN : zo.length < N) (hl : N < 1000000000) : sf49 N st ph zo tk k = some (zn zo k : Int) := by
  show sf82 N st ph zo tk k = _
  exact m82 hN hl
theorem truth {st : Int} {K : Nat} {ph : Ph} {zo : Zo} {ws : List Int} (v : VS st ph zo (K : Int)) (hw : ∀ x ∈ ws, 0 ≤ x ∧ x < 65536) : TS st ph zo (K : Int) (pkl ph ws 0) (pkl (wr zo) ws 9) := ⟨v, pkl_tru hw v.ps, pkl_tru hw fun i r hr => by
    unfold wr at hr
    rw [List.getElem?_map] at hr
    cases hz : zo[i]? with
    | none => rw [hz] at hr; cases hr
    | some z => rw [hz] at hr; cases hr; exact (v.zs i z hz).2⟩
/-- The law of P4.11. -/
theorem law13 {st tk : Int} {ph : Ph} {zo : Zo} {ws : List Int} {x y : Int} (hw : ∀ x ∈ ws, 0 ≤ x ∧ x < 65536) (hx : 0 ≤ x ∧ x ≤ 255) (hy : 0 ≤ y ∧ y ≤ 255) : sf13 100 st ph zo tk ws x y = some true := by
  unfold sf13
  rw [m16, bnd_ret]
  by_cases c : ph.length ≤ 11 ∧ zo.length ≤ 6 ∧ ([] : List Int).length ≤ 13 ∧ ([] : List Int).length ≤ 13
  rotate_left
  · rw [decide_eq_false c, Bool.not_false, cond_true, bnd_ret, cond_true, bnd_ret]; rfl
  rw [decide_eq_true c, Bool.not_true, cond_false]
  obtain ⟨e, he, h0, _, h3⟩ := m56 (N := 100) (st := st) (tk := tk) (ph := ph) (zo := zo) (by omega) (by omega) (by omega)
  rw [show sf23 100 st ph zo tk = some e by unfold sf23; rw [bndid, he], bnd_ret]
  by_cases c0 : e = 0
  rotate_left
  · rw [decide_eq_false c0, Bool.not_false, cond_true, bnd_ret, cond_true, bnd_ret]; rfl
  rw [decide_eq_true c0, Bool.not_true, cond_false, bnd_ret]
  have v := h0.1 c0
  have := v.t1
  have := v.pn
  obtain ⟨K, rfl⟩ : ∃ K : Nat, tk = (K : Int) := ⟨tk.toNat, by omega⟩
  have ht2 := v.t2
  by_cases c1 : K < ph.length
  · rw [decide_eq_true (show (K : Int) < (ph.length : Int) by omega), cond_true, bnd_ret]; rfl
  rw [decide_eq_false (show ¬ (K : Int) < (ph.length : Int) by omega), cond_false, bnd_ret, sel_inr]
  obtain ⟨A, rfl⟩ : ∃ A : Nat, x = (A : Int) := ⟨x.toNat, by omega⟩
  obtain ⟨B, rfl⟩ : ∃ B : Nat, y = (B : Int) := ⟨y.toNat, by omega⟩
  have ed : (K : Int) - (ph.length : Int) + 1 = ((K - ph.length + 1 : Nat) : Int) := by omega
  have d1 := Nat.mod_lt A (show 0 < K - ph.length + 1 by omega)
  have d2 := Nat.mod_lt B (show 0 < K - ph.length + 1 by omega)
  have ea : Int.tmod (A : Int) ((K : Int) - (ph.length : Int) + 1) = ((A % (K - ph.length + 1) : Nat) : Int) := by rw [ed]; rfl
  have eb : Int.tmod (B : Int) ((K : Int) - (ph.length : Int) + 1) = ((B % (K - ph.length + 1) : Nat) : Int) := by rw [ed]; rfl
  rw [ea, eb]
  generalize A % (K - ph.length + 1) = a at d1 ⊢
  generalize B % (K - ph.length + 1) = b at d2 ⊢
  have q1 : rng ((K : Int) - (ph.length : Int)) := by unfold rng; omega
  have q2 : rng ((K : Int) - (ph.length : Int) + 1) := by unfold rng; omega
  have q3 : rng ((a : Int) + (ph.length : Int)) := by unfold rng; omega
  have q4 : rng ((a : Int) + (ph.length : Int) - 1) := by unfold rng; omega
  have q5 : rng ((b : Int) + (ph.length : Int)) := by unfold rng; omega
  have q6 : rng ((b : Int) + (ph.length : Int) - 1) := by unfold rng; omega
  rw [ck_pos (wrap_small (A : Int) (by omega) (by omega)), ck_pos q1, ck_pos q2, ck_pos (by omega), ck_pos (wrap_small (B : Int) (by omega) (by omega)), ck_pos q1, ck_pos q2, ck_pos (by omega)]
  rw [m49 (k := (a : Int)) (by omega) (by omega), bnd_ret, ck_pos q3, ck_pos q4, m49 (k := (a : Int) + (ph.length : Int) - 1) (by omega) (by omega), bnd_ret]
  by_cases z1 : zn zo (a : Int) = zn zo ((a : Int) + (ph.length : Int) - 1)
  rotate_left
  · rw [decide_eq_false (show ¬ (zn zo (a : Int) : Int) = (zn zo ((a : Int) + (ph.length : Int) - 1) : Int) by omega), Bool.not_false, cond_true, bnd_ret, cond_true, bnd_ret]; rfl
  rw [decide_eq_true (show (zn zo (a : Int) : Int) = (zn zo ((a : Int) + (ph.length : Int) - 1) : Int) by omega), Bool.not_true, cond_false]
  rw [m49 (k := (b : Int)) (by omega) (by omega), bnd_ret, ck_pos q5, ck_pos q6, m49 (k := (b : Int) + (ph.length : Int) - 1) (by omega) (by omega), bnd_ret]
  by_cases z2 : zn zo (b : Int) = zn zo ((b : Int) + (ph.length : Int) - 1)
  rotate_left
  · rw [decide_eq_false (show ¬ (zn zo (b : Int) : Int) = (zn zo ((b : Int) + (ph.length : Int) - 1) : Int) by omega), Bool.not_false, cond_true, bnd_ret, cond_true, bnd_ret]; rfl
  rw [decide_eq_true (show (zn zo (b : Int) : Int) = (zn zo ((b : Int) + (ph.length : Int) - 1) : Int) by omega), Bool.not_true, cond_false, bnd_ret, bnd_ret]
  by_cases z3 : zn zo (a : Int) = zn zo (b : Int)
  rotate_left
  · rw [decide_eq_false (show ¬ (zn zo (a : Int) : Int) = (zn zo (b : Int) : Int) by omega), Bool.not_false, bnd_ret, cond_true, bnd_ret]; rfl
  rw [decide_eq_true (show (zn zo (a : Int) : Int) = (zn zo (b : Int) : Int) by omega), Bool.not_true, bnd_ret, cond_false, bnd_ret, sel_inr]
  have T := truth v hw
  have zs : ∀ (i : Nat) z, zo[i]? = some z → zsp z := v.zs
  rw [m44 hw v.ps zs (by omega) (by omega) (by omega), bnd_ret]
  have lp : (pkl ph ws 0).length = ph.length := T.tp.1
  have lw : (pkl (wr zo) ws 9).length = zo.length := by rw [T.tw.1, List.length_map]
  generalize hp : pkl ph ws 0 = p at T lp ⊢
  generalize hw2 : pkl (wr zo) ws 9 = w at T lw ⊢
  have f19 : sf19 100 st ph zo (K : Int) = some (st, ph, zo, (K : Int)) := m19 (by omega) (by omega) (by omega)
  have f21 : sf21 100 p w = some (p, w) := m21 (by omega) (by omega)
  have g1 := m20 (N := 100) T (k := a) (by omega) (by omega) (by omega)
  have g2 : sf20 100 st ph zo (K : Int) ((a : Int) + (ph.length : Int)) p w = _ := m20 (N := 100) T (k := a + ph.length) (by omega) (by omega) (by omega)
  have g3 := m20 (N := 100) T (k := b) (by omega) (by omega) (by omega)
  have g4 : sf20 100 st ph zo (K : Int) ((b : Int) + (ph.length : Int)) p w = _ := m20 (N := 100) T (k := b + ph.length) (by omega) (by omega) (by omega)
  have t1 := turn (st := st) (n := ph.length) (p := p) (w := w) (z := zn zo (a : Int)) rfl z1.symm
  have t2 := turn (st := st) (n := ph.length) (p := p) (w := w) (z := zn zo (a : Int)) (a := b) z3.symm (by rw [← z2, z3])
  have b1 := T.bd a
  have b2 := T.bd (a + ph.length)
  have b3 := T.bd b
  have b4 := T.bd (b + ph.length)
  have r1 : rng (plc st ph.length zo p w (a + ph.length) - plc st ph.length zo p w a) := by unfold rng; omega
  have r2 : rng (plc st ph.length zo p w (b + ph.length) - plc st ph.length zo p w b) := by unfold rng; omega
  simp only [f19, f21, bnd_ret, g1, g2, g3, g4, ck_pos q3, ck_pos q5, ck_pos r1, ck_pos r2, decide_true, cond_true]
  rw [decide_eq_true (show _ = _ from t1.trans t2.symm), cond_true]
end Go.Hx.V

/- Layer 4: truths that are allowed; least and greatest truths; places as the reference reckons them; the law of P4.1 and P4.2. -/
namespace Go.Hx.V
open Go.Hx
set_option linter.unusedVariables false
set_option linter.unusedSimpArgs false
set_option maxRecDepth 20000
def okj (l : List (Int × Int)) (p : List Int) (j : Nat) : Prop := ∀ r x, l[j]? = some r → p[j]? = some x → r.1 ≤ x ∧ x ≤ r.2
theorem tru_iff {l : List (Int × Int)} {p : List Int} : Tru l p ↔ p.length = l.length ∧ ∀ j, j < l.length → okj l p j :=
  ⟨fun h => ⟨h.1, fun j _ r x hr hx => h.2 j r x hr hx⟩, fun h => ⟨h.1, fun i r x hr hx => h.2 i (some_lt hr) r x hr hx⟩⟩
theorem wr_at {zo : Zo} {j : Nat} {z : Int × Int × Int} (h : zo[j]? = some z) : (wr zo)[j]? = some z.2 := by unfold wr; rw [List.getElem?_map, h]; rfl
/-- The program's way and the reference's way to look through the phases. -/
theorem m52p {N : Nat} {ph : Ph} {p : List Int} (hl : p.length = ph.length) (hN : ph.length < N) (hb : N < 1000000000) :
    ((∀ j, j < ph.length → okj ph p j) ∧ iter (sf52_L1 N ph p) N (0 : Int) = some (.inr ())) ∨ (¬ (∀ j, j < ph.length → okj ph p j) ∧ iter (sf52_L1 N ph p) N (0 : Int) = some (.inl ())) := by
  haveI : DecidablePred (okj ph p) := fun _ => Classical.propDecidable _
  have key : ∀ j, j < ph.length → ∃ r x, ph[j]? = some r ∧ p[j]? = some x := fun j hj => ⟨_, _, lt_some hj, lt_some (by rw [hl]; exact hj)⟩
  refine iter_all (step := sf52_L1 N ph p) (N := N) (fun j => (j : Int)) ph.length (okj ph p) (.inr ()) (.inl ()) rfl (fun j hj hp => ?_) (fun j hj hp => ?_) (by unfold sf52_L1; rw [decide_eq_false (show ¬ (ph.length : Int) < (ph.length : Int) by omega), cond_false]) hN
  · obtain ⟨r, x, hr, hx⟩ := key j hj
    have q3 : rng ((j : Int) + 1) := by unfold rng; omega
    unfold sf52_L1
    rw [decide_eq_true (show (j : Int) < (ph.length : Int) by omega), cond_true, ix_at rfl hr, ix_at rfl hx, m80, bnd_ret, decide_eq_true (hp r x hr hx), Bool.not_true, cond_false, ck_pos q3]; rfl
  · obtain ⟨r, x, hr, hx⟩ := key j hj
    unfold sf52_L1
    rw [decide_eq_true (show (j : Int) < (ph.length : Int) by omega), cond_true, ix_at rfl hr, ix_at rfl hx, m80, bnd_ret, decide_eq_false (fun h => hp fun r' x' h1 h2 => by rw [hr] at h1; rw [hx] at h2; cases h1; cases h2; exact h), Bool.not_false, cond_true]
theorem m52z {N : Nat} {zo : Zo} {p : List Int} (hl : p.length = zo.length) (hN : zo.length < N) (hb : N < 1000000000) :
    ((∀ j, j < zo.length → okj (wr zo) p j) ∧ iter (sf52_L2 N zo p) N (0 : Int) = some (.inr ())) ∨ (¬ (∀ j, j < zo.length → okj (wr zo) p j) ∧ iter (sf52_L2 N zo p) N (0 : Int) = some (.inl ())) := by
  haveI : DecidablePred (okj (wr zo) p) := fun _ => Classical.propDecidable _
  have key : ∀ j, j < zo.length → ∃ r x, zo[j]? = some r ∧ p[j]? = some x := fun j hj => ⟨_, _, lt_some hj, lt_some (by rw [hl]; exact hj)⟩
  refine iter_all (step := sf52_L2 N zo p) (N := N) (fun j => (j : Int)) zo.length (okj (wr zo) p) (.inr ()) (.inl ()) rfl (fun j hj hp => ?_) (fun j hj hp => ?_) (by unfold sf52_L2; rw [decide_eq_false (show ¬ (zo.length : Int) < (zo.length : Int) by omega), cond_false]) hN
  · obtain ⟨r, x, hr, hx⟩ := key j hj
    have q3 : rng ((j : Int) + 1) := by unfold rng; omega
    unfold sf52_L2
    rw [decide_eq_true (show (j : Int) < (zo.length : Int) by omega), cond_true, ix_at rfl hr, ix_at rfl hx, m80, bnd_ret, decide_eq_true (hp r.2 x (wr_at hr) hx), Bool.not_true, cond_false, ck_pos q3]; rfl
  · obtain ⟨r, x, hr, hx⟩ := key j hj
    unfold sf52_L2
    rw [decide_eq_true (show (j : Int) < (zo.length : Int) by omega), cond_true, ix_at rfl hr, ix_at rfl hx, m80, bnd_ret, decide_eq_false (fun h => hp fun r' x' h1 h2 => by rw [wr_at hr] at h1; rw [hx] at h2; cases h1; cases h2; exact h), Bool.not_false, cond_true]
theorem m27p {N : Nat} {ph : Ph} {p : List Int} (hl : p.length = ph.length) (hN : ph.length < N) (hb : N < 1000000000) :
    ((∀ j, j < ph.length → okj ph p j) ∧ iter (sf27_L1 N ph p) N (0 : Int) = some (.inr ())) ∨ (¬ (∀ j, j < ph.length → okj ph p j) ∧ iter (sf27_L1 N ph p) N (0 : Int) = some (.inl ())) := by
  haveI : DecidablePred (okj ph p) := fun _ => Classical.propDecidable _
  have key : ∀ j, j < ph.length → ∃ r x, ph[j]? = some r ∧ p[j]? = some x := fun j hj => ⟨_, _, lt_some hj, lt_some (by rw [hl]; exact hj)⟩
  refine iter_all (step := sf27_L1 N ph p) (N := N) (fun j => (j : Int)) ph.length (okj ph p) (.inr ()) (.inl ()) rfl (fun j hj hp => ?_) (fun j hj hp => ?_) (by unfold sf27_L1; rw [decide_eq_false (show ¬ (ph.length : Int) < (p.length : Int) by omega), cond_false]) hN
  · obtain ⟨r, x, hr, hx⟩ := key j hj
    have q3 : rng ((j : Int) + 1) := by unfold rng; omega
    unfold sf27_L1
    rw [decide_eq_true (show (j : Int) < (p.length : Int) by omega), cond_true, ix_at rfl hx, ix_at rfl hr, ix_at rfl hr, m24, bnd_ret, decide_eq_true (hp r x hr hx), Bool.not_true, cond_false, ck_pos q3]; rfl
  · obtain ⟨r, x, hr, hx⟩ := key j hj
    unfold sf27_L1
    rw [decide_eq_true (show (j : Int) < (p.length : Int) by omega), cond_true, ix_at rfl hx, ix_at rfl hr, ix_at rfl hr, m24, bnd_ret, decide_eq_false (fun h => hp fun r' x' h1 h2 => by rw [hr] at h1; rw [hx] at h2; cases h1; cases h2; exact h), Bool.not_false, cond_true]
theorem m27z {N : Nat} {zo : Zo} {p : List Int} (hl : p.length = zo.length) (hN : zo.length < N) (hb : N < 1000000000) :
    ((∀ j, j < zo.length → okj (wr zo) p j) ∧ iter (sf27_L2 N zo p) N (0 : Int) = some (.inr ())) ∨ (¬ (∀ j, j < zo.length → okj (wr zo) p j) ∧ iter (sf27_L2 N zo p) N (0 : Int) = some (.inl ())) := by
  haveI : DecidablePred (okj (wr zo) p) := fun _ => Classical.propDecidable _
  have key : ∀ j, j < zo.length → ∃ r x, zo[j]? = some r ∧ p[j]? = some x := fun j hj => ⟨_, _, lt_some hj, lt_some (by rw [hl]; exact hj)⟩
  refine iter_all (step := sf27_L2 N zo p) (N := N) (fun j => (j : Int)) zo.length (okj (wr zo) p) (.inr ()) (.inl ()) rfl (fun j hj hp => ?_) (fun j hj hp => ?_) (by unfold sf27_L2; rw [decide_eq_false (show ¬ (zo.length : Int) < (p.length : Int) by omega), cond_false]) hN
  · obtain ⟨r, x, hr, hx⟩ := key j hj
    have q3 : rng ((j : Int) + 1) := by unfold rng; omega
    unfold sf27_L2
    rw [decide_eq_true (show (j : Int) < (p.length : Int) by omega), cond_true, ix_at rfl hx, ix_at rfl hr, ix_at rfl hr, m24, bnd_ret, decide_eq_true (hp r.2 x (wr_at hr) hx), Bool.not_true, cond_false, ck_pos q3]; rfl
  · obtain ⟨r, x, hr, hx⟩ := key j hj
    unfold sf27_L2
    rw [decide_eq_true (show (j : Int) < (p.length : Int) by omega), cond_true, ix_at rfl hx, ix_at rfl hr, ix_at rfl hr, m24, bnd_ret, decide_eq_false (fun h => hp fun r' x' h1 h2 => by rw [wr_at hr] at h1; rw [hx] at h2; cases h1; cases h2; exact h), Bool.not_false, cond_true]
/-- Both say the same of a truth. -/
theorem m52b {N : Nat} {st tk : Int} {ph : Ph} {zo : Zo} {p w : List Int} (hN : ph.length < N) (hN2 : zo.length < N) (hl : N < 1000000000) :
    (sf52 N st ph zo tk p w = some true ∧ sf27 N st ph zo tk p w = some true ∧ Tru ph p ∧ Tru (wr zo) w) ∨ (sf52 N st ph zo tk p w = some false ∧ sf27 N st ph zo tk p w = some false) := by
  unfold sf52 sf27
  by_cases c1 : p.length = ph.length
  rotate_left
  · rw [decide_eq_false (show ¬ (p.length : Int) = (ph.length : Int) by omega), Bool.not_false, cond_true, bnd_ret, cond_true]
    exact .inr ⟨rfl, rfl⟩
  rw [decide_eq_true (show (p.length : Int) = (ph.length : Int) by omega), Bool.not_true, cond_false]
  by_cases c2 : w.length = zo.length
  rotate_left
  · rw [decide_eq_false (show ¬ (w.length : Int) = (zo.length : Int) by omega), Bool.not_false, bnd_ret, cond_true]
    exact .inr ⟨rfl, rfl⟩
  rw [decide_eq_true (show (w.length : Int) = (zo.length : Int) by omega), Bool.not_true, bnd_ret, cond_false, bnd_ret, bnd_ret, sel_inr, sel_inr]
  rcases m52p c1 hN hl with ⟨a1, a2⟩ | ⟨a1, a2⟩ <;> rcases m27p c1 hN hl with ⟨b1, b2⟩ | ⟨b1, b2⟩
  · rw [a2, b2, bnd_ret, bnd_ret, sel_inr, sel_inr]
    rcases m52z c2 hN2 hl with ⟨d1, d2⟩ | ⟨d1, d2⟩ <;> rcases m27z c2 hN2 hl with ⟨e1, e2⟩ | ⟨e1, e2⟩
    · rw [d2, e2, bnd_ret, sel_inr]
      exact .inl ⟨rfl, rfl, tru_iff.2 ⟨c1, a1⟩, tru_iff.2 ⟨by rw [List.length_map]; exact c2, by rw [List.length_map]; exact d1⟩⟩
    · exact absurd d1 e1
    · exact absurd e1 d1
    · rw [d2, e2, bnd_ret, sel_inl]
      exact .inr ⟨rfl, rfl⟩
  · exact absurd a1 b1
  · exact absurd b1 a1
  · rw [a2, b2, bnd_ret, bnd_ret, sel_inl, sel_inl]
    exact .inr ⟨rfl, rfl⟩
theorem m84h {N : Nat} {st tk : Int} {ph : Ph} {zo : Zo} (hN : ph.length < N) (hN2 : zo.length < N) (hl : N < 1000000000) : sf84_2 N st ph zo tk = some (ph.map (·.2), zo.map (·.2.2)) := by
  have mi : ∀ {α β : Type} (f : α → β) (l : List α), (l.mapIdx fun _ x => f x) = l.map f := fun f l => by
    refine List.ext_getElem? fun i => ?_
    rw [List.getElem?_mapIdx, List.getElem?_map]
  unfold sf84_2
  rw [iter_map ph (fun _ x => x.2) (fun j x acc hx ha => ?_) (fun acc => ?_) hN, bnd_ret, iter_map zo (fun _ x => x.2.2) (fun j x acc hx ha => ?_) (fun acc => ?_) hN2, bnd_ret, mi, mi]
  · have hj := some_lt hx
    have q3 : rng ((j : Int) + 1) := by unfold rng; omega
    unfold sf84_2_L2
    dsimp only
    rw [decide_eq_true (show (j : Int) < (zo.length : Int) by omega), cond_true, ix_at rfl hx]
    unfold sf106
    rw [bnd_ret, ck_pos (by omega), ck_pos q3]; rfl
  · unfold sf84_2_L2
    dsimp only
    rw [decide_eq_false (show ¬ (zo.length : Int) < (zo.length : Int) by omega), cond_false]
  · have hj := some_lt hx
    have q3 : rng ((j : Int) + 1) := by unfold rng; omega
    unfold sf84_2_L1
    dsimp only
    rw [decide_eq_true (show (j : Int) < (ph.length : Int) by omega), cond_true, ix_at rfl hx]
    unfold sf106
    rw [bnd_ret, ck_pos (by omega), ck_pos q3]; rfl
  · unfold sf84_2_L1
    dsimp only
    rw [decide_eq_false (show ¬ (ph.length : Int) < (ph.length : Int) by omega), cond_false]
theorem m45 {N : Nat} {st tk : Int} {ph : Ph} {zo : Zo} {b : Bool} (hN : ph.length < N) (hN2 : zo.length < N) (hl : N < 1000000000) : sf45 N st ph zo tk b = some (ph.map (fun r => bif b then r.2 else r.1), zo.map (fun z => bif b then z.2.2 else z.2.1)) := by
  have mi : ∀ {α β : Type} (f : α → β) (l : List α), (l.mapIdx fun _ x => f x) = l.map f := fun f l => by
    refine List.ext_getElem? fun i => ?_
    rw [List.getElem?_mapIdx, List.getElem?_map]
  unfold sf45
  rw [iter_map ph (fun _ r => bif b then r.2 else r.1) (fun j x acc hx ha => ?_) (fun acc => ?_) hN, bnd_ret, iter_map zo (fun _ z => bif b then z.2.2 else z.2.1) (fun j x acc hx ha => ?_) (fun acc => ?_) hN2, bnd_ret, mi, mi]
  · have hj := some_lt hx
    have q3 : rng ((j : Int) + 1) := by unfold rng; omega
    unfold sf45_L2
    dsimp only
    rw [decide_eq_true (show (j : Int) < (zo.length : Int) by omega), cond_true]
    cases b
    · rw [cond_false, ix_at rfl hx, ck_pos (by omega), ck_pos q3]; rfl
    · rw [cond_true, ix_at rfl hx, ck_pos (by omega), ck_pos q3]; rfl
  · unfold sf45_L2
    dsimp only
    rw [decide_eq_false (show ¬ (zo.length : Int) < (zo.length : Int) by omega), cond_false]
  · have hj := some_lt hx
    have q3 : rng ((j : Int) + 1) := by unfold rng; omega
    unfold sf45_L1
    dsimp only
    rw [decide_eq_true (show (j : Int) < (ph.length : Int) by omega), cond_true]
    cases b
    · rw [cond_false, ix_at rfl hx, ck_pos (by omega), ck_pos q3]; rfl
    · rw [cond_true, ix_at rfl hx, ck_pos (by omega), ck_pos q3]; rfl
  · unfold sf45_L1
    dsimp only
    rw [decide_eq_false (show ¬ (ph.length : Int) < (ph.length : Int) by omega), cond_false]
/-- The least and the greatest truth. -/
theorem lows {st tk : Int} {ph : Ph} {zo : Zo} (v : VS st ph zo tk) : TS st ph zo tk (ph.map (·.1)) (zo.map (·.2.1)) := by
  refine ⟨v, ⟨List.length_map .., fun i r x hr hx => ?_⟩, ⟨by unfold wr; rw [List.length_map, List.length_map], fun i r x hr hx => ?_⟩⟩
  · rw [List.getElem?_map, hr] at hx
    cases hx
    have := v.ps i r hr
    unfold spn at this
    dsimp only; omega
  · unfold wr at hr
    rw [List.getElem?_map] at hr hx
    cases hz : zo[i]? with
    | none => rw [hz] at hr; cases hr
    | some z =>
      rw [hz] at hr hx
      cases hr; cases hx
      have := (v.zs i z hz).2
      unfold spn at this
      dsimp only; omega
theorem highs {st tk : Int} {ph : Ph} {zo : Zo} (v : VS st ph zo tk) : TS st ph zo tk (ph.map (·.2)) (zo.map (·.2.2)) := by
  refine ⟨v, ⟨List.length_map .., fun i r x hr hx => ?_⟩, ⟨by unfold wr; rw [List.length_map, List.length_map], fun i r x hr hx => ?_⟩⟩
  · rw [List.getElem?_map, hr] at hx
    cases hx
    have := v.ps i r hr
    unfold spn at this
    dsimp only; omega
  · unfold wr at hr
    rw [List.getElem?_map] at hr hx
    cases hz : zo[i]? with
    | none => rw [hz] at hr; cases hr
    | some z =>
      rw [hz] at hr hx
      cases hr; cases hx
      have := (v.zs i z hz).2
      unfold spn at this
      dsimp only; omega
abbrev loP (st : Int) (ph : Ph) (zo : Zo) (k : Nat) : Int := plc st ph.length zo (ph.map (·.1)) (zo.map (·.2.1)) k
abbrev hiP (st : Int) (ph : Ph) (zo : Zo) (k : Nat) : Int := plc st ph.length zo (ph.map (·.2)) (zo.map (·.2.2)) k
theorem m54 {N : Nat} {st : Int} {K : Nat} {ph : Ph} {zo : Zo} (v : VS st ph zo (K : Int)) (hN : 70 < N) (hl : N < 1000000000) : sf54 N st ph zo (K : Int) = some (st, ph, zo, (K : Int), pls st ph.length zo (ph.map (·.1)) (zo.map (·.2.1)) K, pls st ph.length zo (ph.map (·.2)) (zo.map (·.2.2)) K) := by
  have := v.lp
  have := v.lz
  unfold sf54
  rw [show sf83 N = some () from rfl, bnd_ret, m84 (by omega) (by omega) hl, bnd_ret, m53 (lows v) hN hl, bnd_ret, show sf85 N = some () from rfl, bnd_ret, m84h (by omega) (by omega) hl, bnd_ret, m53 (highs v) hN hl, bnd_ret]
theorem pls_at {st : Int} {n : Nat} {zo : Zo} {p w : List Int} {k K : Nat} (hk : k ≤ K) : (pls st n zo p w K)[k]? = some (plc st n zo p w k) := by
  unfold pls
  rw [List.getElem?_map, List.getElem?_range (by omega)]; rfl
theorem m55 {N : Nat} {st : Int} {k K : Nat} {ph : Ph} {zo : Zo} (hk : k ≤ K) {a : Int} {b : Ph} {c : Zo} {d : Int} : sf55 N a b c d (pls st ph.length zo (ph.map (·.1)) (zo.map (·.2.1)) K) (pls st ph.length zo (ph.map (·.2)) (zo.map (·.2.2)) K) (k : Int) = some (loP st ph zo k, hiP st ph zo k) := by
  unfold sf55
  rw [ix_at rfl (pls_at hk), ix_at rfl (pls_at hk)]
theorem m22 {N : Nat} {st : Int} {k K : Nat} {ph : Ph} {zo : Zo} (v : VS st ph zo (K : Int)) (hk : k ≤ K) (hN : 70 < N) (hl : N < 1000000000) : sf22 N st ph zo (K : Int) (k : Int) = some (loP st ph zo k, hiP st ph zo k, 0) := by
  unfold sf22
  rw [m51 v (by omega) hN hl, bnd_ret, decide_eq_true rfl, Bool.not_true, cond_false, m54 v hN hl, bnd_ret]
  dsimp only
  rw [m55 hk, bnd_ret]
theorem m28 {N : Nat} {st tk : Int} {k : Nat} {ph : Ph} {zo : Zo} {p w : List Int} (h : TS st ph zo tk p w) (hk : (k : Int) ≤ tk) (hN : 70 < N) (hl : N < 1000000000) : sf28 N st ph zo tk (k : Int) p w = some (plc st ph.length zo p w k) := by
  have ht2 := h.v.t2
  have hpn := h.v.pn
  have hlz := h.v.lz
  unfold sf28
  rw [iter_up (step := sf28_L1 N st ph zo tk (k : Int) p w) (x := ((0 : Int), (0 : Int))) (fun j => (plc st ph.length zo p w j, (j : Int))) k (plc st ph.length zo p w k) rfl (fun j hj => ?_) ?_ (by omega), bnd_ret]
  · unfold sf28_L1
    dsimp only
    rw [decide_eq_false (show ¬ (k : Int) < (k : Int) by omega), cond_false]
  · obtain ⟨x, y, hxx, hyy, e, b1, b2, b3⟩ := h.step j
    have hb := h.bd j
    have hs2 := h.v.s2
    have hs1 := h.v.s1
    have q2 : rng (st + x) := by unfold rng; omega
    have q3 : rng (st + x + y) := by unfold rng; omega
    have q4 : rng (plc st ph.length zo p w j + (st + x + y)) := by unfold rng; omega
    have q5 : rng ((j : Int) + 1) := by unfold rng; omega
    unfold sf28_L1
    dsimp only
    rw [decide_eq_true (show (j : Int) < (k : Int) by omega), cond_true, ck_pos (show (ph.length : Int) ≠ 0 by omega), ix_at (show Int.tmod (j : Int) (ph.length : Int) = ((j % ph.length : Nat) : Int) from rfl) hxx, ck_pos q2, m49 (by omega) hl, bnd_ret, ix_at rfl hyy, ck_pos q3, ck_pos q4, ck_pos q5]
    show _ = some (Sum.inl (plc st ph.length zo p w j + stp st ph.length zo p w j, _))
    rw [e]; rfl
theorem m26 {N : Nat} {st tk : Int} {k : Nat} {ph : Ph} {zo : Zo} (v : VS st ph zo tk) (hk : (k : Int) ≤ tk) (hN : 70 < N) (hl : N < 1000000000) : sf26 N st ph zo tk (k : Int) = some (loP st ph zo k, hiP st ph zo k) := by
  have := v.lp
  have := v.lz
  unfold sf26
  rw [m45 (by omega) (by omega) hl, bnd_ret]
  show bnd (sf28 N st ph zo tk (k : Int) (ph.map (·.1)) (zo.map (·.2.1))) _ = _
  rw [m28 (lows v) hk hN hl, bnd_ret, m45 (by omega) (by omega) hl, bnd_ret]
  show bnd (sf28 N st ph zo tk (k : Int) (ph.map (·.2)) (zo.map (·.2.2))) _ = _
  rw [m28 (highs v) hk hN hl, bnd_ret]
/-- What the program says of a tick. -/
theorem m51e {N : Nat} {st tk k e : Int} {ph : Ph} {zo : Zo} (he : sf18 N st ph zo tk = some e) : sf51 N st ph zo tk k = some (if e = 0 then (if 0 ≤ k ∧ k ≤ tk then 0 else 2) else e) := by
  unfold sf51
  rw [he, bnd_ret]
  by_cases c : e = 0
  · rw [decide_eq_true c, Bool.not_true, cond_false, if_pos c]
    unfold sf79
    by_cases d : 0 ≤ k
    · rw [decide_eq_true d, cond_true, bnd_ret]
      by_cases d2 : k ≤ tk
      · rw [decide_eq_true d2, Bool.not_true, cond_false, if_pos ⟨d, d2⟩]
      · rw [decide_eq_false d2, Bool.not_false, cond_true, if_neg (fun h => d2 h.2)]
    · rw [decide_eq_false d, cond_false, bnd_ret, Bool.not_false, cond_true, if_neg (fun h => d h.1)]
  · rw [decide_eq_false c, Bool.not_false, cond_true, if_neg c]
/-- The law of P4.1 to P4.3. -/
theorem law3 {st tk k : Int} {ph : Ph} {zo : Zo} {p w : List Int} : sf3 100 st ph zo tk k p w = some true := by
  unfold sf3
  rw [m16, bnd_ret]
  by_cases c : ph.length ≤ 11 ∧ zo.length ≤ 6 ∧ p.length ≤ 13 ∧ w.length ≤ 13
  rotate_left
  · rw [decide_eq_false c, Bool.not_false, cond_true]
  rw [decide_eq_true c, Bool.not_true, cond_false]
  obtain ⟨e, he, h0, h1, h3⟩ := m56 (N := 100) (st := st) (tk := tk) (ph := ph) (zo := zo) (by omega) (by omega) (by omega)
  obtain ⟨e', he', h0', h1', h3'⟩ := m18 (N := 100) (st := st) (tk := tk) (ph := ph) (zo := zo) (by omega) (by omega) (by omega)
  have ee : e' = e := by
    have z : e' = 0 ↔ e = 0 := h0'.trans h0.symm
    have t : e' = 3 ↔ e = 3 := h1'.trans h1.symm
    rcases h3 with h | h | h <;> rcases h3' with h' | h' | h' <;> subst h <;> subst h'
    · rfl
    · exact absurd (z.2 rfl) (by decide)
    · exact absurd (z.2 rfl) (by decide)
    · exact absurd (z.1 rfl) (by decide)
    · rfl
    · exact absurd (t.1 rfl) (by decide)
    · exact absurd (z.1 rfl) (by decide)
    · exact absurd (t.2 rfl) (by decide)
    · rfl
  subst ee
  have f19 : sf19 100 st ph zo tk = some (st, ph, zo, tk) := m19 (by omega) (by omega) (by omega)
  have f21 : sf21 100 p w = some (p, w) := m21 (by omega) (by omega)
  have f23 : sf23 100 st ph zo tk = some e' := by unfold sf23; rw [bndid, he]
  have f51 := m51e (k := k) he'
  rw [f19, bnd_ret, he', bnd_ret, bnd_ret, f21, bnd_ret]
  dsimp only
  by_cases g : (e' = 0) ∧ 0 ≤ k ∧ k ≤ tk
  rotate_left
  · -- an error
    obtain ⟨y, hy, hy0, hy2⟩ : ∃ y : Int, sf51 100 st ph zo tk k = some y ∧ y ≠ 0 ∧ bnd (bif (decide (e' = (0 : Int))) then (bnd (sf24 100 k (0 : Int) tk) fun v91 => some (!v91)) else some false) (fun y86 => (bif y86 then some (2 : Int) else some e')) = some y := by
      rw [f51, m24, bnd_ret]
      by_cases c : e' = 0
      · have : ¬ (0 ≤ k ∧ k ≤ tk) := fun h => g ⟨c, h⟩
        rw [if_pos c, if_neg this, decide_eq_true c, cond_true, decide_eq_false this, Bool.not_false, bnd_ret, cond_true]
        exact ⟨2, rfl, by decide, rfl⟩
      · rw [if_neg c, decide_eq_false c, cond_false, bnd_ret, cond_false]
        exact ⟨e', rfl, c, rfl⟩
    have f20 : sf20 100 st ph zo tk k p w = some (0, y) := by
      unfold sf20
      rw [hy, bnd_ret, decide_eq_false hy0, Bool.not_false, cond_true]
    have f22 : sf22 100 st ph zo tk k = some (0, 0, y) := by
      unfold sf22
      rw [hy, bnd_ret, decide_eq_false hy0, Bool.not_false, cond_true]
    rw [f20, bnd_ret, bnd_ret, f22, bnd_ret, f23, bnd_ret, decide_eq_true rfl, Bool.not_true, cond_false]
    rw [hy2, bnd_ret, decide_eq_false hy0, Bool.not_false, cond_true]
    dsimp only
    rw [decide_eq_true (show y = y from rfl), cond_true, cond_true, decide_eq_true (show (0 : Int) = 0 from rfl), cond_true]
    rfl
  · obtain ⟨g1, g2, g3⟩ := g
    have v := h0.1 g1
    have := v.t1
    have ht2 := v.t2
    obtain ⟨K, rfl⟩ : ∃ K : Nat, tk = (K : Int) := ⟨tk.toNat, by omega⟩
    obtain ⟨j, rfl⟩ : ∃ j : Nat, k = (j : Int) := ⟨k.toNat, by omega⟩
    have f22 := m22 (N := 100) v (k := j) (by omega) (by omega) (by omega)
    have f26 := m26 (N := 100) v (k := j) (by omega) (by omega) (by omega)
    have f25 : sf25 100 (loP st ph zo j) (hiP st ph zo j) = some (loP st ph zo j, hiP st ph zo j) := rfl
    have m0 := m51 (N := 100) v ⟨g2, g3⟩ (by omega) (by omega)
    have hin : sf24 100 (j : Int) (0 : Int) (K : Int) = some true := by rw [m24, decide_eq_true ⟨g2, g3⟩]
    rcases m52b (N := 100) (st := st) (tk := (K : Int)) (p := p) (w := w) (show ph.length < 100 by omega) (show zo.length < 100 by omega) (by omega) with ⟨a1, a2, a3, a4⟩ | ⟨a1, a2⟩
    · have T : TS st ph zo (K : Int) p w := ⟨v, a3, a4⟩
      have f20 := m20 (N := 100) T (k := j) (by omega) (by omega) (by omega)
      have f28 := m28 (N := 100) T (k := j) (by omega) (by omega) (by omega)
      rw [f20, bnd_ret, bnd_ret, f22, bnd_ret, f23, bnd_ret, decide_eq_true rfl, Bool.not_true, cond_false, decide_eq_true g1, cond_true, hin, bnd_ret, Bool.not_true, bnd_ret, cond_false, bnd_ret, g1]
      dsimp only
      simp only [decide_true, Bool.not_true, cond_true, cond_false, f26, f25, a2, f28, bnd_ret, beq_self_eq_true, Bool.and_true, sel_inr]
    · have f20 : sf20 100 st ph zo (K : Int) (j : Int) p w = some (0, 2) := by
        unfold sf20
        rw [m0, bnd_ret, decide_eq_true rfl, Bool.not_true, cond_false, a1, bnd_ret, Bool.not_false, cond_true]
      rw [f20, bnd_ret, bnd_ret, f22, bnd_ret, f23, bnd_ret, decide_eq_true rfl, Bool.not_true, cond_false, decide_eq_true g1, cond_true, hin, bnd_ret, Bool.not_true, bnd_ret, cond_false, bnd_ret, g1]
      dsimp only
      simp only [decide_true, Bool.not_true, Bool.not_false, cond_true, cond_false, f26, f25, a2, bnd_ret, beq_self_eq_true, Bool.and_true, sel_inr]
end Go.Hx.V

/- Layer 4: lines that are right; the law of P4.3. -/
namespace Go.Hx.V
open Go.Hx
set_option linter.unusedVariables false
set_option linter.unusedSimpArgs false
set_option maxRecDepth 20000
theorem m60 {N : Nat} {a : Int} : sf60 N a = some (decide (0 ≤ a ∧ a ≤ 5000)) := by
  unfold sf60
  by_cases h : 0 ≤ a <;> simp [h]
theorem m96 {N : Nat} {a b : Int} (hN : 2 < N) : sf96 N a [b] = some (max a b) := by
  obtain ⟨M, rfl⟩ : ∃ M, N = M + 2 := ⟨N - 2, by omega⟩
  have s0 : sf96_L1 [b] (a, (0 : Int)) = some (.inl (max a b, (1 : Int))) := by
    have q : rng ((0 : Int) + 1) := by unfold rng; omega
    unfold sf96_L1
    dsimp only
    rw [decide_eq_true (show (0 : Int) < (([b] : List Int).length : Int) by show (0 : Int) < 1; omega), cond_true, ix_0 (show [b][0]? = some b from rfl)]
    by_cases c : a < b
    · rw [decide_eq_true c, cond_true, ck_pos q, show max a b = b by omega]; rfl
    · rw [decide_eq_false c, cond_false, ck_pos q, show max a b = a by omega]; rfl
  have s1 : sf96_L1 [b] (max a b, (1 : Int)) = some (.inr (max a b)) := by
    unfold sf96_L1
    rw [decide_eq_false (show ¬ (max a b, (1 : Int)).2 < (([b] : List Int).length : Int) by show ¬ (1 : Int) < 1; omega), cond_false]
  unfold sf96 iter
  rw [s0]
  show bnd (iter (sf96_L1 [b]) (M + 1) (max a b, (1 : Int))) _ = _
  unfold iter
  rw [s1]
  rfl
/-- What the reference says that a line needs. -/
def nd (st : Int) (ph : Ph) (zo : Zo) (m : Int) (k : Nat) : Int := max (max (m - loP st ph zo k) (hiP st ph zo k - m)) 0
theorem m34 {N : Nat} {st tk m : Int} {k : Nat} {ph : Ph} {zo : Zo} (v : VS st ph zo tk) (hk : (k : Int) ≤ tk) (hm : 0 ≤ m ∧ m ≤ 5000) (hN : 70 < N) (hl : N < 1000000000) : sf34 N st ph zo tk (k : Int) m = some (nd st ph zo m k) := by
  have b1 := (lows v).bd k
  have b2 := (highs v).bd k
  have ht2 := v.t2
  have q1 : rng (m - loP st ph zo k) := by unfold rng loP; omega
  have q2 : rng (hiP st ph zo k - m) := by unfold rng hiP; omega
  unfold sf34
  rw [m26 v hk hN hl, bnd_ret]
  dsimp only
  rw [ck_pos q1, ck_pos q2]
  rfl
theorem m59 {N : Nat} {st m : Int} {k K : Nat} {ph : Ph} {zo : Zo} (v : VS st ph zo (K : Int)) (hk : k ≤ K) (hm : 0 ≤ m ∧ m ≤ 5000) {a : Int} {b : Ph} {c : Zo} {d : Int} : sf59 N a b c d (pls st ph.length zo (ph.map (·.1)) (zo.map (·.2.1)) K) (pls st ph.length zo (ph.map (·.2)) (zo.map (·.2.2)) K) m (k : Int) = some (loP st ph zo k - m, hiP st ph zo k - m) := by
  have b1 := (lows v).bd k
  have b2 := (highs v).bd k
  have ht2 := v.t2
  have q1 : rng (loP st ph zo k - m) := by unfold rng loP; omega
  have q2 : rng (hiP st ph zo k - m) := by unfold rng hiP; omega
  unfold sf59
  rw [m55 hk, bnd_ret]
  dsimp only
  rw [ck_pos q1, ck_pos q2]
theorem m73 {N : Nat} {st m s : Int} {k K : Nat} {ph : Ph} {zo : Zo} (v : VS st ph zo (K : Int)) (hk : k ≤ K) (hm : 0 ≤ m ∧ m ≤ 5000) (hs : 0 ≤ s) (hN : 70 < N) {a : Int} {b : Ph} {c : Zo} {d : Int} : sf73 N a b c d (pls st ph.length zo (ph.map (·.1)) (zo.map (·.2.1)) K) (pls st ph.length zo (ph.map (·.2)) (zo.map (·.2.2)) K) s m (k : Int) = some (decide (nd st ph zo m k ≤ s)) := by
  have b1 := (lows v).bd k
  have ht2 := v.t2
  have q1 : rng (-(loP st ph zo k - m)) := by unfold rng loP; omega
  unfold sf73
  rw [m59 v hk hm, bnd_ret]
  dsimp only
  rw [ck_pos q1, m96 (by omega), bnd_ret]
  refine sd ?_
  unfold nd
  omega
/-- The ticks that are right for a line. -/
def rl (st : Int) (ph : Ph) (zo : Zo) (m s : Int) : Nat → List Int
  | 0 => []
  | j + 1 => bif decide (nd st ph zo m j ≤ s) then rl st ph zo m s j ++ [(j : Int)] else rl st ph zo m s j
theorem rl_succ {st : Int} {ph : Ph} {zo : Zo} {m s : Int} {j : Nat} : rl st ph zo m s (j + 1) = bif decide (nd st ph zo m j ≤ s) then rl st ph zo m s j ++ [(j : Int)] else rl st ph zo m s j := rfl
theorem rl_len {st : Int} {ph : Ph} {zo : Zo} {m s : Int} : ∀ j, (rl st ph zo m s j).length ≤ j
  | 0 => Nat.le_refl _
  | j + 1 => by
    have := rl_len (st := st) (ph := ph) (zo := zo) (m := m) (s := s) j
    unfold rl
    cases decide (nd st ph zo m j ≤ s)
    · rw [cond_false]; omega
    · rw [cond_true, List.length_append, List.length_singleton]; omega
theorem m65 {N : Nat} {st m s : Int} {K : Nat} {ph : Ph} {zo : Zo} (v : VS st ph zo (K : Int)) (hm : 0 ≤ m ∧ m ≤ 5000) (hs : 0 ≤ s) (hN : 70 < N) (hl : N < 1000000000) : sf65 N st ph zo (K : Int) (pls st ph.length zo (ph.map (·.1)) (zo.map (·.2.1)) K) (pls st ph.length zo (ph.map (·.2)) (zo.map (·.2.2)) K) s m = some (rl st ph zo m s (K + 1)) := by
  have ht2 := v.t2
  have q0 : rng ((K : Int) + 1) := by unfold rng; omega
  unfold sf65
  rw [ck_pos q0, iter_up (x := (([] : List Int), (0 : Int))) (fun j => (rl st ph zo m s j, (j : Int))) (K + 1) (rl st ph zo m s (K + 1)) rfl (fun j hj => ?_) ?_ (by omega), bnd_ret]
  · unfold sf65_L1
    dsimp only
    rw [decide_eq_false (show ¬ ((K + 1 : Nat) : Int) < (K : Int) + 1 by omega), cond_false]
  · have q3 : rng ((j : Int) + 1) := by unfold rng; omega
    have hlen := rl_len (st := st) (ph := ph) (zo := zo) (m := m) (s := s) j
    unfold sf65_L1
    dsimp only
    rw [decide_eq_true (show (j : Int) < (K : Int) + 1 by omega), cond_true, m73 v (by omega) hm hs hN, bnd_ret]
    rw [rl_succ]
    cases decide (nd st ph zo m j ≤ s)
    · rw [cond_false, cond_false, ck_pos q3]; rfl
    · rw [cond_true, cond_true, ck_pos (by omega), ck_pos q3]; rfl
theorem m36 {N : Nat} {st m s : Int} {K : Nat} {ph : Ph} {zo : Zo} (v : VS st ph zo (K : Int)) (hm : 0 ≤ m ∧ m ≤ 5000) (hN : 70 < N) (hl : N < 1000000000) : sf36 N st ph zo (K : Int) m s = some (rl st ph zo m s (K + 1)) := by
  have ht2 := v.t2
  unfold sf36
  rw [iter_up (x := (([] : List Int), (0 : Int))) (fun j => (rl st ph zo m s j, (j : Int))) (K + 1) (rl st ph zo m s (K + 1)) rfl (fun j hj => ?_) ?_ (by omega), bnd_ret]
  · unfold sf36_L1
    dsimp only
    rw [decide_eq_false (show ¬ ((K + 1 : Nat) : Int) ≤ (K : Int) by omega), cond_false]
  · have q3 : rng ((j : Int) + 1) := by unfold rng; omega
    have hlen := rl_len (st := st) (ph := ph) (zo := zo) (m := m) (s := s) j
    unfold sf36_L1
    dsimp only
    rw [decide_eq_true (show (j : Int) ≤ (K : Int) by omega), cond_true, m34 v (by omega) hm hN hl, bnd_ret]
    rw [rl_succ]
    cases decide (nd st ph zo m j ≤ s)
    · rw [cond_false, cond_false, ck_pos q3]; rfl
    · rw [cond_true, cond_true, ck_pos (by omega), ck_pos q3]; rfl
theorem m37 {N : Nat} {l : List Int} (hN : l.length < N) (hl : N < 1000000000) : sf37 N l l = some true := by
  unfold sf37
  rw [decide_eq_true rfl, Bool.not_true, cond_false]
  rw [iter_up (x := (0 : Int)) (fun j => (j : Int)) l.length (.inr ()) rfl (fun j hj => ?_) ?_ hN, bnd_ret, sel_inr]
  · unfold sf37_L1
    rw [decide_eq_false (show ¬ (l.length : Int) < (l.length : Int) by omega), cond_false]
  · obtain ⟨x, hx⟩ : ∃ x, l[j]? = some x := ⟨_, lt_some hj⟩
    have q3 : rng ((j : Int) + 1) := by unfold rng; omega
    unfold sf37_L1
    rw [decide_eq_true (show (j : Int) < (l.length : Int) by omega), cond_true, ix_at rfl hx, ix_at rfl hx, decide_eq_true rfl, Bool.not_true, cond_false, ck_pos q3]; rfl
/-- The reference's error of a screw is the program's. -/
theorem faults {st tk : Int} {ph : Ph} {zo : Zo} (h1 : ph.length < 100) (h2 : zo.length < 100) : ∃ e, sf23 100 st ph zo tk = some e ∧ sf18 100 st ph zo tk = some e ∧ (e = 0 ↔ VS st ph zo tk) ∧ (e = 0 ∨ e = 1 ∨ e = 3) := by
  obtain ⟨e, he, h0, h1, h3⟩ := m56 (N := 100) (st := st) (tk := tk) (ph := ph) (zo := zo) (by omega) (by omega) (by omega)
  obtain ⟨e', he', h0', h1', h3'⟩ := m18 (N := 100) (st := st) (tk := tk) (ph := ph) (zo := zo) (by omega) (by omega) (by omega)
  have ee : e' = e := by
    have z : e' = 0 ↔ e = 0 := h0'.trans h0.symm
    have t : e' = 3 ↔ e = 3 := h1'.trans h1.symm
    rcases h3 with h | h | h <;> rcases h3' with h' | h' | h' <;> subst h <;> subst h'
    · rfl
    · exact absurd (z.2 rfl) (by decide)
    · exact absurd (z.2 rfl) (by decide)
    · exact absurd (z.1 rfl) (by decide)
    · rfl
    · exact absurd (t.1 rfl) (by decide)
    · exact absurd (z.1 rfl) (by decide)
    · exact absurd (t.2 rfl) (by decide)
    · rfl
  subst ee
  exact ⟨e', by unfold sf23; rw [bndid, he], he', h0, h3⟩
/-- The law of P4.5. -/
theorem law5 {st tk m s : Int} {ph : Ph} {zo : Zo} : sf5 100 st ph zo tk m s = some true := by
  unfold sf5
  rw [m16, bnd_ret]
  by_cases c : ph.length ≤ 11 ∧ zo.length ≤ 6 ∧ ([] : List Int).length ≤ 13 ∧ ([] : List Int).length ≤ 13
  rotate_left
  · rw [decide_eq_false c, Bool.not_false, cond_true]
  rw [decide_eq_true c, Bool.not_true, cond_false]
  obtain ⟨e, f23, f18, h0, h3⟩ := faults (st := st) (tk := tk) (show ph.length < 100 by omega) (show zo.length < 100 by omega)
  have f19 : sf19 100 st ph zo tk = some (st, ph, zo, tk) := m19 (by omega) (by omega) (by omega)
  rw [f19, bnd_ret, f23]
  dsimp only
  -- an error
  have err : ∀ y : Int, y ≠ 0 → sf35 100 st ph zo tk m s = some ([], y) → bnd (bif (decide (e = (0 : Int))) then (bnd (sf24 100 m (0 : Int) (5000 : Int)) fun v62 => (bif (!v62) then some true else (bnd (sf24 100 s (0 : Int) (5000 : Int)) fun v66 => some (!v66)))) else some false) (fun y57 => (bif y57 then some (2 : Int) else some e)) = some y →
      (bnd (sf35 100 st ph zo tk m s) fun v14 => (bnd (some e) fun v19 => bnd (bnd ((bif (decide (v19 = (0 : Int))) then (bnd (sf24 100 m (0 : Int) (5000 : Int)) fun v62 => (bif (!v62) then some true else (bnd (sf24 100 s (0 : Int) (5000 : Int)) fun v66 => some (!v66)))) else some false) : Option (Bool)) (fun y57 => (bif y57 then some (2 : Int) else some v19)) : Option (Int)) (fun y45 => bnd ((bif (decide (y45 = (0 : Int))) then (bnd (sf36 100 st ph zo tk m s) fun v89 => (bif (decide (((v89).length : Int) = (0 : Int))) then some ((7 : Int), v89) else some (y45, v89))) else some (y45, [])) : Option ((Int × (List Int)))) (fun y83 => (bif (decide (v14.2 = y83.1)) then (bnd (sf37 100 v14.1 y83.2) fun v101 => (bif v101 then some true else some false)) else some false))))) = some true := fun y hy0 h35 hy => by
    rw [h35, bnd_ret, bnd_ret, hy, bnd_ret, decide_eq_false hy0, cond_false, bnd_ret]
    dsimp only
    rw [decide_eq_true (show y = y from rfl), cond_true, m37 (l := []) (by show 0 < 100; omega) (by omega), bnd_ret, cond_true]
  by_cases c0 : e = 0
  rotate_left
  · refine err e c0 ?_ ?_
    · unfold sf35
      rw [f18, bnd_ret, decide_eq_false c0, Bool.not_false, cond_true]
    · rw [decide_eq_false c0, cond_false, bnd_ret, cond_false]
  by_cases c1 : 0 ≤ m ∧ m ≤ 5000
  rotate_left
  · refine err 2 (by decide) ?_ ?_
    · unfold sf35
      rw [f18, bnd_ret, decide_eq_true c0, Bool.not_true, cond_false, m60, bnd_ret, decide_eq_false c1, Bool.not_false, cond_true, bnd_ret, cond_true, bnd_ret, sel_inl]
    · rw [decide_eq_true c0, cond_true, m24, bnd_ret, decide_eq_false c1, Bool.not_false, cond_true, bnd_ret, cond_true]
  by_cases c2 : 0 ≤ s ∧ s ≤ 5000
  rotate_left
  · refine err 2 (by decide) ?_ ?_
    · unfold sf35
      rw [f18, bnd_ret, decide_eq_true c0, Bool.not_true, cond_false, m60, bnd_ret, decide_eq_true c1, Bool.not_true, cond_false, m60, bnd_ret, decide_eq_false c2, Bool.not_false, bnd_ret, cond_true, bnd_ret, sel_inl]
    · rw [decide_eq_true c0, cond_true, m24, bnd_ret, decide_eq_true c1, Bool.not_true, cond_false, m24, bnd_ret, decide_eq_false c2, Bool.not_false, bnd_ret, cond_true]
  have v := h0.1 c0
  have := v.t1
  have ht2 := v.t2
  obtain ⟨K, rfl⟩ : ∃ K : Nat, tk = (K : Int) := ⟨tk.toNat, by omega⟩
  have hlen := rl_len (st := st) (ph := ph) (zo := zo) (m := m) (s := s) (K + 1)
  have f35 : sf35 100 st ph zo (K : Int) m s = bif (decide (((rl st ph zo m s (K + 1)).length : Int) = (0 : Int))) then some ([], (7 : Int)) else some (rl st ph zo m s (K + 1), (0 : Int)) := by
    unfold sf35 sf62
    rw [f18, bnd_ret, decide_eq_true c0, Bool.not_true, cond_false, m60, bnd_ret, decide_eq_true c1, Bool.not_true, cond_false, m60, bnd_ret, decide_eq_true c2, Bool.not_true, bnd_ret, cond_false, bnd_ret, sel_inr, m54 v (by omega) (by omega), bnd_ret, bnd_ret]
    dsimp only
    rw [m65 v c1 c2.1 (by omega) (by omega), bnd_ret]
  have hy : bnd (bif (decide (e = (0 : Int))) then (bnd (sf24 100 m (0 : Int) (5000 : Int)) fun v62 => (bif (!v62) then some true else (bnd (sf24 100 s (0 : Int) (5000 : Int)) fun v66 => some (!v66)))) else some false) (fun y57 => (bif y57 then some (2 : Int) else some e)) = some 0 := by
    rw [decide_eq_true c0, cond_true, m24, bnd_ret, decide_eq_true c1, Bool.not_true, cond_false, m24, bnd_ret, decide_eq_true c2, Bool.not_true, bnd_ret, cond_false, c0]
  have f36 := m36 (N := 100) (m := m) (s := s) v c1 (by omega) (by omega)
  generalize rl st ph zo m s (K + 1) = l at hlen f35 f36
  rw [f35]
  by_cases c3 : (l.length : Int) = 0
  · rw [decide_eq_true c3, cond_true, bnd_ret, bnd_ret, hy, bnd_ret, decide_eq_true (show (0 : Int) = 0 from rfl), cond_true, f36, bnd_ret, decide_eq_true c3, cond_true, bnd_ret]
    have e0 : l = [] := List.length_eq_zero_iff.1 (by omega)
    rw [e0]
    dsimp only
    rw [decide_eq_true (show (7 : Int) = 7 from rfl), cond_true, m37 (l := []) (by show 0 < 100; omega) (by omega), bnd_ret, cond_true]
  · rw [decide_eq_false c3, cond_false, bnd_ret, bnd_ret, hy, bnd_ret, decide_eq_true (show (0 : Int) = 0 from rfl), cond_true, f36, bnd_ret, decide_eq_false c3, cond_false, bnd_ret]
    dsimp only
    rw [decide_eq_true (show (0 : Int) = 0 from rfl), cond_true, m37 (l := l) (by omega) (by omega), bnd_ret, cond_true]
end Go.Hx.V

/- Layer 4: each place is between the least and the greatest; the law of P4.7. -/
namespace Go.Hx.V
open Go.Hx
set_option linter.unusedVariables false
set_option linter.unusedSimpArgs false
set_option maxRecDepth 20000
theorem stp_mid {st tk : Int} {ph : Ph} {zo : Zo} {p w : List Int} (h : TS st ph zo tk p w) (t : Nat) : stp st ph.length zo (ph.map (·.1)) (zo.map (·.2.1)) t ≤ stp st ph.length zo p w t ∧ stp st ph.length zo p w t ≤ stp st ph.length zo (ph.map (·.2)) (zo.map (·.2.2)) t := by
  have hm := Nat.mod_lt t h.v.pn
  have hz : zn zo (t : Int) < zo.length := znf_lt h.v.zn _ (Nat.le_refl _)
  obtain ⟨r, hr⟩ : ∃ r, ph[t % ph.length]? = some r := ⟨_, lt_some hm⟩
  obtain ⟨z, hz2⟩ : ∃ z, zo[zn zo (t : Int)]? = some z := ⟨_, lt_some hz⟩
  obtain ⟨x, hx⟩ : ∃ x, p[t % ph.length]? = some x := ⟨_, lt_some (by rw [h.tp.1]; exact hm)⟩
  obtain ⟨y, hy⟩ : ∃ y, w[zn zo (t : Int)]? = some y := ⟨_, lt_some (by rw [h.tw.1, List.length_map]; exact hz)⟩
  have b1 := h.tp.2 _ _ _ hr hx
  have b2 := h.tw.2 _ z.2 _ (by unfold wr; rw [List.getElem?_map, hz2]; rfl) hy
  unfold stp
  rw [List.getElem?_map, List.getElem?_map, List.getElem?_map, List.getElem?_map, hr, hz2, hx, hy]
  show st + r.1 + z.2.1 ≤ st + x + y ∧ st + x + y ≤ st + r.2 + z.2.2
  omega
theorem plc_mid {st tk : Int} {ph : Ph} {zo : Zo} {p w : List Int} (h : TS st ph zo tk p w) : ∀ t : Nat, loP st ph zo t ≤ plc st ph.length zo p w t ∧ plc st ph.length zo p w t ≤ hiP st ph zo t
  | 0 => ⟨Int.le_refl _, Int.le_refl _⟩
  | t + 1 => by
    have a := plc_mid h t
    have b := stp_mid h t
    show loP st ph zo t + stp st ph.length zo (ph.map (·.1)) (zo.map (·.2.1)) t ≤ plc st ph.length zo p w t + stp st ph.length zo p w t ∧ plc st ph.length zo p w t + stp st ph.length zo p w t ≤ hiP st ph zo t + stp st ph.length zo (ph.map (·.2)) (zo.map (·.2.2)) t
    omega
theorem law9 {st tk : Int} {ph : Ph} {zo : Zo} {ws : List Int} (hw : ∀ x ∈ ws, 0 ≤ x ∧ x < 65536) : sf9 100 st ph zo tk ws = some true := by
  unfold sf9
  rw [m16, bnd_ret]
  by_cases c : ph.length ≤ 11 ∧ zo.length ≤ 6 ∧ ([] : List Int).length ≤ 13 ∧ ([] : List Int).length ≤ 13
  rotate_left
  · rw [decide_eq_false c, Bool.not_false, cond_true, bnd_ret, cond_true, bnd_ret]; rfl
  rw [decide_eq_true c, Bool.not_true, cond_false]
  obtain ⟨e, f23, f18, h0, h3⟩ := faults (st := st) (tk := tk) (show ph.length < 100 by omega) (show zo.length < 100 by omega)
  rw [f23, bnd_ret]
  by_cases c0 : e = 0
  rotate_left
  · rw [decide_eq_false c0, Bool.not_false, bnd_ret, cond_true, bnd_ret]; rfl
  rw [decide_eq_true c0, Bool.not_true, bnd_ret, cond_false, bnd_ret, sel_inr]
  have v := h0.1 c0
  have := v.t1
  have ht2 := v.t2
  obtain ⟨K, rfl⟩ : ∃ K : Nat, tk = (K : Int) := ⟨tk.toNat, by omega⟩
  have T := truth v hw
  have zs : ∀ (i : Nat) z, zo[i]? = some z → zsp z := v.zs
  have f44 := m44 (N := 100) (st := st) (tk := (K : Int)) hw v.ps zs (by omega) (by omega) (by omega)
  have lp : (pkl ph ws 0).length = ph.length := T.tp.1
  have lw : (pkl (wr zo) ws 9).length = zo.length := by rw [T.tw.1, List.length_map]
  generalize hp : pkl ph ws 0 = p at T lp f44
  generalize hw2 : pkl (wr zo) ws 9 = w at T lw f44
  have f19 : sf19 100 st ph zo (K : Int) = some (st, ph, zo, (K : Int)) := m19 (by omega) (by omega) (by omega)
  have f21 : sf21 100 p w = some (p, w) := m21 (by omega) (by omega)
  have f45l : sf45 100 st ph zo (K : Int) false = some (ph.map (·.1), zo.map (·.2.1)) := m45 (by omega) (by omega) (by omega)
  have f45h : sf45 100 st ph zo (K : Int) true = some (ph.map (·.2), zo.map (·.2.2)) := m45 (by omega) (by omega) (by omega)
  have f21l : sf21 100 (ph.map (·.1)) (zo.map (·.2.1)) = some (ph.map (·.1), zo.map (·.2.1)) := m21 (by rw [List.length_map]; omega) (by rw [List.length_map]; omega)
  have f21h : sf21 100 (ph.map (·.2)) (zo.map (·.2.2)) = some (ph.map (·.2), zo.map (·.2.2)) := m21 (by rw [List.length_map]; omega) (by rw [List.length_map]; omega)
  rw [iter_up (x := (0 : Int)) (fun j => (j : Int)) (K + 1) (.inr ()) rfl (fun j hj => ?_) ?_ (by omega), bnd_ret, sel_inr]
  · unfold sf9_L1
    rw [decide_eq_false (show ¬ ((K + 1 : Nat) : Int) ≤ (K : Int) by omega), cond_false]
  · have q3 : rng ((j : Int) + 1) := by unfold rng; omega
    have f22 := m22 (N := 100) v (k := j) (by omega) (by omega) (by omega)
    have g1 := m20 (N := 100) (lows v) (k := j) (by omega) (by omega) (by omega)
    have g2 := m20 (N := 100) (highs v) (k := j) (by omega) (by omega) (by omega)
    have g3 := m20 (N := 100) T (k := j) (by omega) (by omega) (by omega)
    have b := plc_mid T j
    have f33 : sf33 100 (loP st ph zo j) (hiP st ph zo j) = some (loP st ph zo j, hiP st ph zo j) := rfl
    unfold sf9_L1
    rw [decide_eq_true (show (j : Int) ≤ (K : Int) by omega), cond_true]
    simp only [f19, f45l, f45h, f21l, f21h, f44, f21, f22, bnd_ret, g1, g2, g3, decide_true, Bool.not_true, cond_false, f33, beq_self_eq_true, Bool.and_true]
    rw [decide_eq_false (show ¬ plc st ph.length zo p w j < loP st ph zo j by omega), cond_false, decide_eq_false (show ¬ hiP st ph zo j < plc st ph.length zo p w j by omega), bnd_ret, cond_false, ck_pos q3]
    rfl
end Go.Hx.V

/- The plain machine once more, as closures: what the kernel can reckon fast. This file: the machine. -/
namespace Go.Hx
noncomputable section

/-- Where a run goes on: temporaries, marks, blocks, the next number. -/
abbrev Kt := Tr HV → List Nat → Tr HBlk → Nat → Option (HV × HS)
/-- Where an operation's value goes. -/
abbrev Kv := HV → Tr HBlk → Nat → Option (HV × HS)
/-- Operations: the floor, temporaries, blocks, the next number, and where the value goes. -/
abbrev Ko := Nat → Tr HV → Tr HBlk → Nat → Kv → Option (HV × HS)
/-- Codes: the floor, the round, and where they go: behind, out of a block, out of the function. -/
abbrev Kc := Nat → Option Nat → Kt → (Nat → Kt) → Kt → Kt
/-- Functions. -/
abbrev Kf := Nat → List HV → Tr HBlk → Nat → Kv → Option (HV × HS)

def Pa.tmp (p : Pa) (a : Tr HV) : HV := Option.rec (motive := fun _ => HV) .undef (fun v => v) (Tr.getP p a)
/-- A closure that is made once: the kernel keeps what a closed term comes to. -/
inductive Bx (α : Type) where
  | mk (f : α)
def Bx.run {α : Type} (b : Bx α) : α := Bx.rec (motive := fun _ => α) (fun f => f) b
def Bx.then {α β : Type} (b : Bx α) (g : α → Bx β) : Bx β := Bx.rec (motive := fun _ => Bx β) g b
/-- A road, made once. -/
def Pa.then {β : Type} (p : Pa) (g : Pa → Bx β) : Bx β := Pa.rec (motive := fun _ => Bx β) (g .z) (fun q _ => g (.a q)) (fun q _ => g (.b q)) (fun q _ => g (.c q)) (fun q _ => g (.d q)) p
def evK (x : Lo) : Bx (Tr HV → HV) :=
  match x with
  | .t n => .mk (Pa.tmp (pa n))
  | .c v => .mk (fun _ => v)
def evL (x : Lo) (a : Tr HV) : HV := (evK x).run a
/-- All that is not served by itself. -/
def slowK (lp : Nat → Option LFunc) (nt : Nat) (o : LOp) : Ko := fun fl a h nx k =>
  match opH lp (exec lp 0) fl o ⟨nt, a, []⟩ ⟨h, nx⟩ with
  | some (v, σ) => k v σ.h σ.nx
  | none => none
def callK (fn : Nat → Bx Kf) (ro : Nat → Nat → List HV → Tr HBlk → Nat → Kv → Option (HV × HS)) (f : Tr HV → HV) (xs : List Lo) : Ko := fun fl a h nx k =>
  match f a with
  | .func g first captured => (fn g).run fl (first ++ xs.map (fun x => evL x a) ++ captured) h nx k
  | .yield l => ro fl l (xs.map fun x => evL x a) h nx k
  | _ => none
def binK (g : IntKind → Int → Int → Option HV) (x y : HV) (h : Tr HBlk) (nx : Nat) (k : Kv) : Option (HV × HS) :=
  match x, y with
  | .int k1 m, .int k2 n => bif sameK k1 k2 then (match g k1 m n with | some v => k v h nx | none => none) else none
  | _, _ => none
def addrK (off : Nat) (x : HV) (h : Tr HBlk) (nx : Nat) (k : Kv) : Option (HV × HS) :=
  match x with
  | .ptr (some (b, o)) => k (.ptr (some (b, Nat.add o off))) h nx
  | _ => none
def idxK (len size : Nat) (x i : HV) (h : Tr HBlk) (nx : Nat) (k : Kv) : Option (HV × HS) :=
  match x, i with
  | .ptr (some (b, o)), .int _ (.ofNat i) => bif Nat.blt i len then k (.ptr (some (b, Nat.add o (Nat.mul i size)))) h nx else none
  | _, _ => none
def nilK (x : HV) (h : Tr HBlk) (nx : Nat) (k : Kv) : Option (HV × HS) :=
  match x with
  | .ptr (some p) => k (.ptr (some p)) h nx
  | .func f first captured => k (.func f first captured) h nx
  | _ => none
def nthK (i : Nat) : List HV → Option HV :=
  Nat.rec (motive := fun _ => List HV → Option HV) (fun l => List.rec (motive := fun _ => Option HV) none (fun v _ _ => some v) l) (fun _ ih l => List.rec (motive := fun _ => Option HV) none (fun _ t _ => ih t) l) i
def setR (i : Nat) (v : HV) : List HV → List HV :=
  Nat.rec (motive := fun _ => List HV → List HV) (fun l => List.rec (motive := fun _ => List HV) [] (fun _ t _ => v :: t) l) (fun _ ih l => List.rec (motive := fun _ => List HV) [] (fun x t _ => x :: ih t) l) i
def loadK (x : HV) (h : Tr HBlk) (nx : Nat) (k : Kv) : Option (HV × HS) :=
  match x with
  | .ptr (some (b, o)) =>
    match h.get b with
    | some (.cells cs _) =>
      match nthK o cs with
      | some v => k v h nx
      | none => none
    | _ => none
  | _ => none
def wrOk : BK → Bool
  | .ro => false
  | _ => true
def storeK (fl : Nat) (x v : HV) (h : Tr HBlk) (nx : Nat) (k : Kv) : Option (HV × HS) :=
  match x with
  | .ptr (some (b, o)) =>
    match h.get b with
    | some (.cells cs bk) =>
      bif Nat.ble fl b && v.one && wrOk bk then
        match nthK o cs with
        | some _ => k .undef (h.set b (some (.cells (setR o v cs) bk))) nx
        | none => none
      else none
    | _ => none
  | _ => none
def compOp (lp : Nat → Option LFunc) (fn : Nat → Bx Kf) (ro : Nat → Nat → List HV → Tr HBlk → Nat → Kv → Option (HV × HS)) (nt : Nat) (o : LOp) : Bx Ko :=
  match o with
  | .move x => (evK x).then fun e => .mk fun _ a h nx k => k (e a) h nx
  | .bin op x y => (evK x).then fun e => (evK y).then fun f => .mk fun _ a h nx k => binK (bif isShift op then shiftH op else intFast op) (e a) (f a) h nx k
  | .fieldAddr off x => (evK x).then fun e => .mk fun _ a h nx k => addrK off (e a) h nx k
  | .indexAddrA len size x i => (evK x).then fun e => (evK i).then fun f => .mk fun _ a h nx k => idxK len size (e a) (f a) h nx k
  | .nilCheck x => (evK x).then fun e => .mk fun _ a h nx k => nilK (e a) h nx k
  | .load false 1 x => (evK x).then fun e => .mk fun _ a h nx k => loadK (e a) h nx k
  | .store 1 x v => (evK x).then fun e => (evK v).then fun f => .mk fun fl a h nx k => bif (f a).one then storeK fl (e a) (f a) h nx k else slowK lp nt (.store 1 x v) fl a h nx k
  | .call f xs => (evK f).then fun e => .mk (callK fn ro e xs)
  | o => .mk (slowK lp nt o)
def putK (nt : Nat) (dst : Option Nat) : Bx (Tr HV → HV → Tr HV) :=
  match dst with
  | none => .mk fun a _ => a
  | some d => bif Nat.blt d nt then (pa d).then fun p => .mk (fun a v => Tr.setP (some v) p a) else .mk fun a _ => a
def isB (want : Bool) : HV → Bool
  | .bool b => b == want
  | _ => false
def guardK (g : Option (Nat × Bool)) (o : Bx Ko) : Bx Ko :=
  match g with
  | none => o
  | some (t, want) => (evK (.t t)).then fun e => o.then fun o => .mk fun fl a h nx k =>
      bif isB want (e a) then o fl a h nx k else k .undef h nx
def compOps (op : LOp → Bx Ko) (nt : Nat) : List LOper → Bx (Nat → Kt → Kt)
  | [] => .mk fun _ k => k
  | o :: os => (guardK o.g (op o.op)).then fun f => (putK nt o.dst).then fun p => (compOps op nt os).then fun r => .mk fun fl k a ds h nx => f fl a h nx fun v h nx => r fl k (p a v) ds h nx
def drawK (op : LOp → Bx Ko) (nt s : Nat) : List LOper → Bx (Nat → Nat → Nat → Tr HBlk → List (Nat × List (Nat × HBlk)) → Kt → Tr HV → List Nat → Nat → Option (HV × HS))
  | [] => .mk fun _ _ _ h0 done k a ds nx => k a ds (merge h0 none done) nx
  | o :: os => (guardK o.g (op o.op)).then fun f => (putK nt o.dst).then fun p => (drawK op nt s os).then fun r => (compOps op nt (o :: os)).then fun q => .mk fun fl n0 i h0 done k a ds nx =>
      bif Nat.blt i s then
        bif o.anc.contains i then
          f n0 a (merge h0 (some o.anc) done) nx fun v h nx' => bif Nat.ble nx nx' then r fl n0 (Nat.succ i) h0 ((i, newFrom h n0 (Nat.sub nx' n0)) :: dropAll o.anc done) k (p a v) ds nx' else none
        else
          f nx a (merge h0 (some o.anc) done) nx fun v h nx' => bif Nat.ble nx nx' then r fl n0 (Nat.succ i) h0 (bif Nat.beq nx nx' then done else (i, newFrom h nx (Nat.sub nx' nx)) :: done) k (p a v) ds nx' else none
      else q fl k a ds (merge h0 none done) nx
/-- The loop's record, by its parts. -/
def loopK (b : Option HBlk) (k : LState → HExit → Nat → Tr HV → List Nat → LCode → LCode → Nat → Option (HV × HS)) : Option (HV × HS) :=
  match b with
  | some (.loop ⟨st, pe, nt, tm, ps, asg, bo, mk⟩) => k st pe nt tm ps asg bo mk
  | _ => none
def marksK (rd : Option Nat) (h : Tr HBlk) (nx : Nat) (k : Nat → List Nat → Tr HBlk → Nat → Option (HV × HS)) : Option (HV × HS) :=
  match rd with
  | none => k nx [nx] (h.set nx (some .marks)) (Nat.succ nx)
  | some l => loopK (h.get l) fun _ _ _ _ _ _ _ mk => k mk [] h nx
def notBusy : LState → Bool
  | .busy => false
  | _ => true
def isReady : LState → Bool
  | .ready => true
  | _ => false
def jumpK (e : HExit) (kn : Kt) (kx : Nat → Kt) (kr : Kt) : Kt :=
  match e with
  | .normal => kn
  | .exit i => kx i
  | .ret => kr
def rangeK (fn : Nat → Bx Kf) (nt : Nat) (e : Tr HV → HV) (ps : List Nat) (assign body : LCode) : Kc := fun fl rd kn kx kr a ds h nx =>
  match e a with
  | .func g first captured =>
    marksK rd h nx fun mk ms h1 n1 =>
      (fn g).run fl (first ++ [.yield n1] ++ captured) (h1.set n1 (some (.loop ⟨.ready, .normal, nt, a, ps, assign, body, mk⟩))) (Nat.succ n1) fun _ h3 n3 =>
        loopK (h3.get n1) fun st pe nt' tm ps' asg bo mk' =>
          bif notBusy st && Nat.ble fl n1 then jumpK pe kn kx kr a (ms ++ ds) (h3.set n1 (some (.loop ⟨.exhausted, pe, nt', tm, ps', asg, bo, mk'⟩))) n3 else none
  | _ => none
def endK (l : Nat) (e : HExit) (k : Kv) (h : Tr HBlk) (nx : Nat) : Option (HV × HS) :=
  loopK (h.get l) fun _ _ nt tm ps asg bo mk =>
    match e with
    | .normal => k (.bool true) (h.set l (some (.loop ⟨.ready, .normal, nt, tm, ps, asg, bo, mk⟩))) nx
    | e => k (.bool false) (h.set l (some (.loop ⟨.done, e, nt, tm, ps, asg, bo, mk⟩))) nx
def roundK (co : Nat → LCode → Bx Kc) : Nat → Nat → List HV → Tr HBlk → Nat → Kv → Option (HV × HS) := fun fl l args h nx k =>
  loopK (h.get l) fun _ _ nt tm ps asg bo _ =>
    match zipPut nt tm ps args with
    | some tm1 =>
      (co nt asg).run fl (some l)
        (fun a1 ds1 h1 n1 => loopK (h1.get l) fun st pe nt' tm' ps' asg' bo' mk' =>
          bif isReady st && Nat.ble fl l then
            (co nt bo).run fl (some l) (fun _ _ => endK l .normal k) (fun i _ _ => endK l (.exit i) k) (fun _ _ => endK l .ret k) a1 ds1 (h1.set l (some (.loop ⟨.busy, pe, nt', tm', ps', asg', bo', mk'⟩))) n1
          else none)
        (fun _ _ _ _ _ => none) (fun _ _ _ _ => none) tm1 [] h nx
    | none => none
def comp (op : LOp → Bx Ko) (fn : Nat → Bx Kf) (nt : Nat) : LCode → Bx Kc
  | .skip => .mk fun _ _ kn _ _ => kn
  | .seq x y => (comp op fn nt x).then fun f => (comp op fn nt y).then fun g => .mk fun fl rd kn kx kr => f fl rd (g fl rd kn kx kr) kx kr
  | .cond c x y => (evK c).then fun e => (comp op fn nt x).then fun f => (comp op fn nt y).then fun g => .mk fun fl rd kn kx kr a ds h nx =>
      match e a with
      | .bool b => bif b then f fl rd kn kx kr a ds h nx else g fl rd kn kx kr a ds h nx
      | _ => none
  | .block id x => (comp op fn nt x).then fun f => .mk fun fl rd kn kx kr => f fl rd kn (fun i => bif Nat.beq i id then kn else kx i) kr
  | .loop x => (comp op fn nt x).then fun f => .mk fun fl rd _ kx kr => Nat.rec (motive := fun _ => Kt) (fun _ _ _ _ => none) (fun _ ih => f fl rd ih kx kr) 1000000
  | .scope x => comp op fn nt x
  | .exit id => .mk fun _ _ _ kx _ => kx id
  | .ret => .mk fun _ _ _ _ kr => kr
  | .reg ops => (compOps op nt ops).then fun f => .mk fun fl _ kn _ _ => f fl kn
  | .draw s ops => (drawK op nt s ops).then fun f => .mk fun fl _ kn _ _ a ds h nx => bif Nat.ble fl nx then f fl nx 0 h [] kn a ds nx else none
  | .rangeFunc f ps assign body => (evK f).then fun e => .mk (rangeK fn nt e ps assign body)
  | .bad => .mk fun _ _ _ _ _ _ _ _ _ => none
def leaveK (fl : Nat) (nt : Nat) (res : List LRes) (k : Kv) : Kt := fun a ds h nx =>
  match leaveH fl ⟨nt, a, ds⟩ res ⟨h, nx⟩ with
  | some (v, σ) => k v σ.h σ.nx
  | none => none
abbrev Kr := Nat → Nat → List HV → Tr HBlk → Nat → Kv → Option (HV × HS)
/-- Behind a call that wrote nothing of its caller's. -/
def gcK (h : Tr HBlk) (nx : Nat) (k : Kv) : Kv := fun v h' nx' => k v (keepD h' nx 5 [v] h) nx'
def specK (g : List HV → HS → Option (HV × HS)) : Kf := fun _ args h nx k =>
  match g args ⟨h, nx⟩ with
  | some (v, σ) => bif Nat.ble nx σ.nx then k v σ.h σ.nx else none
  | none => none
def enterK (lf : LFunc) (body : Kc) : Bx Kf :=
  bif lf.imp then .mk fun fl args h nx k => bif Nat.ble args.length lf.nt then body fl none (leaveK fl lf.nt lf.res k) (fun _ _ _ _ _ => none) (leaveK fl lf.nt lf.res k) (putAll .e 0 args) [] h nx else none
  else .mk fun _ args h nx k => bif Nat.ble args.length lf.nt then body nx none (leaveK nx lf.nt lf.res (gcK h nx k)) (fun _ _ _ _ _ => none) (leaveK nx lf.nt lf.res (gcK h nx k)) (putAll .e 0 args) [] h nx else none
/-- Functions and rounds, so deep. -/
def bothK (lp : Nat → Option LFunc) : Nat → (Nat → Bx Kf) × Kr
  | 0 => (fun _ => .mk fun _ _ _ _ _ => none, fun _ _ _ _ _ _ => none)
  | n + 1 =>
    (fun f =>
      match lp f with
      | none => .mk fun _ _ _ _ _ => none
      | some lf =>
        match lf.spec with
        | some g => .mk (specK g)
        | none => (comp (compOp lp (bothK lp n).1 (bothK lp n).2 lf.nt) (bothK lp n).1 lf.nt lf.body).then (enterK lf),
     roundK fun nt c => comp (compOp lp (bothK lp n).1 (bothK lp n).2 nt) (bothK lp n).1 nt c)
def fnK (lp : Nat → Option LFunc) (n : Nat) : Nat → Bx Kf := (bothK lp n).1
end
end Go.Hx

/- The plain machine as closures: where it comes to something, the plain machine comes to the same. -/
namespace Go.Hx
variable {lp : Nat → Option LFunc} {nt : Nat}

theorem run_mk {α : Type} (f : α) : (Bx.mk f).run = f := rfl
theorem then_eq {α β : Type} (b : Bx α) (g : α → Bx β) : b.then g = g b.run := by cases b; rfl
theorem pa_then {β : Type} (p : Pa) (g : Pa → Bx β) : p.then g = g p := by cases p <;> rfl
theorem tmp_eq (a : Tr HV) (ds : List Nat) (n : Nat) : (pa n).tmp a = (⟨nt, a, ds⟩ : HAct).tmp n := by
  show Option.rec (motive := fun _ => HV) HV.undef (fun v => v) (a.get n) = (a.get n).getD .undef
  cases a.get n <;> rfl
theorem ev_eq (x : Lo) (a : Tr HV) (ds : List Nat) : (evK x).run a = (⟨nt, a, ds⟩ : HAct).ev x := by
  cases x with
  | t n => exact tmp_eq a ds n
  | c v => rfl
theorem evs_eq (xs : List Lo) (a : Tr HV) (ds : List Nat) : (xs.map fun x => evL x a) = xs.map (⟨nt, a, ds⟩ : HAct).ev := by
  apply List.map_congr_left
  intro x _
  exact ev_eq x a ds

def KoOk (lp : Nat → Option LFunc) (nt : Nat) (G : Ko) (o : LOp) : Prop := ∀ fl a ds h nx (k : Kv) r, G fl a h nx k = some r → ∃ n v σ', opH lp (exec lp n) fl o ⟨nt, a, ds⟩ ⟨h, nx⟩ = some (v, σ') ∧ k v σ'.h σ'.nx = some r
def KosOk (lp : Nat → Option LFunc) (nt : Nat) (G : Nat → Kt → Kt) (os : List LOper) : Prop := ∀ fl (k : Kt) a ds h nx r, G fl k a ds h nx = some r → ∃ n a' σ', runOps lp (exec lp n) fl os ⟨nt, a, ds⟩ ⟨h, nx⟩ = some (a', σ') ∧ a'.nt = nt ∧ k a'.tmps a'.defers σ'.h σ'.nx = some r
def contK (e : HExit) (kn : Kt) (kx : Nat → Kt) (kr : Kt) (a : HAct) (σ : HS) : Option (HV × HS) :=
  match e with
  | .normal => kn a.tmps a.defers σ.h σ.nx
  | .exit i => kx i a.tmps a.defers σ.h σ.nx
  | .ret => kr a.tmps a.defers σ.h σ.nx
def KcOk (lp : Nat → Option LFunc) (nt : Nat) (F : Kc) (c : LCode) : Prop := ∀ fl rd kn kx kr a ds h nx r, F fl rd kn kx kr a ds h nx = some r → ∃ n e a' σ', exec lp n fl rd c ⟨nt, a, ds⟩ ⟨h, nx⟩ = some (e, a', σ') ∧ a'.nt = nt ∧ contK e kn kx kr a' σ' = some r
def KfOk (lp : Nat → Option LFunc) (F : Kf) (f : Nat) : Prop := ∀ fl args h nx (k : Kv) r, F fl args h nx k = some r → ∃ n v σ', callF lp (exec lp n) fl f args ⟨h, nx⟩ = some (v, σ') ∧ k v σ'.h σ'.nx = some r

def KrOk (lp : Nat → Option LFunc) (ro : Kr) : Prop := ∀ fl l args h nx (k : Kv) r, ro fl l args h nx k = some r → ∃ n v σ', roundH (exec lp n) fl l args ⟨h, nx⟩ = some (v, σ') ∧ k v σ'.h σ'.nx = some r
theorem slow_ok (o : LOp) : KoOk lp nt (slowK lp nt o) o := by
  intro fl a ds h nx k r hr
  unfold slowK at hr
  rw [op_congr (a := ⟨nt, a, []⟩) (b := ⟨nt, a, ds⟩) ⟨h, nx⟩ (fun _ _ => rfl)] at hr
  split at hr
  · rename_i v σ' ho; exact ⟨0, v, σ', ho, hr⟩
  · cases hr
theorem call_ok {fn : Nat → Bx Kf} {ro : Kr} (hfn : ∀ f, KfOk lp (fn f).run f) (hro : KrOk lp ro) (f : Lo) (xs : List Lo) : KoOk lp nt (callK fn ro (evK f).run xs) (.call f xs) := by
  intro fl a ds h nx k r hr
  unfold callK at hr
  rw [ev_eq (nt := nt) f a ds, evs_eq (nt := nt) xs a ds] at hr
  split at hr
  · rename_i g first captured hf
    obtain ⟨n, v, σ', h1, h2⟩ := hfn g _ _ _ _ _ _ hr
    refine ⟨n, v, σ', ?_, h2⟩
    show callH lp _ fl _ _ _ = _
    unfold callH
    rw [hf]
    exact h1
  · rename_i l hf
    obtain ⟨n, v, σ', h1, h2⟩ := hro _ _ _ _ _ _ _ hr
    refine ⟨n, v, σ', ?_, h2⟩
    show callH lp _ fl _ _ _ = _
    unfold callH
    rw [hf]
    exact h1
  · cases hr
theorem nth_eq : ∀ (i : Nat) (l : List HV), nthK i l = l[i]?
  | 0, [] => rfl
  | 0, v :: l => rfl
  | i + 1, [] => rfl
  | i + 1, v :: l => (nth_eq i l).trans (by simp)
theorem set_eq (v : HV) : ∀ (i : Nat) (l : List HV), i < l.length → overwrite l i [v] = some (setR i v l)
  | _, [], h => by simp at h
  | 0, x :: l, _ => by cases l <;> rfl
  | i + 1, x :: l, h => by
    unfold overwrite
    rw [set_eq v i l (by simpa using h)]
    rfl
theorem op_ok {fn : Nat → Bx Kf} {ro : Kr} (hfn : ∀ f, KfOk lp (fn f).run f) (hro : KrOk lp ro) (o : LOp) : KoOk lp nt (compOp lp fn ro nt o).run o := by
  have slow := slow_ok (lp := lp) (nt := nt) o
  unfold compOp
  split
  case h_1 x =>
    rw [then_eq, run_mk]
    intro fl a ds h nx k r hr
    dsimp only at hr
    rw [ev_eq (nt := nt) x a ds] at hr
    exact ⟨0, _, ⟨h, nx⟩, rfl, hr⟩
  case h_2 op x y =>
    rw [then_eq, then_eq, run_mk]
    intro fl a ds h nx k r hr
    dsimp only at hr
    rw [ev_eq (nt := nt) x a ds, ev_eq (nt := nt) y a ds] at hr
    unfold binK at hr
    split at hr
    · rename_i k1 m k2 n e1 e2
      cases hk : sameK k1 k2 with
      | false => rw [hk] at hr; cases hr
      | true =>
        rw [hk] at hr
        simp only [cond_true] at hr
        split at hr
        · rename_i v e3
          refine ⟨0, v, ⟨h, nx⟩, ?_, hr⟩
          show keep _ (binH op _ _) = _
          rw [e1, e2]
          unfold binH
          dsimp only
          cases hsh : isShift op with
          | true => rw [hsh] at e3; simp only [cond_true] at e3 ⊢; rw [e3]; rfl
          | false => rw [hsh] at e3; simp only [cond_false] at e3 ⊢; rw [hk, e3]; rfl
        · cases hr
    · cases hr
  case h_3 off x =>
    rw [then_eq, run_mk]
    intro fl a ds h nx k r hr
    dsimp only at hr
    rw [ev_eq (nt := nt) x a ds] at hr
    unfold addrK at hr
    split at hr
    · rename_i b o e1
      refine ⟨0, _, ⟨h, nx⟩, ?_, hr⟩
      show oFieldAddr off x _ _ = _
      unfold oFieldAddr
      rw [e1]
    · cases hr
  case h_4 len size x i =>
    rw [then_eq, then_eq, run_mk]
    intro fl a ds h nx k r hr
    dsimp only at hr
    rw [ev_eq (nt := nt) x a ds, ev_eq (nt := nt) i a ds] at hr
    unfold idxK at hr
    split at hr
    · rename_i b o kk j e1 e2
      cases hb : Nat.blt j len with
      | false => rw [hb] at hr; cases hr
      | true =>
        rw [hb] at hr
        refine ⟨0, _, ⟨h, nx⟩, ?_, hr⟩
        show oIndexAddrA len size x i _ _ = _
        unfold oIndexAddrA
        rw [e1, e2]
        simp only [natOf, stepTo, hb, cond_true]
    · cases hr
  case h_5 x =>
    rw [then_eq, run_mk]
    intro fl a ds h nx k r hr
    dsimp only at hr
    rw [ev_eq (nt := nt) x a ds] at hr
    unfold nilK at hr
    split at hr
    · rename_i p e1
      refine ⟨0, _, ⟨h, nx⟩, ?_, hr⟩
      show oNilCheck x _ _ = _
      unfold oNilCheck
      rw [e1]
    · rename_i f first captured e1
      refine ⟨0, _, ⟨h, nx⟩, ?_, hr⟩
      show oNilCheck x _ _ = _
      unfold oNilCheck
      rw [e1]
    · cases hr
  case h_6 x =>
    rw [then_eq, run_mk]
    intro fl a ds h nx k r hr
    dsimp only at hr
    rw [ev_eq (nt := nt) x a ds] at hr
    unfold loadK at hr
    split at hr
    · rename_i b o e1
      split at hr
      · rename_i cs bk e2
        rw [nth_eq] at hr
        split at hr
        · rename_i v e3
          refine ⟨0, v, ⟨h, nx⟩, ?_, hr⟩
          show oLoad false 1 x _ _ = _
          unfold oLoad
          rw [e1]
          have hc : (⟨h, nx⟩ : HS).cells b = some cs := by unfold HS.cells; rw [e2]
          have hr2 : (⟨h, nx⟩ : HS).read (b, o) 1 = some [v] := by
            unfold HS.read
            simp only [hc, Option.bind_eq_bind, Option.bind_some]
            have hlt : o < cs.length := by
              rcases Nat.lt_or_ge o cs.length with h | h
              · exact h
              · rw [List.getElem?_eq_none h] at e3; cases e3
            rw [List.drop_eq_getElem_cons hlt]
            rw [List.getElem?_eq_getElem hlt] at e3
            cases e3
            simp [takeN]
          simp only [hr2, whole, keep]
        · cases hr
      · cases hr
    · cases hr
  case h_7 x y =>
    rw [then_eq, then_eq, run_mk]
    intro fl a ds h nx k r hr
    dsimp only at hr
    rw [ev_eq (nt := nt) x a ds, ev_eq (nt := nt) y a ds] at hr
    revert hr
    cases h1 : ((⟨nt, a, ds⟩ : HAct).ev y).one with
    | false => exact fun hr => slow fl a ds h nx k r hr
    | true =>
    intro hr
    simp only [cond_true] at hr
    unfold storeK at hr
    split at hr
    · rename_i b o e1
      split at hr
      · rename_i cs bk e2
        revert hr
        cases hc : (Nat.ble fl b && ((⟨nt, a, ds⟩ : HAct).ev y).one && wrOk bk) with
        | false => intro hr; cases hr
        | true =>
          intro hr
          simp only [cond_true] at hr
          simp only [Bool.and_eq_true] at hc
          obtain ⟨⟨c1, c2⟩, c3⟩ := hc
          rw [nth_eq] at hr
          split at hr
          · rename_i u e3
            have hlt : o < cs.length := by
              rcases Nat.lt_or_ge o cs.length with h | h
              · exact h
              · rw [List.getElem?_eq_none h] at e3; cases e3
            refine ⟨0, .undef, ⟨h.set b (some (.cells (setR o ((⟨nt, a, ds⟩ : HAct).ev y) cs) bk)), nx⟩, ?_, hr⟩
            have hcells : ((⟨nt, a, ds⟩ : HAct).ev y).cells = [(⟨nt, a, ds⟩ : HAct).ev y] := by
              generalize (⟨nt, a, ds⟩ : HAct).ev y = v at c2
              cases v <;> first | rfl | cases c2
            show oStore fl 1 x y _ _ = _
            unfold oStore
            rw [e1, hcells]
            have hw : (⟨h, nx⟩ : HS).write fl (b, o) [(⟨nt, a, ds⟩ : HAct).ev y] = some ⟨h.set b (some (.cells (setR o ((⟨nt, a, ds⟩ : HAct).ev y) cs) bk)), nx⟩ := by
              unfold HS.write
              simp only [e2]
              cases bk with
              | ro => cases c3
              | exact => simp only [c1, List.all_cons, c2, List.all_nil, Bool.and_true, cond_true, set_eq _ _ _ hlt, Option.map_some]; rfl
              | opn z => simp only [c1, List.all_cons, c2, List.all_nil, Bool.and_true, cond_true, set_eq _ _ _ hlt, Option.map_some]; rfl
            simp only [hw]
            rfl
          · cases hr
      · cases hr
    · cases hr
  case h_8 f xs =>
    rw [then_eq, run_mk]
    exact call_ok hfn hro f xs
  case h_9 => exact slow
theorem guard_k {G : Bx Ko} {o : LOper} (h : KoOk lp nt G.run o.op) : ∀ fl a ds hp nx (k : Kv) r, (guardK o.g G).run fl a hp nx k = some r →
    ∃ n v σ', (bif wantedH o.g ⟨nt, a, ds⟩ then opH lp (exec lp n) fl o.op ⟨nt, a, ds⟩ ⟨hp, nx⟩ else some (.undef, ⟨hp, nx⟩)) = some (v, σ') ∧ k v σ'.h σ'.nx = some r := by
  intro fl a ds hp nx k r hr
  unfold guardK at hr
  split at hr
  · rename_i hg
    obtain ⟨n, v, σ', h1, h2⟩ := h fl a ds hp nx k r hr
    refine ⟨n, v, σ', ?_, h2⟩
    rw [hg]
    exact h1
  · rename_i t want hg
    rw [then_eq, then_eq, run_mk] at hr
    rw [ev_eq (nt := nt) (.t t) a ds] at hr
    have hw : wantedH o.g ⟨nt, a, ds⟩ = isB want ((⟨nt, a, ds⟩ : HAct).ev (.t t)) := by
      rw [hg]
      unfold wantedH isB
      dsimp only [HAct.ev]
      generalize (⟨nt, a, ds⟩ : HAct).tmp t = x
      cases x <;> rfl
    rw [hw]
    cases hb : isB want ((⟨nt, a, ds⟩ : HAct).ev (.t t)) with
    | true =>
      rw [hb] at hr
      exact h fl a ds hp nx k r hr
    | false =>
      rw [hb] at hr
      exact ⟨0, .undef, ⟨hp, nx⟩, rfl, hr⟩
theorem put_k (dst : Option Nat) (a : Tr HV) (ds : List Nat) (v : HV) : (⟨nt, a, ds⟩ : HAct).put dst v = ⟨nt, (putK nt dst).run a v, ds⟩ := by
  unfold HAct.put putK
  cases dst with
  | none => rfl
  | some d =>
    dsimp only
    cases Nat.blt d nt with
    | false => rfl
    | true => rw [cond_true, cond_true, pa_then]; rfl
theorem step_k {G : Bx Ko} {o : LOper} (h : KoOk lp nt G.run o.op) : ∀ fl a ds hp nx (k : Kv) r, (guardK o.g G).run fl a hp nx k = some r →
    ∃ n v σ', stepOp lp (exec lp n) fl o ⟨nt, a, ds⟩ ⟨hp, nx⟩ = some (⟨nt, (putK nt o.dst).run a v, ds⟩, σ') ∧ k v σ'.h σ'.nx = some r := by
  intro fl a ds hp nx k r hr
  obtain ⟨n, v, σ', h1, h2⟩ := guard_k h fl a ds hp nx k r hr
  refine ⟨n, v, σ', ?_, h2⟩
  unfold stepOp
  cases hw : wantedH o.g ⟨nt, a, ds⟩ with
  | true => rw [hw] at h1; simp only [cond_true] at h1 ⊢; rw [h1]; simp only [put_k]
  | false =>
    rw [hw] at h1
    cases h1
    simp only [cond_false, put_k]
theorem ops_k {op : LOp → Bx Ko} (hop : ∀ o, KoOk lp nt (op o).run o) : ∀ os, KosOk lp nt (compOps op nt os).run os
  | [] => fun fl k a ds h nx r hr => ⟨0, _, _, rfl, rfl, hr⟩
  | o :: os => by
    intro fl k a ds h nx r hr
    unfold compOps at hr
    rw [then_eq, then_eq, then_eq, run_mk] at hr
    obtain ⟨n, v, σ1, h1, h2⟩ := step_k (hop o.op) fl a ds h nx _ r hr
    obtain ⟨m, a', σ', h3, h4, h5⟩ := ops_k hop os fl k _ ds _ _ r h2
    refine ⟨max n m, a', σ', ?_, h4, h5⟩
    unfold runOps
    rw [stepOp_mon (exec_mon (Nat.le_max_left n m)) h1]
    exact runOps_mon (exec_mon (Nat.le_max_right n m)) h3
theorem draw_k {op : LOp → Bx Ko} (hop : ∀ o, KoOk lp nt (op o).run o) {s : Nat} : ∀ os fl n0 i h0 done (k : Kt) a ds nx r, fl ≤ n0 → n0 ≤ nx → (drawK op nt s os).run fl n0 i h0 done k a ds nx = some r →
    ∃ n a' σ', drawOps lp (exec lp n) fl s n0 h0 os i done ⟨nt, a, ds⟩ nx = some (a', σ') ∧ a'.nt = nt ∧ k a'.tmps a'.defers σ'.h σ'.nx = some r
  | [], fl, n0, i, h0, done, k, a, ds, nx, r, _, _, hr => ⟨0, _, _, rfl, rfl, hr⟩
  | o :: os, fl, n0, i, h0, done, k, a, ds, nx, r, hfl, hn0, hr => by
    unfold drawK at hr
    rw [then_eq, then_eq, then_eq, then_eq, run_mk] at hr
    cases hc : Nat.blt i s with
    | false =>
      rw [hc] at hr
      obtain ⟨n, a', σ', h1, h2, h3⟩ := ops_k hop (o :: os) fl k a ds _ nx r hr
      refine ⟨n, a', σ', ?_, h2, h3⟩
      unfold drawOps
      rw [hc]
      exact h1
    | true =>
      rw [hc] at hr
      simp only [cond_true] at hr
      cases hw : o.anc.contains i with
      | true =>
        rw [hw] at hr
        simp only [cond_true] at hr
        obtain ⟨n, v, σ1, h1, h2⟩ := step_k (hop o.op) n0 a ds _ nx _ r hr
        revert h2
        cases hb : Nat.ble nx σ1.nx with
        | false => intro h2; cases h2
        | true =>
          intro h2
          simp only [cond_true] at h2
          have hle := Nat.le_of_ble_eq_true hb
          obtain ⟨m, a', σ', h3, h4, h5⟩ := draw_k hop os fl n0 (Nat.succ i) h0 _ k _ ds _ r hfl (Nat.le_trans hn0 hle) h2
          refine ⟨max n m, a', σ', ?_, h4, h5⟩
          have hmx : Nat.max fl n0 = n0 := Nat.max_eq_right hfl
          unfold drawOps
          rw [hc, hw]
          simp only [cond_true, hmx]
          rw [stepOp_mon (exec_mon (Nat.le_max_left n m)) h1]
          simp only [hb, Bool.not_true, cond_false]
          exact drawOps_mon (exec_mon (Nat.le_max_right n m)) h3
      | false =>
        rw [hw] at hr
        simp only [cond_false] at hr
        obtain ⟨n, v, σ1, h1, h2⟩ := step_k (hop o.op) nx a ds _ nx _ r hr
        revert h2
        cases hb : Nat.ble nx σ1.nx with
        | false => intro h2; cases h2
        | true =>
          intro h2
          simp only [cond_true] at h2
          have hle := Nat.le_of_ble_eq_true hb
          obtain ⟨m, a', σ', h3, h4, h5⟩ := draw_k hop os fl n0 (Nat.succ i) h0 _ k _ ds _ r hfl (Nat.le_trans hn0 hle) h2
          refine ⟨max n m, a', σ', ?_, h4, h5⟩
          have hmx : Nat.max fl nx = nx := Nat.max_eq_right (by omega)
          unfold drawOps
          rw [hc, hw]
          simp only [cond_true, cond_false, hmx]
          rw [stepOp_mon (exec_mon (Nat.le_max_left n m)) h1]
          simp only [hb, Bool.not_true, cond_false]
          exact drawOps_mon (exec_mon (Nat.le_max_right n m)) h3
theorem seq_run {n : Nat} {fl : Nat} {rd : Option Nat} {x y : LCode} {a a1 : HAct} {σ σ1 : HS} {q : HExit × HAct × HS} {m : Nat} (h1 : exec lp n fl rd x a σ = some (.normal, a1, σ1)) (h2 : exec lp m fl rd y a1 σ1 = some q) : xSeq (exec lp (max n m)) fl rd x y a σ = some q := by
  unfold xSeq
  rw [exec_mon (Nat.le_max_left n m) _ _ _ _ _ _ h1]
  exact exec_mon (Nat.le_max_right n m) _ _ _ _ _ _ h2
theorem loop_k {b : Option HBlk} {k : LState → HExit → Nat → Tr HV → List Nat → LCode → LCode → Nat → Option (HV × HS)} {r : HV × HS} (hr : loopK b k = some r) : ∃ q : HLoop, b = some (.loop q) ∧ k q.state q.pending q.nt q.tmps q.params q.assign q.body q.marks = some r := by
  unfold loopK at hr
  split at hr
  · exact ⟨_, rfl, hr⟩
  · cases hr
theorem marks_k {rd : Option Nat} {h : Tr HBlk} {nx : Nat} {k : Nat → List Nat → Tr HBlk → Nat → Option (HV × HS)} {r : HV × HS} (hr : marksK rd h nx k = some r) : ∃ mk ms h1 n1, marksOf rd ⟨h, nx⟩ = some (mk, ms, ⟨h1, n1⟩) ∧ k mk ms h1 n1 = some r := by
  unfold marksK at hr
  cases rd with
  | none => exact ⟨_, _, _, _, rfl, hr⟩
  | some l =>
    obtain ⟨q, hq, hk⟩ := loop_k hr
    refine ⟨_, _, _, _, ?_, hk⟩
    unfold marksOf
    simp only [hq]
theorem jump_k (e : HExit) (kn : Kt) (kx : Nat → Kt) (kr : Kt) (a : HAct) (σ : HS) : jumpK e kn kx kr a.tmps a.defers σ.h σ.nx = contK e kn kx kr a σ := by cases e <;> rfl
theorem range_k {fn : Nat → Bx Kf} (hfn : ∀ f, KfOk lp (fn f).run f) (f : Lo) (ps : List Nat) (assign body : LCode) : KcOk lp nt (rangeK fn nt (evK f).run ps assign body) (.rangeFunc f ps assign body) := by
  intro fl rd kn kx kr a ds h nx r hr
  unfold rangeK at hr
  rw [ev_eq (nt := nt) f a ds] at hr
  split at hr
  · rename_i g first captured hf
    obtain ⟨mk, ms, h1, n1, hm, hr⟩ := marks_k hr
    obtain ⟨n, v, σ3, hc, hr⟩ := hfn g _ _ _ _ _ _ hr
    obtain ⟨q, hq, hr⟩ := loop_k hr
    revert hr
    cases hb : (notBusy q.state && Nat.ble fl n1) with
    | false => intro hr; cases hr
    | true =>
      intro hr
      simp only [cond_true] at hr
      simp only [Bool.and_eq_true] at hb
      refine ⟨n + 1, q.pending, ⟨nt, a, ms ++ ds⟩, σ3.upd n1 (some (.loop { q with state := .exhausted })), ?_, rfl, ?_⟩
      · show xRange lp (exec lp n) fl rd f ps assign body _ _ = _
        unfold xRange
        rw [hf, hm]
        dsimp only
        have hc' : callF lp (exec lp n) fl g (first ++ [.yield n1] ++ captured) ((⟨h1, n1⟩ : HS).new (.loop ⟨.ready, .normal, nt, a, ps, assign, body, mk⟩)) = some (v, σ3) := hc
        rw [hc']
        dsimp only
        unfold endLoopH
        rw [hq]
        dsimp only
        have hnb := hb.1
        cases hst : q.state <;> rw [hst] at hnb <;> first | (exact absurd hnb (by decide)) | (dsimp only; rw [hb.2]; rfl)
      · rw [← jump_k]; exact hr
  · cases hr
theorem end_k {l : Nat} {e : HExit} {k : Kv} {h : Tr HBlk} {nx : Nat} {r : HV × HS} (hr : endK l e k h nx = some r) : ∃ v σ', endRoundH l e ⟨h, nx⟩ = some (v, σ') ∧ k v σ'.h σ'.nx = some r := by
  unfold endK at hr
  obtain ⟨q, hq, hr⟩ := loop_k hr
  cases e with
  | normal =>
    refine ⟨.bool true, (⟨h, nx⟩ : HS).upd l (some (.loop { q with state := .ready, pending := .normal })), ?_, hr⟩
    unfold endRoundH
    simp only [hq]
  | exit id =>
    refine ⟨.bool false, (⟨h, nx⟩ : HS).upd l (some (.loop { q with state := .done, pending := .exit id })), ?_, hr⟩
    unfold endRoundH
    simp only [hq]
  | ret =>
    refine ⟨.bool false, (⟨h, nx⟩ : HS).upd l (some (.loop { q with state := .done, pending := .ret })), ?_, hr⟩
    unfold endRoundH
    simp only [hq]
theorem round_k {co : Nat → LCode → Bx Kc} (hco : ∀ nt c, KcOk lp nt (co nt c).run c) : KrOk lp (roundK co) := by
  intro fl l args h nx k r hr
  unfold roundK at hr
  obtain ⟨q, hq, hr⟩ := loop_k hr
  split at hr
  · rename_i tm1 hz
    obtain ⟨n, e, a1, σ1, h1, h2, h3⟩ := hco _ _ _ _ _ _ _ _ _ _ _ _ hr
    cases e with
    | normal =>
      dsimp only [contK] at h3
      obtain ⟨q1, hq1, h3⟩ := loop_k h3
      revert h3
      cases hb : (isReady q1.state && Nat.ble fl l) with
      | false => intro h3; cases h3
      | true =>
        intro h3
        simp only [cond_true] at h3
        simp only [Bool.and_eq_true] at hb
        obtain ⟨m, e, a2, σ2, h4, h5, h6⟩ := hco _ _ _ _ _ _ _ _ _ _ _ _ h3
        have ea : (⟨q.nt, a1.tmps, a1.defers⟩ : HAct) = a1 := by rw [← h2]
        rw [ea] at h4
        have hbegin : beginRoundH fl l σ1 = some ⟨σ1.h.set l (some (.loop { q1 with state := .busy })), σ1.nx⟩ := by
          unfold beginRoundH
          rw [hq1]
          dsimp only
          have hrd := hb.1
          cases hst : q1.state <;> rw [hst] at hrd <;> first | (exact absurd hrd (by decide)) | (dsimp only; rw [hb.2]; rfl)
        have hend : ∃ v σ', endRoundH l e σ2 = some (v, σ') ∧ k v σ'.h σ'.nx = some r := by
          cases e <;> exact end_k h6
        obtain ⟨v, σ', g1, g2⟩ := hend
        refine ⟨max n m, v, σ', ?_, g2⟩
        unfold roundH
        rw [hq]
        dsimp only
        rw [hz]
        dsimp only
        rw [exec_mon (Nat.le_max_left n m) _ _ _ _ _ _ h1]
        dsimp only
        rw [hbegin]
        dsimp only
        rw [exec_mon (Nat.le_max_right n m) _ _ _ _ _ _ h4]
        exact g1
    | exit id => cases h3
    | ret => cases h3
  · cases hr
theorem comp_k {op : LOp → Bx Ko} {fn : Nat → Bx Kf} (hop : ∀ o, KoOk lp nt (op o).run o) (hfn : ∀ f, KfOk lp (fn f).run f) : ∀ c, KcOk lp nt (comp op fn nt c).run c
  | .skip => fun fl rd kn kx kr a ds h nx r hr => ⟨1, .normal, _, _, rfl, rfl, hr⟩
  | .seq x y => by
    intro fl rd kn kx kr a ds h nx r hr
    unfold comp at hr
    rw [then_eq, then_eq, run_mk] at hr
    obtain ⟨n, e, a1, σ1, h1, h2, h3⟩ := comp_k hop hfn x fl rd _ kx kr a ds h nx r hr
    cases e with
    | normal =>
      dsimp only [contK] at h3
      obtain ⟨m, e, a', σ', h4, h5, h6⟩ := comp_k hop hfn y fl rd kn kx kr a1.tmps a1.defers σ1.h σ1.nx r h3
      have ea : (⟨nt, a1.tmps, a1.defers⟩ : HAct) = a1 := by rw [← h2]
      rw [ea] at h4
      exact ⟨max n m + 1, e, a', σ', seq_run h1 h4, h5, h6⟩
    | exit id => exact ⟨n + 1, .exit id, a1, σ1, by show xSeq _ _ _ _ _ _ _ = _; unfold xSeq; rw [h1], h2, h3⟩
    | ret => exact ⟨n + 1, .ret, a1, σ1, by show xSeq _ _ _ _ _ _ _ = _; unfold xSeq; rw [h1], h2, h3⟩
  | .cond c x y => by
    intro fl rd kn kx kr a ds h nx r hr
    unfold comp at hr
    rw [then_eq, then_eq, then_eq, run_mk] at hr
    rw [ev_eq (nt := nt) c a ds] at hr
    split at hr
    · rename_i b hb
      cases b with
      | true =>
        obtain ⟨n, e, a', σ', h1, h2, h3⟩ := comp_k hop hfn x fl rd kn kx kr a ds h nx r hr
        refine ⟨n + 1, e, a', σ', ?_, h2, h3⟩
        show xCond _ _ _ _ _ _ _ _ = _
        unfold xCond
        rw [hb]; exact h1
      | false =>
        obtain ⟨n, e, a', σ', h1, h2, h3⟩ := comp_k hop hfn y fl rd kn kx kr a ds h nx r hr
        refine ⟨n + 1, e, a', σ', ?_, h2, h3⟩
        show xCond _ _ _ _ _ _ _ _ = _
        unfold xCond
        rw [hb]; exact h1
    · cases hr
  | .block id x => by
    intro fl rd kn kx kr a ds h nx r hr
    unfold comp at hr
    rw [then_eq, run_mk] at hr
    obtain ⟨n, e, a', σ', h1, h2, h3⟩ := comp_k hop hfn x fl rd kn _ kr a ds h nx r hr
    cases e with
    | normal => exact ⟨n + 1, .normal, a', σ', by show xBlock _ _ _ _ _ _ _ = _; unfold xBlock; rw [h1], h2, h3⟩
    | ret => exact ⟨n + 1, .ret, a', σ', by show xBlock _ _ _ _ _ _ _ = _; unfold xBlock; rw [h1], h2, h3⟩
    | exit i =>
      dsimp only [contK] at h3
      refine ⟨n + 1, bif Nat.beq i id then .normal else .exit i, a', σ', by show xBlock _ _ _ _ _ _ _ = _; unfold xBlock; rw [h1], h2, ?_⟩
      revert h3
      cases Nat.beq i id <;> exact fun h => h
  | .loop x => by
    intro fl rd kn kx kr a ds h nx r hr
    unfold comp at hr
    rw [then_eq, run_mk] at hr
    have ihx := comp_k hop hfn x
    revert hr
    generalize 1000000 = m
    induction m generalizing a ds h nx with
    | zero => intro hr; cases hr
    | succ m ih =>
      intro hr
      obtain ⟨n, e, a1, σ1, h1, h2, h3⟩ := ihx fl rd _ kx kr a ds h nx r hr
      cases e with
      | normal =>
        dsimp only [contK] at h3
        obtain ⟨k, e, a', σ', h4, h5, h6⟩ := ih a1.tmps a1.defers σ1.h σ1.nx h3
        have ea : (⟨nt, a1.tmps, a1.defers⟩ : HAct) = a1 := by rw [← h2]
        rw [ea] at h4
        exact ⟨max n k + 1, e, a', σ', seq_run h1 h4, h5, h6⟩
      | exit id => exact ⟨n + 1, .exit id, a1, σ1, by show xSeq _ _ _ _ _ _ _ = _; unfold xSeq; rw [h1], h2, h3⟩
      | ret => exact ⟨n + 1, .ret, a1, σ1, by show xSeq _ _ _ _ _ _ _ = _; unfold xSeq; rw [h1], h2, h3⟩
  | .scope x => by
    intro fl rd kn kx kr a ds h nx r hr
    obtain ⟨n, e, a', σ', h1, h2, h3⟩ := comp_k hop hfn x fl rd kn kx kr a ds h nx r hr
    exact ⟨n + 1, e, a', σ', h1, h2, h3⟩
  | .exit id => fun fl rd kn kx kr a ds h nx r hr => ⟨1, .exit id, _, _, rfl, rfl, hr⟩
  | .ret => fun fl rd kn kx kr a ds h nx r hr => ⟨1, .ret, _, _, rfl, rfl, hr⟩
  | .reg ops => by
    intro fl rd kn kx kr a ds h nx r hr
    unfold comp at hr
    rw [then_eq, run_mk] at hr
    obtain ⟨n, a', σ', h1, h2, h3⟩ := ops_k hop ops fl kn a ds h nx r hr
    refine ⟨n + 1, .normal, a', σ', ?_, h2, h3⟩
    show xNormal _ = _
    rw [h1]; rfl
  | .draw s ops => by
    intro fl rd kn kx kr a ds h nx r hr
    unfold comp at hr
    rw [then_eq, run_mk] at hr
    cases hb : Nat.ble fl nx with
    | false => rw [hb] at hr; cases hr
    | true =>
      rw [hb] at hr
      obtain ⟨n, a', σ', h1, h2, h3⟩ := draw_k hop ops fl nx 0 h [] kn a ds nx r (Nat.le_of_ble_eq_true hb) (Nat.le_refl _) hr
      refine ⟨n + 1, .normal, a', σ', ?_, h2, h3⟩
      show xDraw lp (exec lp n) fl s ops _ _ = _
      unfold xDraw
      rw [hb]
      simp only [cond_true, h1]
      rfl
  | .rangeFunc f ps assign body => by
    unfold comp
    rw [then_eq, run_mk]
    exact range_k hfn f ps assign body
  | .bad => fun fl rd kn kx kr a ds h nx r hr => by cases hr
theorem leave_k {fl : Nat} {res : List LRes} {k : Kv} {a : HAct} {σ : HS} {r : HV × HS} (hn : a.nt = nt) (hr : leaveK fl nt res k a.tmps a.defers σ.h σ.nx = some r) : ∃ v σ', leaveH fl a res σ = some (v, σ') ∧ k v σ'.h σ'.nx = some r := by
  unfold leaveK at hr
  have ea : (⟨nt, a.tmps, a.defers⟩ : HAct) = a := by rw [← hn]
  rw [ea] at hr
  split at hr
  · rename_i v σ' h1; exact ⟨v, σ', h1, hr⟩
  · cases hr
theorem both_k : ∀ n, (∀ f, KfOk lp ((bothK lp n).1 f).run f) ∧ KrOk lp (bothK lp n).2
  | 0 => ⟨fun f fl args h nx k r hr => (by cases hr), fun fl l args h nx k r hr => (by cases hr)⟩
  | n + 1 => by
    obtain ⟨hfn, hro⟩ := both_k n
    have hco : ∀ nt c, KcOk lp nt (comp (compOp lp (bothK lp n).1 (bothK lp n).2 nt) (bothK lp n).1 nt c).run c := fun nt c => comp_k (fun o => op_ok hfn hro o) hfn c
    refine ⟨fun f fl args h nx k r hr => ?_, round_k hco⟩
    unfold bothK at hr
    dsimp only at hr
    split at hr
    · cases hr
    · rename_i lf hlf
      split at hr
      · rename_i g hg
        rw [run_mk] at hr
        unfold specK at hr
        split at hr
        · rename_i v σ h1
          cases hb : Nat.ble nx σ.nx with
          | false => rw [hb] at hr; cases hr
          | true =>
            rw [hb] at hr
            refine ⟨0, v, σ, ?_, hr⟩
            unfold callF
            rw [hlf]
            simp only [hg]
            unfold specH
            rw [h1]
            simp only [hb, cond_true]
        · cases hr
      rename_i hsp
      rw [then_eq] at hr
      have run : ∀ (fl0 : Nat) (k0 : Kv), (bif Nat.ble args.length lf.nt then (comp (compOp lp (bothK lp n).1 (bothK lp n).2 lf.nt) (bothK lp n).1 lf.nt lf.body).run fl0 none (leaveK fl0 lf.nt lf.res k0) (fun _ _ _ _ _ => none) (leaveK fl0 lf.nt lf.res k0) (putAll .e 0 args) [] h nx else none) = some r →
          ∃ m v σ', callB (exec lp m) fl0 lf args ⟨h, nx⟩ = some (v, σ') ∧ k0 v σ'.h σ'.nx = some r := by
        intro fl0 k0 hr
        cases hb : Nat.ble args.length lf.nt with
        | false => rw [hb] at hr; cases hr
        | true =>
          rw [hb] at hr
          simp only [cond_true] at hr
          have hmx : Nat.max lf.nt args.length = lf.nt := Nat.max_eq_left (Nat.le_of_ble_eq_true hb)
          obtain ⟨m, e, a', σ', h1, h2, h3⟩ := hco lf.nt lf.body fl0 none _ _ _ _ _ _ _ r hr
          cases e with
          | normal =>
            obtain ⟨v, σ'', g1, g2⟩ := leave_k h2 h3
            refine ⟨m, v, σ'', ?_, g2⟩
            unfold callB
            rw [hmx, h1]
            exact g1
          | exit id => cases h3
          | ret =>
            obtain ⟨v, σ'', g1, g2⟩ := leave_k h2 h3
            refine ⟨m, v, σ'', ?_, g2⟩
            unfold callB
            rw [hmx, h1]
            exact g1
      unfold enterK at hr
      cases hi : lf.imp with
      | true =>
        rw [hi] at hr
        simp only [cond_true] at hr
        rw [run_mk] at hr
        obtain ⟨m, v, σ', g1, g2⟩ := run fl k hr
        refine ⟨m, v, σ', ?_, g2⟩
        unfold callF
        rw [hlf]
        simp only [hsp, hi, cond_true]
        exact g1
      | false =>
        rw [hi] at hr
        simp only [cond_false] at hr
        rw [run_mk] at hr
        obtain ⟨m, v, σ', g1, g2⟩ := run nx (gcK h nx k) hr
        refine ⟨m, v, gcH ⟨h, nx⟩ σ' v, ?_, g2⟩
        unfold callF
        rw [hlf]
        simp only [hsp, hi, cond_false, g1]
theorem fn_k (n f : Nat) : KfOk lp ((fnK lp n f).run) f := (both_k n).1 f
/-- **What the closures reckon, the plain machine does.** -/
theorem c_of_k {n f : Nat} {args : List HV} {h : Tr HBlk} {nx : Nat} {Q : HV → HS → Prop} {k : Kv} {r : HV × HS} (hr : (fnK lp n f).run 0 args h nx k = some r) (hk : ∀ v h nx, k v h nx = some r → Q v ⟨h, nx⟩) : C lp 0 f args ⟨h, nx⟩ Q := by
  obtain ⟨m, v, σ', h1, h2⟩ := fn_k n f 0 args h nx k r hr
  exact ⟨m, v, σ', h1, hk _ _ _ h2⟩
end Go.Hx

/- The closed run of 'awake': the chapter's first examples, which each law of the layer asks for at its end. -/
namespace Go.Hx
theorem mixed : (Go.Proofs.Try.prog).follows .mixedOrders = true := by kernel_rfl
noncomputable def endK0 : Kv := fun v _ _ => some (v, ⟨.e, 0⟩)
theorem closed_of {lp : Nat → Option LFunc} {n f : Nat} (hr : (fnK lp n f).run 0 [] .e 0 endK0 = some (.bool true, ⟨.e, 0⟩)) : C lp 0 f [] ⟨.e, 0⟩ (fun v _ => v = .bool true) :=
  c_of_k hr fun v h nx hk => by unfold endK0 at hk; cases hk; rfl
theorem closed17 : C LP 0 17 [] ⟨.e, 0⟩ (fun v _ => v = .bool true) := closed_of (n := 40) (by kernel_rfl)
end Go.Hx

/- A struct argument with lists in its fields: its cells, one by one, on the plain machine. -/
namespace Go.Hx
open Go.RowKit
variable {P : Program}
theorem field_okWide {w : World} {b0 : Nat} {t : TypeId} {fs : Array Field} {ts : List TypeId} {cs : Array Value} (ht : P.underlying t = some (.struct fs)) (hts : P.cellTypes P.depth t = some ts)
    (hv : Value.okWide P w .any b0 t (.agg cs)) {i : Nat} {v : Value} {u : TypeId} (hi : cs[i]? = some v) (hu : ts[i]? = some u) : Cell.okWide P w .any b0 u v := by
  unfold Value.okWide at hv
  simp only [ht] at hv
  obtain ⟨cs', e, _, ts', h1, _, h3⟩ := hv
  cases e
  rw [hts] at h1; cases h1
  obtain ⟨u', h4, h5⟩ := h3 i v hi
  have hlt : i < ts.length := by
    rcases Nat.lt_or_ge i ts.length with h | h
    · exact h
    · rw [List.getElem?_eq_none h] at hu; cases hu
  rw [Nat.mod_eq_of_lt hlt, hu] at h4
  cases h4; exact h5
theorem slice_okWide {w : World} {b0 : Nat} {t e : TypeId} {v : Value} (ht : P.underlying t = some (.slice e)) (h : Cell.okWide P w .any b0 t v) : Value.okWide P w .any b0 t v := by
  unfold Value.okWide
  simp only [ht]; exact h
/-- The field of a struct, as it stands. -/
theorem field_trod {H : Type} {enc : TypeId × Value → H} {w : World} {base : Nat} {spare : Nat → Bool} {held : Bool} {t : TypeId} {fs : Array Field} {cs : Array Value} {dd : DataW H} {p : List MemPlace} (ht : P.underlying t = some (.struct fs))
    (h : DataW.Trod enc P w base spare held t (.agg cs) dd p) {j : Nat} {f : Field} {v : Value} (hj : fs[j]? = some f) (h1 : 1 = P.cellsOf f.type) (hv : cs[f.offset]? = some v) (hc : v.cells = #[v]) : ∃ d' p', DataW.Trod enc P w base spare held f.type v d' p' := by
  obtain ⟨fuel, hf⟩ := h
  obtain ⟨xs, n, _, _, hlen, hxl, hx⟩ := DataW.trod_struct ht hf
  have h3 := hx j f hj
  have hjl : j < xs.length := by
    have : j < fs.size := by
      rcases Nat.lt_or_ge j fs.size with h | h
      · exact h
      · rw [Array.getElem?_eq_none h] at hj; cases hj
    omega
  rw [List.getElem?_eq_getElem hjl, ← h1] at h3
  have e : ((Value.agg cs).cells.toList.drop f.offset).take 1 = [v] := by
    have : cs.toList[f.offset]? = some v := by rw [Array.getElem?_toList]; exact hv
    show (cs.toList.drop f.offset).take 1 = [v]
    have hlt : f.offset < cs.toList.length := by
      rcases Nat.lt_or_ge f.offset cs.toList.length with h | h
      · exact h
      · rw [List.getElem?_eq_none h] at this; cases this
    rw [List.drop_eq_getElem_cons hlt]
    rw [List.getElem?_eq_getElem hlt] at this
    cases this
    rfl
  rw [e] at h3
  exact ⟨xs[j].1, xs[j].2, n, by rw [hc]; exact h3⟩
end Go.Hx

/- The frame of the laws: 'awake' is known; arguments that are structs with lists in their fields, as lists and numbers. -/
namespace Go.Hx
open Go.RowKit Go.ChangeShapes Go.WideShapes Go.ChangeAt
theorem spWakes_ok : ∀ args σ v σ', spWakes args σ = some (v, σ') → σ' = σ ∧ args.all flat = true ∧ flatV v = true ∧ C LP 0 17 args ⟨.e, 0⟩ (fun v' _ => v' = v) := by
  intro args σ v σ' h
  cases args with
  | nil => cases h; exact ⟨rfl, rfl, rfl, closed17⟩
  | cons a l => cases h
theorem lw_ok : LpOk Go.Proofs.Try.prog LW := withS_ok lowP_ok (spec_plain mixed lowP_ok spWakes_ok)
theorem wfk {k : IntKind} {n : Int} (h : (Lit.int k n).wf = true) : k.min ≤ n ∧ n ≤ k.max := by
  simp only [Lit.wf, Bool.and_eq_true, decide_eq_true_eq] at h
  exact h
def e2 (x : Int × Int) : List HV := [i64 x.1, i64 x.2]
def e3 (x : Int × Int × Int) : List HV := [i64 x.1, i64 x.2.1, i64 x.2.2]
def eK (k : IntKind) (x : Int) : List HV := [.int k x]
theorem dec2 : ∀ us : Nat → Value, (∀ j k, [Leaf.i .i64, .i .i64][j]? = some k → LeafV k (us j)) → ∃ x : Int × Int, ∀ j u, (e2 x)[j]? = some u → ∀ ρ, VR ρ u (us j) := by
  intro us h
  obtain ⟨a, e0⟩ := leaf_int (h 0 _ rfl)
  obtain ⟨b, e1⟩ := leaf_int (h 1 _ rfl)
  refine ⟨(a, b), fun j u hj ρ => ?_⟩
  match j, hj with
  | 0, hj => cases hj; rw [e0]; exact .int _ _
  | 1, hj => cases hj; rw [e1]; exact .int _ _
  | j + 2, hj => simp [e2] at hj
theorem dec3 : ∀ us : Nat → Value, (∀ j k, [Leaf.i .i64, .i .i64, .i .i64][j]? = some k → LeafV k (us j)) → ∃ x : Int × Int × Int, ∀ j u, (e3 x)[j]? = some u → ∀ ρ, VR ρ u (us j) := by
  intro us h
  obtain ⟨a, e0⟩ := leaf_int (h 0 _ rfl)
  obtain ⟨b, e1⟩ := leaf_int (h 1 _ rfl)
  obtain ⟨c, e2⟩ := leaf_int (h 2 _ rfl)
  refine ⟨(a, b, c), fun j u hj ρ => ?_⟩
  match j, hj with
  | 0, hj => cases hj; rw [e0]; exact .int _ _
  | 1, hj => cases hj; rw [e1]; exact .int _ _
  | 2, hj => cases hj; rw [e2]; exact .int _ _
  | j + 3, hj => simp [e3] at hj
theorem decK {k : IntKind} : ∀ us : Nat → Value, (∀ j q, [Leaf.i k][j]? = some q → LeafV q (us j)) → ∃ x : Int, ∀ j u, (eK k x)[j]? = some u → ∀ ρ, VR ρ u (us j) := by
  intro us h
  obtain ⟨a, e0⟩ := leaf_int (h 0 _ rfl)
  refine ⟨a, fun j u hj ρ => ?_⟩
  match j, hj with
  | 0, hj => cases hj; rw [e0]; exact .int _ _
  | j + 1, hj => simp [eK] at hj
theorem rel2 (F : V.PH) (x : Int × Int) : V.rP V.rI V.rI F x (e2 x) := ⟨[_], [_], rfl, rfl, rfl⟩
theorem rel3 (F : V.PH) (x : Int × Int × Int) : V.rP V.rI (V.rP V.rI V.rI) F x (e3 x) := ⟨[_], [_, _], rfl, rfl, ⟨[_], [_], rfl, rfl, rfl⟩⟩
theorem relK (k : IntKind) (F : V.PH) (x : Int) : V.rK k F x (eK k x) := rfl
/-- A list argument, with room; 'Z' holds of each element. -/
def AL {α : Type} (enc : α → List HV) (sz : Nat) (W : World) (v : Value) (Z : α → Prop) : Prop :=
  ∃ (o : Option Slot) (mk : Nat → HV) (l : List α), ArgL enc sz W v o mk l ∧ (∀ k p n c, mk k = .slice p n c → n ≤ c) ∧ ∀ x ∈ l, Z x
theorem row_of {α : Type} {rel : V.Rel α} {enc : α → List HV} {sz : Nat} {ss : List (Option Slot)} {k : Nat} {o : Option Slot} {l : List α} {p : Option (Nat × Nat)} {c : Nat} (hrel : ∀ F x, rel F x (enc x)) (hk : k < ss.length) (ho : ss.getD k none = o) (hc : l.length ≤ c)
    (hr : ∀ (h : Tr HBlk) (nx : Nat), k < nx → h.get k = (o.map fun s => .cells s.cs .ro) → Row enc sz h nx p l) : V.RowF rel sz (V.all (lay ss)) p c l := by
  refine ⟨hc, fun hne => ?_⟩
  obtain ⟨b, off, cs, q, h1, h2, h3, h4⟩ := hr (lay ss) ss.length hk (by rw [lay_get, ho]) hne
  exact ⟨b, off, cs, q, h1, h3, fun i x hx => ⟨_, h4 i x hx, hrel _ x⟩⟩
theorem slice_cap {P : Program} {H : Type} {enc : TypeId × Value → H} {w : World} {base : Nat} {held : Bool} {t e : TypeId} {a : Option Addr} {len cap : Nat} {dd : DataW H} {p : List MemPlace} (ht : P.underlying t = some (.slice e)) (h : DataW.Trod enc P w base (fun _ => true) held t (.slice a len cap) dd p) : len ≤ cap := by
  obtain ⟨fuel, hf⟩ := h
  rcases Deep.open_slice ht hf with ⟨hcs, _⟩ | ⟨a, len', cap', m, n, D, Pl, hcs, _, hlc, hm, hmm, _, hx⟩
  · simp [Value.cells] at hcs
    omega
  · simp [Value.cells] at hcs
    obtain ⟨rfl, rfl, rfl⟩ := hcs
    exact hlc
theorem arg_al {P : Program} {H : Type} {enc0 : TypeId × Value → H} {w : World} {base : Nat} {held : Bool} {α : Type} [Inhabited α] {enc : α → List HV} {t e : TypeId} {d : Nat} {ks : List Leaf} {v : Value} {dd : DataW H} {p : List MemPlace} {b0 : Nat} (ht : P.underlying t = some (.slice e)) (hk : leaves P d e = some ks) (hl : ks.length = P.cellsOf e)
    (hv : Value.okWide P w .any b0 t v) (h : DataW.Trod enc0 P w base (fun _ => true) held t v dd p) (he : ∀ x, (enc x).length = ks.length)
    (hdec : ∀ us : Nat → Value, (∀ j k, ks[j]? = some k → LeafV k (us j)) → ∃ x : α, ∀ j u, (enc x)[j]? = some u → ∀ ρ, VR ρ u (us j)) : AL enc ks.length w v (fun _ => True) := by
  rcases open_rows ht hk hl hv h with rfl | ⟨blk, off, len, cap, C, el, z, rfl, hw, hx⟩
  · exact ⟨none, fun _ => .slice none 0 0, [], ⟨fun s e => (by cases e), fun k ρ _ => .slice0, fun k => ⟨none, 0, rfl, fun h nx _ _ hne => absurd rfl hne⟩⟩, fun k p n c e => by cases e; exact Nat.le_refl _, fun _ _ => trivial⟩
  · have each : ∀ i, i < len → ∃ x : α, ∀ j u, (enc x)[j]? = some u → ∃ c, C[off + (i * ks.length + j)]? = some c ∧ ∀ ρ, VR ρ u c := by
      intro i hi
      obtain ⟨x, hx1⟩ := hdec (fun j => (C[off + (i * ks.length + j)]?).getD .nilFunc) (fun j k hj => by
        obtain ⟨u, h1, h2⟩ := hx i hi j k hj
        rw [h1]; exact h2)
      refine ⟨x, fun j u hj => ?_⟩
      have hjl : j < ks.length := by
        rw [← he x]
        rcases Nat.lt_or_ge j (enc x).length with h | h
        · exact h
        · rw [List.getElem?_eq_none h] at hj; cases hj
      obtain ⟨c, h1, _⟩ := hx i hi j _ (List.getElem?_eq_getElem hjl)
      refine ⟨c, h1, fun ρ => ?_⟩
      have := hx1 j u hj ρ
      rwa [h1] at this
    obtain ⟨f, hf⟩ := Deep.choose_lt each
    refine ⟨some ⟨((List.range len).map f).flatMap enc, ⟨blk, off, 0⟩⟩, fun k => .slice (some (k, 0)) len cap, (List.range len).map f, ⟨fun s e => ?_, fun k ρ hr => ?_, fun k => ⟨some (k, 0), cap, by simp, fun h nx hk hg => ?_⟩⟩, fun k p n c e => by cases e; exact slice_cap ht h, fun _ _ => trivial⟩
    · cases e
      refine ⟨C, el, z, hw, fun i u hu => ?_⟩
      obtain ⟨i', j, x, rfl, h2, h3⟩ := flat_at he _ i u hu
      have hi' : i' < len := by
        rcases Nat.lt_or_ge i' len with h | h
        · exact h
        · rw [List.getElem?_eq_none (by simp; omega)] at h2; cases h2
      rw [List.getElem?_map, List.getElem?_range hi'] at h2
      cases h2
      exact hf i' hi' j u h3
    · exact VR.slice (r := ⟨blk, off, 0⟩) (o := 0) hr
    · exact flat_row0 (c := cap) he hk (by rw [hg]; rfl)
/-- Numbers of a kind as an argument: what they are, and that they are of the kind. -/
theorem arg_alK {k : IntKind} {H : Type} {enc0 : TypeId × Value → H} {P : Program} {w : World} {base : Nat} {held : Bool} {t e : TypeId} {d : Nat} {v : Value} {dd : DataW H} {p : List MemPlace} {b0 : Nat} (ht : P.underlying t = some (.slice e)) (he : P.underlying e = some (.int k)) (hk : leaves P d e = some [.i k]) (hl : 1 = P.cellsOf e)
    (hv : Value.okWide P w .any b0 t v) (h : DataW.Trod enc0 P w base (fun _ => true) held t v dd p) : AL (eK k) 1 w v (fun x => k.min ≤ x ∧ x ≤ k.max) := by
  rcases open_rows ht hk hl hv h with rfl | ⟨blk, off, len, cap, C, el, z, rfl, hw, hx⟩
  · exact ⟨none, fun _ => .slice none 0 0, [], ⟨fun s e => (by cases e), fun k ρ _ => .slice0, fun k => ⟨none, 0, rfl, fun h nx _ _ hne => absurd rfl hne⟩⟩, fun k p n c e => by cases e; exact Nat.le_refl _, fun x hx => by cases hx⟩
  · have hcap := slice_cap ht h
    obtain ⟨fuel, hf⟩ := h
    rcases open_ints ht he hl.symm hf with ⟨hcs, _⟩ | ⟨a, len', cap', zs, hcs, _, hlc, hm, hzl, _, hcell, hwf⟩
    · simp [Value.cells] at hcs
    · simp [Value.cells] at hcs
      obtain ⟨rfl, rfl, rfl⟩ := hcs
      simp only [if_true] at hzl
      have hlen : (zs.take len).length = len := by rw [List.length_take]; omega
      have key : ∀ i, w.cell? (Addr.add ⟨blk, off, none⟩ i) = C[off + i]? := fun i => by
        unfold Addr.add World.cell?
        by_cases h0 : i = 0
        · rw [if_pos h0, h0]
          simp only [hw, Nat.add_zero]
          rfl
        · rw [if_neg h0]
          simp only [hw]
          rfl
      have at_ : ∀ (i : Nat) (x : Int), (zs.take len)[i]? = some x → C[off + i]? = some (.int k x) := fun i x hi => by
        have hil : i < len := by
          rcases Nat.lt_or_ge i len with h | h
          · exact h
          · rw [List.getElem?_eq_none (by rw [hlen]; exact h)] at hi; cases hi
        rw [List.getElem?_take, if_pos hil] at hi
        have := hcell i (by omega)
        rw [key, List.getD_eq_getElem?_getD, hi] at this
        exact this
      refine ⟨some ⟨(zs.take len).flatMap (eK k), ⟨blk, off, 0⟩⟩, fun k => .slice (some (k, 0)) len cap, zs.take len, ⟨fun s e => ?_, fun k ρ hr => ?_, fun q => ⟨some (q, 0), cap, by rw [hlen], fun h nx hq hg => ?_⟩⟩, fun k p n c e => by cases e; exact hcap, fun x hx => wfk (hwf x (List.mem_of_mem_take hx))⟩
      · cases e
        refine ⟨C, el, z, hw, fun i u hu => ?_⟩
        obtain ⟨i', j, x, rfl, h2, h3⟩ := flat_at (enc := eK k) (sz := 1) (fun _ => rfl) _ i u hu
        cases j with
        | zero =>
          cases h3
          refine ⟨.int k x, ?_, fun ρ => .int _ _⟩
          rw [Nat.mul_one, Nat.add_zero]
          exact at_ i' x h2
        | succ j => simp [eK] at h3
      · exact VR.slice (r := ⟨blk, off, 0⟩) (o := 0) hr
      · exact flat_row0 (c := cap) (fun _ => rfl) hq (by rw [hg]; rfl)
end Go.Hx

/- The arguments of the laws of layer 4: screws, truths, words. -/
namespace Go.Hx
open Go.RowKit Go.ChangeShapes Go.WideShapes Go.ChangeAt
open Go.Proofs
set_option maxRecDepth 100000
theorem leaves49 : leaves Try.prog 20 49 = some [.i .i64, .i .i64] := by kernel_rfl
theorem leaves86 : leaves Try.prog 20 86 = some [.i .i64, .i .i64, .i .i64] := by kernel_rfl
theorem leaves90 : leaves Try.prog 20 90 = some [.i .u16] := by kernel_rfl
theorem leaves3 : leaves Try.prog 20 3 = some [.i .i64] := by kernel_rfl
theorem cells49 : 2 = Try.prog.cellsOf 49 := by kernel_rfl
theorem cells86 : 3 = Try.prog.cellsOf 86 := by kernel_rfl
theorem cells90 : 1 = Try.prog.cellsOf 90 := by kernel_rfl
theorem cells3 : 1 = Try.prog.cellsOf 3 := by kernel_rfl
theorem cells25 : Try.prog.cellsOf 25 = 4 := by kernel_rfl
theorem cells28 : Try.prog.cellsOf 28 = 2 := by kernel_rfl
theorem cells22 : 1 = Try.prog.cellsOf 22 := by kernel_rfl
theorem cells23 : 1 = Try.prog.cellsOf 23 := by kernel_rfl
theorem cells26 : 1 = Try.prog.cellsOf 26 := by kernel_rfl
theorem types25 : Try.prog.cellTypes Try.prog.depth 25 = some [3, 22, 23, 3] := by kernel_rfl
theorem types28 : Try.prog.cellTypes Try.prog.depth 28 = some [26, 26] := by kernel_rfl
def ScrewA (W : World) (v : Value) : Prop := ∃ (st tk : Int) (vp vz : Value), v = .agg #[.int .i64 st, vp, vz, .int .i64 tk] ∧ AL e2 2 W vp (fun _ => True) ∧ AL e3 3 W vz (fun _ => True)
def TruthA (W : World) (v : Value) : Prop := ∃ va vb : Value, v = .agg #[va, vb] ∧ AL (eK .i64) 1 W va (fun _ => True) ∧ AL (eK .i64) 1 W vb (fun _ => True)
theorem int_okWide {P : Program} {w : World} {b0 : Nat} {t : TypeId} {k : IntKind} {v : Value} (ht : P.underlying t = some (.int k)) (h : Cell.okWide P w .any b0 t v) : Value.okWide P w .any b0 t v := by
  unfold Value.okWide
  simp only [ht]; exact h
theorem four {C : Array Value} (h : C.size = 4) : ∃ a b c d, C = #[a, b, c, d] := by
  obtain ⟨l⟩ := C
  match l, h with
  | [a, b, c, d], _ => exact ⟨a, b, c, d, rfl⟩
theorem two {C : Array Value} (h : C.size = 2) : ∃ a b, C = #[a, b] := by
  obtain ⟨l⟩ := C
  match l, h with
  | [a, b], _ => exact ⟨a, b, rfl⟩
section
variable {H : Type} {enc : TypeId × Value → H} {w : World} {base : Nat} {held : Bool} {v : Value} {dd : DataW H} {p : List MemPlace} {b0 : Nat}
theorem arg_screw (hv : Value.okWide Try.prog w .any b0 25 v) (h : DataW.Trod enc Try.prog w base (fun _ => true) held 25 v dd p) : ScrewA w v := by
  obtain ⟨C, rfl, hs⟩ := okWide_struct Try.underlying25 hv
  obtain ⟨a, b, c, d, rfl⟩ := four (hs.trans cells25)
  obtain ⟨st, rfl⟩ := okWide_int Try.underlying3 (int_okWide Try.underlying3 (field_okWide Try.underlying25 types25 hv (i := 0) rfl rfl))
  obtain ⟨tk, rfl⟩ := okWide_int Try.underlying3 (int_okWide Try.underlying3 (field_okWide Try.underlying25 types25 hv (i := 3) rfl rfl))
  have kb : Value.okWide Try.prog w .any b0 22 b := slice_okWide Try.underlying22 (field_okWide Try.underlying25 types25 hv (i := 1) rfl rfl)
  have kc : Value.okWide Try.prog w .any b0 23 c := slice_okWide Try.underlying23 (field_okWide Try.underlying25 types25 hv (i := 2) rfl rfl)
  obtain ⟨xb, lb, cb, eb⟩ := okWide_slice Try.underlying22 kb
  obtain ⟨xc, lc, cc, ec⟩ := okWide_slice Try.underlying23 kc
  obtain ⟨d1, p1, t1⟩ := field_trod Try.underlying25 h (j := 1) (v := b) rfl cells22 rfl (by rw [eb]; rfl)
  obtain ⟨d2, p2, t2⟩ := field_trod Try.underlying25 h (j := 2) (v := c) rfl cells23 rfl (by rw [ec]; rfl)
  exact ⟨st, tk, b, c, rfl, arg_al (enc := e2) Try.underlying22 leaves49 cells49 kb t1 (fun _ => rfl) dec2, arg_al (enc := e3) Try.underlying23 leaves86 cells86 kc t2 (fun _ => rfl) dec3⟩
theorem arg_truth (hv : Value.okWide Try.prog w .any b0 28 v) (h : DataW.Trod enc Try.prog w base (fun _ => true) held 28 v dd p) : TruthA w v := by
  obtain ⟨C, rfl, hs⟩ := okWide_struct Try.underlying28 hv
  obtain ⟨a, b, rfl⟩ := two (hs.trans cells28)
  have ka : Value.okWide Try.prog w .any b0 26 a := slice_okWide Try.underlying26 (field_okWide Try.underlying28 types28 hv (i := 0) rfl rfl)
  have kb : Value.okWide Try.prog w .any b0 26 b := slice_okWide Try.underlying26 (field_okWide Try.underlying28 types28 hv (i := 1) rfl rfl)
  obtain ⟨xa, la, ca, ea⟩ := okWide_slice Try.underlying26 ka
  obtain ⟨xb, lb, cb, eb⟩ := okWide_slice Try.underlying26 kb
  obtain ⟨d1, p1, t1⟩ := field_trod Try.underlying28 h (j := 0) (v := a) rfl cells26 rfl (by rw [ea]; rfl)
  obtain ⟨d2, p2, t2⟩ := field_trod Try.underlying28 h (j := 1) (v := b) rfl cells26 rfl (by rw [eb]; rfl)
  exact ⟨a, b, rfl, arg_al (enc := eK .i64) Try.underlying26 leaves3 cells3 ka t1 (fun _ => rfl) decK, arg_al (enc := eK .i64) Try.underlying26 leaves3 cells3 kb t2 (fun _ => rfl) decK⟩
theorem arg_words (hv : Value.okWide Try.prog w .any b0 77 v) (h : DataW.Trod enc Try.prog w base (fun _ => true) held 77 v dd p) : AL (eK .u16) 1 w v (fun x => IntKind.u16.min ≤ x ∧ x ≤ IntKind.u16.max) :=
  arg_alK Try.underlying77 Try.underlying90 leaves90 cells90 hv h
end
end Go.Hx

/- Words are within their kind. -/
namespace Go.Hx
theorem w16 {l : List Int} (h : ∀ x ∈ l, IntKind.u16.min ≤ x ∧ x ≤ IntKind.u16.max) : ∀ x ∈ l, 0 ≤ x ∧ x < 65536 := fun x hx => by
  have := h x hx
  have e1 : IntKind.u16.min = 0 := rfl
  have e2 : IntKind.u16.max = 65535 := rfl
  omega
end Go.Hx

