import Derived.Test.YtcejjaaoainfjaaH05
import Derived.Test.YtcejjaaoainfjaaH06
import Derived.Test.YtcejjaaoainfjaaH00
import Derived.Test.YtcejjaaoainfjaaH02
import Derived.Test.YtcejjaaoainfjaaH01
import Derived.Test.YtcejjaaoainfjaaH03
import Derived.OpenShut
import Derived.ChangeSlices
import Derived.Test.YtcejjaaoainfjaaRows
set_option linter.all false
namespace Go.Hx.V
open Go.Hx
def lI (T f g m : Int) (x y : Int × (Nat → Int)) : Option ((Int × (Nat → Int)) ⊕ (Nat → Int)) :=
 (bif (decide (y.1 < T)) then (ck (0 ≤ g ∧ g < 13) ((ck (0 ≤ y.1 ∧ y.1 < 13) ((ck (rng (((x.2 (((Int.toNat x.1) * 13) + (Int.toNat f))) + m) + (y.2 (((Int.toNat g) * 13) + (Int.toNat y.1))))) ((ck (0 ≤ x.1 ∧ x.1 < 13) ((ck (0 ≤ y.1 ∧ y.1 < 13) ((bif (decide ((((x.2 (((Int.toNat x.1) * 13) + (Int.toNat f))) + m) + (y.2 (((Int.toNat g) * 13) + (Int.toNat y.1)))) < (y.2 (((Int.toNat x.1) * 13) + (Int.toNat y.1))))) then (ck (0 ≤ x.1 ∧ x.1 < 13) ((ck (0 ≤ y.1 ∧ y.1 < 13) ((ck (rng (y.1 + (1 : Int))) (some (.inl ((y.1 + (1 : Int)), (ups y.2 (((Int.toNat x.1) * 13) + (Int.toNat y.1)) (((x.2 (((Int.toNat x.1) * 13) + (Int.toNat f))) + m) + (y.2 (((Int.toNat g) * 13) + (Int.toNat y.1))))))))))))) else (ck (rng (y.1 + (1 : Int))) (some (.inl ((y.1 + (1 : Int)), y.2))))))))))))))) else some (.inr y.2))
def lO (N : Nat) (T f g m : Int) (x : Int × (Nat → Int)) : Option ((Int × (Nat → Int)) ⊕ (Nat → Int)) :=
 (bif (decide (x.1 < T)) then (ck (0 ≤ x.1 ∧ x.1 < 13) ((ck (0 ≤ f ∧ f < 13) ((ck (rng ((x.2 (((Int.toNat x.1) * 13) + (Int.toNat f))) + m)) ((ck (0 ≤ x.1 ∧ x.1 < 13) ((ck (0 ≤ g ∧ g < 13) ((bif (decide ((x.2 (((Int.toNat x.1) * 13) + (Int.toNat g))) ≤ ((x.2 (((Int.toNat x.1) * 13) + (Int.toNat f))) + m))) then (ck (rng (x.1 + (1 : Int))) (some (.inl ((x.1 + (1 : Int)), x.2)))) else bnd (iter (lI T f g m x) N ((0 : Int), x.2)) (fun y133 => (ck (rng (x.1 + (1 : Int))) (some (.inl ((x.1 + (1 : Int)), y133)))))))))))))))) else some (.inr x.2))
theorem toN (a : Nat) : Int.toNat (a : Int) = a := Int.toNat_natCast a
theorem dv {a b : Nat} (h : b < 13) : (a * 13 + b) / 13 = a := by omega
theorem md {a b : Nat} (h : b < 13) : (a * 13 + b) % 13 = b := by omega
def rowR (i f g : Nat) (m : Int) (F : Nat → Int) (j : Nat) : Nat → Int := fun q => if q / 13 = i ∧ q % 13 < j then min (F q) (F (i * 13 + f) + m + F (g * 13 + q % 13)) else F q
theorem lI_run {n i f g N : Nat} {m : Int} {F : Nat → Int} (hn : n ≤ 12) (hi : i ≤ n) (hf : f ≤ n) (hg : g ≤ n) (hne : g ≠ i) (hb : ∀ j, j ≤ n → rng (F (i * 13 + f) + m + F (g * 13 + j))) (hN : n + 1 < N) :
  iter (lI ((n : Int) + 1) f g m ((i : Int), F)) N ((0 : Int), F) = some (rowR i f g m F (n + 1)) := by
 refine yz (fun j => ((j : Int), rowR i f g m F j)) (n + 1) _ ?_ (fun j hj => ?_) ?_ hN
 ·refine Prod.ext rfl ?_
  funext q
  unfold rowR
  dsimp only
  rw [if_neg (by omega)]
 ·have e1 : rowR i f g m F j (g * 13 + j) = F (g * 13 + j) := by unfold rowR; rw [if_neg (by omega)]
  have e2 : rowR i f g m F j (i * 13 + j) = F (i * 13 + j) := by unfold rowR; rw [if_neg (by omega)]
  unfold lI
  simp only [toN]
  rw [show decide ((j : Int) < (n : Int) + 1) = true from decide_eq_true (by omega), cond_true, zr (by omega), zr (by omega), e1, e2, zr (hb j (by omega)), zr (by omega), zr (by omega)]
  have hr : rng ((j : Int) + 1) := by unfold rng; omega
  by_cases hc : F (i * 13 + f) + m + F (g * 13 + j) < F (i * 13 + j)
  ·rw [decide_eq_true hc, cond_true, zr (by omega), zr (by omega), zr hr]
   congr 3
   funext q
   unfold ups rowR
   by_cases hq : q = i * 13 + j
   ·subst hq
    rw [if_pos rfl, if_pos (by omega), md (by omega)]; omega
   ·rw [if_neg hq]
    by_cases h1 : q / 13 = i ∧ q % 13 < j
    ·rw [if_pos h1, if_pos (by omega)]
    ·rw [if_neg h1, if_neg (by omega)]
  ·rw [decide_eq_false hc, cond_false, zr hr]
   congr 3
   funext q
   unfold rowR
   by_cases hq : q = i * 13 + j
   ·subst hq
    rw [if_neg (by omega), if_pos (by omega), md (by omega)]; omega
   ·by_cases h1 : q / 13 = i ∧ q % 13 < j
    ·rw [if_pos h1, if_pos (by omega)]
    ·rw [if_neg h1, if_neg (by omega)]
 ·unfold lI
  dsimp only
  rw [show decide (((n + 1 : Nat) : Int) < (n : Int) + 1) = false from decide_eq_false (by omega), cond_false]
structure Gd (n : Nat) (F : Nat → Int) : Prop where
 tri : ∀ i j k, i ≤ n → j ≤ n → k ≤ n → F (i * 13 + k) ≤ F (i * 13 + j) + F (j * 13 + k)
 dg : ∀ i, i ≤ n → F (i * 13 + i) = 0
 ub : ∀ i j, i ≤ n → j ≤ n → F (i * 13 + j) ≤ 4000
theorem Gd.lb {n : Nat} {F : Nat → Int} (h : Gd n F) {i j : Nat} (hi : i ≤ n) (hj : j ≤ n) : -4000 ≤ F (i * 13 + j) := by
 have := h.tri i j i hi hj hi
 have := h.dg i hi
 have := h.ub j i hj hi
 omega
def rowS (n f g : Nat) (m : Int) (F : Nat → Int) (k : Nat) : Nat → Int := fun q => if q / 13 < k ∧ q % 13 ≤ n then min (F q) (F (q / 13 * 13 + f) + m + F (g * 13 + q % 13)) else F q
theorem XY {n f g N : Nat} {m : Int} {F : Nat → Int} (hn : n ≤ 12) (hf : f ≤ n) (hg : g ≤ n) (h : Gd n F) (hm : -1000000 ≤ m ∧ m ≤ 1000000) (hc : 0 ≤ m + F (g * 13 + f)) (hN : n + 1 < N) :
  iter (lO N ((n : Int) + 1) f g m) N ((0 : Int), F) = some (rowS n f g m F (n + 1)) := by
 refine yz (fun k => ((k : Int), rowS n f g m F k)) (n + 1) _ ?_ (fun k hk => ?_) ?_ hN
 ·refine Prod.ext rfl ?_
  funext q
  unfold rowS
  dsimp only
  rw [if_neg (by omega)]
 ·have e1 : ∀ j, j ≤ n → rowS n f g m F k (k * 13 + j) = F (k * 13 + j) := fun j hj => by unfold rowS; rw [if_neg (by omega)]
  have e2 : ∀ j, j ≤ n → rowS n f g m F k (g * 13 + j) = F (g * 13 + j) := fun j hj => by
   unfold rowS
   split
   ·rw [dv (by omega), md (by omega)]; omega
   ·rfl
  have b1 := h.ub k f (by omega) hf
  have b2 := h.lb (i := k) (j := f) (by omega) hf
  unfold lO
  simp only [toN]
  rw [show decide ((k : Int) < (n : Int) + 1) = true from decide_eq_true (by omega), cond_true, zr (by omega), zr (by omega), e1 f hf, e1 g hg, zr (by unfold rng; omega), zr (by omega), zr (by omega)]
  have hr : rng ((k : Int) + 1) := by unfold rng; omega
  by_cases hs : F (k * 13 + g) ≤ F (k * 13 + f) + m
  ·rw [decide_eq_true hs, cond_true, zr hr]
   congr 3
   funext q
   unfold rowS
   by_cases h1 : q / 13 < k ∧ q % 13 ≤ n
   ·rw [if_pos h1, if_pos (by omega)]
   ·rw [if_neg h1]
    by_cases h2 : q / 13 = k ∧ q % 13 ≤ n
    ·rw [if_pos (by omega)]
     have t := h.tri k g (q % 13) (by omega) hg h2.2
     rw [h2.1]
     have e : F q = F (k * 13 + q % 13) := congrArg F (by omega)
     rw [e]; omega
    ·rw [if_neg (by omega)]
  ·have hne : g ≠ k := fun e => by
    subst e
    have := h.dg g hg
    omega
   rw [decide_eq_false hs, cond_false, lI_run hn (by omega) hf hg hne (fun j hj => by
    rw [e1 f hf, e2 j hj]
    have := h.ub g j hg hj
    have := h.lb (i := g) (j := j) hg hj
    unfold rng; omega) hN, zi, zr hr]
   congr 3
   funext q
   unfold rowR
   by_cases h2 : q / 13 = k ∧ q % 13 < n + 1
   ·rw [if_pos h2, e1 f hf, e2 (q % 13) (by omega)]
    unfold rowS
    rw [if_neg (by omega), if_pos (by omega), h2.1]
   ·rw [if_neg h2]
    unfold rowS
    by_cases h1 : q / 13 < k ∧ q % 13 ≤ n
    ·rw [if_pos h1, if_pos (by omega)]
    ·rw [if_neg h1, if_neg (by omega)]
 ·unfold lO
  dsimp only
  rw [show decide (((n + 1 : Nat) : Int) < (n : Int) + 1) = false from decide_eq_false (by omega), cond_false]
def AllP {α : Type} (p : α → Prop) (l : List α) : Prop := ∀ x, x ∈ l → p x
theorem vy {α ε : Type} {bad : ε} {step : Int → Option (Int ⊕ (ε ⊕ Unit))} {l : List α} {p : α → Prop} [DecidablePred p] {N : Nat} (hN : l.length < N)
  (hs : ∀ (j : Nat) z, l[j]? = some z → p z → step (j : Int) = some (.inl ((j : Int) + 1)))
  (hf : ∀ (j : Nat) z, l[j]? = some z → ¬ p z → step (j : Int) = some (.inr (.inl bad)))
  (he : step (l.length : Int) = some (.inr (.inr ()))) : (AllP p l ∧ iter step N 0 = some (.inr ())) ∨ (¬ AllP p l ∧ iter step N 0 = some (.inl bad)) := by
 have H : ((∀ j, j < l.length → ∀ z, l[j]? = some z → p z) ∧ iter step N (0 : Int) = some (.inr ())) ∨ (¬ (∀ j, j < l.length → ∀ z, l[j]? = some z → p z) ∧ iter step N (0 : Int) = some (.inl bad)) := by
  haveI : DecidablePred fun (j : Nat) => ∀ z, l[j]? = some z → p z := fun j => Classical.propDecidable _
  refine jO (fun j => (j : Int)) l.length (fun j => ∀ z, l[j]? = some z → p z) (Sum.inr () : ε ⊕ Unit) (Sum.inl bad : ε ⊕ Unit) rfl (fun j hj hp => ?_) (fun j hj hp => ?_) he hN
  ·obtain ⟨z, hz⟩ : ∃ z, l[j]? = some z := ⟨_, zO hj⟩
   exact hs j z hz (hp z hz)
  ·obtain ⟨z, hz⟩ : ∃ z, l[j]? = some z := ⟨_, zO hj⟩
   exact hf j z hz fun q => hp fun z' hz' => by rw [hz] at hz'; cases hz'; exact q
 rcases H with ⟨h1, h2⟩ | ⟨h1, h2⟩
 ·refine .inl ⟨fun x hx => ?_, h2⟩
  obtain ⟨j, hj, rfl⟩ := List.getElem_of_mem hx
  exact h1 j hj _ (zO hj)
 ·exact .inr ⟨fun q => h1 fun j hj z hz => q z (List.mem_of_getElem? hz), h2⟩
instance {α : Type} {p : α → Prop} [DecidablePred p] {l : List α} : Decidable (AllP p l) := inferInstanceAs (Decidable (∀ x, x ∈ l → p x))
theorem sL {α β γ : Type} {f : α → Option γ} {g : β → Option γ} {x : α} : sel f g (.inl x) = f x := rfl
theorem sR {α β γ : Type} {f : α → Option γ} {g : β → Option γ} {x : β} : sel f g (.inr x) = g x := rfl
theorem vn {n f g i j : Nat} {m : Int} {F : Nat → Int} (hn : n ≤ 12) (h1 : i ≤ n) (h2 : j ≤ n) : rowS n f g m F (n + 1) (i * 13 + j) = min (F (i * 13 + j)) (F (i * 13 + f) + m + F (g * 13 + j)) := by
 unfold rowS
 rw [if_pos (by omega), dv (by omega), md (by omega)]
theorem gd_lim {n f g : Nat} {m : Int} {F : Nat → Int} (hn : n ≤ 12) (h : Gd n F) (hf : f ≤ n) (hg : g ≤ n) (hm : 0 ≤ m + F (g * 13 + f)) : Gd n (rowS n f g m F (n + 1)) := by
 refine ⟨fun i j k hi hj hk => ?_, fun i hi => ?_, fun i j hi hj => ?_⟩
 ·rw [vn hn hi hk, vn hn hi hj, vn hn hj hk]
  have := h.tri i j k hi hj hk
  have := h.tri i j f hi hj hf
  have := h.tri g j k hg hj hk
  have := h.tri g j f hg hj hf
  omega
 ·rw [vn hn hi hi, h.dg i hi]
  have := h.tri g i f hg hi hf
  omega
 ·rw [vn hn hi hj]
  have := h.ub i j hi hj
  omega
def SatF (n : Nat) (F : Nat → Int) (p : Nat → Int) : Prop := ∀ i j, i ≤ n → j ≤ n → p j - p i ≤ F (i * 13 + j)
theorem Yn {n f g : Nat} {m : Int} {F p : Nat → Int} (hn : n ≤ 12) (h : Gd n F) (hf : f ≤ n) (hg : g ≤ n) : SatF n (rowS n f g m F (n + 1)) p ↔ SatF n F p ∧ p g - p f ≤ m := by
 refine ⟨fun hs => ⟨fun i j hi hj => ?_, ?_⟩, fun ⟨h1, h2⟩ i j hi hj => ?_⟩
 ·have := hs i j hi hj
  rw [vn hn hi hj] at this; omega
 ·have := hs f g hf hg
  rw [vn hn hf hg, h.dg f hf, h.dg g hg] at this; omega
 ·have a1 := h1 i j hi hj
  have a2 := h1 i f hi hf
  have a3 := h1 g j hg hj
  rw [vn hn hi hj]; omega
theorem iter_s {α β : Type} {step : α → Option (α ⊕ β)} {x x' : α} {M : Nat} (h : step x = some (.inl x')) : iter step (M + 1) x = iter step M x' := by
 conv => lhs; unfold iter
 rw [h]; rfl
theorem jN {α β : Type} {step : α → Option (α ⊕ β)} {x : α} {y : β} {M : Nat} (h : step x = some (.inr y)) : iter step (M + 1) x = some y := by
 unfold iter
 rw [h]; rfl
theorem kB {n : Nat} {F : Nat → Int} (h : Gd n F) : SatF n F fun j => -F (j * 13 + 0) := fun i j hi hj => by
 have := h.tri i j 0 hi hj (Nat.zero_le _)
 show -F (j * 13 + 0) - -F (i * 13 + 0) ≤ _
 omega
theorem Xi {n : Nat} {F : Nat → Int} (h : Gd n F) : SatF n F fun j => F (0 * 13 + j) := fun i j hi hj => by
 have := h.tri 0 i j (Nat.zero_le _) hi hj
 show F (0 * 13 + j) - F (0 * 13 + i) ≤ _
 omega
end Go.Hx.V

namespace Go.Hx.V
open Go.Hx
abbrev Ba := Int × Int × List (Int × Int)
def OffOk (r : Int × Int) : Prop := -100 ≤ r.1 ∧ r.1 ≤ r.2 ∧ r.2 ≤ 100
instance : DecidablePred OffOk := fun r => inferInstanceAs (Decidable (_ ∧ _))
def RdOk (m : Nat) (r : Int × Int) : Prop := (0 ≤ r.1 ∧ r.1 < (m : Int)) ∧ -1000 ≤ r.2 ∧ r.2 ≤ 2000
instance {m : Nat} : DecidablePred (RdOk m) := fun r => inferInstanceAs (Decidable (_ ∧ _))
def Once (l : List (Int × Int)) : Prop := ∀ (i j : Nat) (a b : Int × Int), i < j → l[i]? = some a → l[j]? = some b → a.1 ≠ b.1
def HtOk (a b : Int) : Prop := 0 ≤ a ∧ a ≤ b ∧ b ≤ 1000
def BathOk (m : Nat) (b : Ba) : Prop := HtOk b.1 b.2.1 ∧ AllP (RdOk m) b.2.2 ∧ Once b.2.2
def SerOk (off : List (Int × Int)) (er : Int) (B : List Ba) : Prop := (1 ≤ off.length ∧ off.length ≤ 6) ∧ AllP OffOk off ∧ (0 ≤ er ∧ er ≤ 20) ∧ B.length ≤ 6 ∧ AllP (BathOk off.length) B
theorem s123 {N : Nat} {p q a b : Int} : sf123 N p q a b = some (decide (a ≤ p ∧ p ≤ q ∧ q ≤ b)) := by
 unfold sf123
 by_cases h1 : a ≤ p
 ·rw [decide_eq_true h1, cond_true]
  by_cases h2 : p ≤ q
  ·rw [decide_eq_true h2, cond_true]
   congr 1
   by_cases h3 : q ≤ b
   ·rw [decide_eq_true h3, decide_eq_true ⟨h1, h2, h3⟩]
   ·rw [decide_eq_false h3, decide_eq_false (fun h => h3 h.2.2)]
  ·rw [decide_eq_false h2, cond_false, decide_eq_false (fun h => h2 h.2.1)]
 ·rw [decide_eq_false h1, cond_false, decide_eq_false (fun h => h1 h.1)]
theorem s99 {N : Nat} {z : Int × Int} : sf99 N z.1 z.2 = some (decide (OffOk z)) := by
 unfold sf99; rw [s123, zi]; rfl
theorem s113 {N : Nat} {a b : Int} : sf113 N a b = some (decide (0 ≤ a ∧ a ≤ b ∧ b ≤ 1000)) := by
 unfold sf113; rw [s123, zi]
theorem s98 {N : Nat} {l : List (Int × Int)} (h : l.length ≤ 100) (hN : 1000 ≤ N) : (AllP OffOk l ∧ sf98 N l = some true) ∨ (¬ AllP OffOk l ∧ sf98 N l = some false) := by
 unfold sf98
 rcases vy (step := sf98_L1 N l) (l := l) (p := OffOk) (N := N) (by omega) (by
   intro j z hz hp
   have := zY hz
   unfold sf98_L1
   rw [decide_eq_true (by omega), cond_true, z3 rfl hz, s99, zi, decide_eq_true hp, Bool.not_true, cond_false, zr (by unfold rng; omega)]) (by
   intro j z hz hp
   have := zY hz
   unfold sf98_L1
   rw [decide_eq_true (by omega), cond_true, z3 rfl hz, s99, zi, decide_eq_false hp]
   rfl) (by
   unfold sf98_L1
   rw [decide_eq_false (by omega), cond_false]) with ⟨hA, e⟩ | ⟨hA, e⟩
 ·exact .inl ⟨hA, by rw [e, zi]; rfl⟩
 ·exact .inr ⟨hA, by rw [e, zi]; rfl⟩
section
variable {off : List (Int × Int)} {er : Int} {B : List Ba} {N : Nat}
theorem s77 {a : Int} : sf77 N off er B a = some (decide (0 ≤ a ∧ a < (off.length : Int))) := by
 unfold sf77
 by_cases h1 : 0 ≤ a
 ·rw [decide_eq_true h1, cond_true]
  congr 1
  by_cases h2 : a < (off.length : Int)
  ·rw [decide_eq_true h2, decide_eq_true ⟨h1, h2⟩]
  ·rw [decide_eq_false h2, decide_eq_false (fun h => h2 h.2)]
 ·rw [decide_eq_false h1, cond_false, decide_eq_false (fun h => h1 h.1)]
theorem s125 {r : Int × Int} : sf125 N off er B r.1 r.2 = some (decide (RdOk off.length r)) := by
 unfold sf125
 rw [s77, zi]
 by_cases h1 : 0 ≤ r.1 ∧ r.1 < (off.length : Int)
 ·rw [decide_eq_true h1, cond_true]
  by_cases h2 : -1000 ≤ r.2
  ·rw [decide_eq_true h2, cond_true]
   congr 1
   by_cases h3 : r.2 ≤ 2000
   ·rw [decide_eq_true h3, decide_eq_true (show RdOk off.length r from ⟨h1, h2, h3⟩)]
   ·rw [decide_eq_false h3, decide_eq_false (show ¬ RdOk off.length r from fun h => h3 h.2.2)]
  ·rw [decide_eq_false h2, cond_false, decide_eq_false (show ¬ RdOk off.length r from fun h => h2 h.2.1)]
 ·rw [decide_eq_false h1, cond_false, decide_eq_false (show ¬ RdOk off.length r from fun h => h1 h.1)]
theorem s124 {l : List (Int × Int)} (h : l.length ≤ 100) (hN : 1000 ≤ N) : (AllP (RdOk off.length) l ∧ sf124 N l off er B = some true) ∨ (¬ AllP (RdOk off.length) l ∧ sf124 N l off er B = some false) := by
 unfold sf124
 rcases vy (step := sf124_L1 N l off er B) (l := l) (p := RdOk off.length) (N := N) (by omega) (by
   intro j z hz hp
   have := zY hz
   unfold sf124_L1
   rw [decide_eq_true (by omega), cond_true, z3 rfl hz, s125, zi, decide_eq_true hp, Bool.not_true, cond_false, zr (by unfold rng; omega)]) (by
   intro j z hz hp
   have := zY hz
   unfold sf124_L1
   rw [decide_eq_true (by omega), cond_true, z3 rfl hz, s125, zi, decide_eq_false hp]
   rfl) (by
   unfold sf124_L1
   rw [decide_eq_false (by omega), cond_false]) with ⟨hA, e⟩ | ⟨hA, e⟩
 ·exact .inl ⟨hA, by rw [e, zi]; rfl⟩
 ·exact .inr ⟨hA, by rw [e, zi]; rfl⟩
noncomputable def met (l : List (Int × Int)) (j : Nat) : Int → Option Bool := open Classical in fun k => if ∃ i a, i < j ∧ l[i]? = some a ∧ a.1 = k then some true else none
theorem s126 {a b : Int} {l : List (Int × Int)} (h : l.length ≤ 100) (hN : 1000 ≤ N) : (Once l ∧ sf126 N a b l = some true) ∨ (¬ Once l ∧ sf126 N a b l = some false) := by
 classical
 unfold sf126
 obtain ⟨y, e, hy⟩ := y4 (step := sf126_L1 l) (fun x => ∃ j : Nat, j ≤ l.length ∧ x = ((j : Int), met l j) ∧ ∀ (i k : Nat) (a b : Int × Int), i < k → k < j → l[i]? = some a → l[k]? = some b → a.1 ≠ b.1) (fun x => l.length - x.1.toNat)
  (fun y => (∃ m, y = .inl m ∧ ¬ Once l) ∨ (∃ m, y = .inr m ∧ Once l)) (by
   rintro x ⟨j, hj, rfl, ho⟩
   by_cases hlt : j < l.length
   ·obtain ⟨z, hz⟩ : ∃ z, l[j]? = some z := ⟨_, zO hlt⟩
    by_cases hm : ∃ i a, i < j ∧ l[i]? = some a ∧ a.1 = z.1
    ·refine .inr ⟨.inl (met l j), ?_, .inl ⟨_, rfl, fun hO => ?_⟩⟩
     ·unfold sf126_L1
      rw [decide_eq_true (by simpa using hlt), cond_true, z3 rfl hz]
      have : met l j z.1 = some true := by unfold met; rw [if_pos hm]
      dsimp only
      rw [this]; rfl
     ·obtain ⟨i, a, h1, h2, h3⟩ := hm
      exact hO i j a z h1 h2 hz h3
    ·refine .inl ⟨(((j + 1 : Nat) : Int), met l (j + 1)), ?_, ⟨j + 1, by omega, rfl, fun i k a b h1 h2 h3 h4 => ?_⟩, by simp; omega⟩
     ·unfold sf126_L1
      rw [decide_eq_true (by simpa using hlt), cond_true, z3 rfl hz]
      have : met l j z.1 = none := by unfold met; rw [if_neg hm]
      dsimp only
      rw [this, show Option.getD (none : Option Bool) false = false from rfl, cond_false, zr (by unfold rng; omega)]
      have e2 : upm (met l j) z.1 true = met l (j + 1) := by
       funext k
       unfold upm met
       by_cases hk : k = z.1
       ·rw [if_pos hk, if_pos ⟨j, z, by omega, hz, hk.symm⟩]
       ·rw [if_neg hk]
        by_cases g : ∃ i a, i < j ∧ l[i]? = some a ∧ a.1 = k
        ·obtain ⟨i, a, g1, g2, g3⟩ := g
         rw [if_pos ⟨i, a, g1, g2, g3⟩, if_pos ⟨i, a, by omega, g2, g3⟩]
        ·rw [if_neg g, if_neg]
         rintro ⟨i, a, g1, g2, g3⟩
         by_cases e : i = j
         ·subst e; rw [hz] at g2; cases g2; exact hk g3.symm
         ·exact g ⟨i, a, by omega, g2, g3⟩
      rw [e2]; rfl
     ·by_cases e : k = j
      ·subst e; rw [hz] at h4; cases h4
       exact fun h5 => hm ⟨i, a, h1, h3, h5⟩
      ·exact ho i k a b h1 (by omega) h3 h4
   ·have e : j = l.length := by omega
    subst e
    refine .inr ⟨.inr (met l l.length), ?_, .inr ⟨_, rfl, fun i k a b h1 h3 h4 => ho i k a b h1 (zY h4) h3 h4⟩⟩
    unfold sf126_L1
    rw [decide_eq_false (by simp), cond_false]) N ((0 : Int), (fun _ => none)) ⟨0, by omega, by
    refine Prod.ext rfl ?_
    funext k
    unfold met
    dsimp only
    rw [if_neg]
    rintro ⟨i, a, h1, _⟩; omega, fun i k a b h1 h2 => by omega⟩ (by simp; omega)
 rw [e, zi]
 rcases hy with ⟨m, rfl, h⟩ | ⟨m, rfl, h⟩
 ·exact .inr ⟨h, rfl⟩
 ·exact .inl ⟨h, rfl⟩
theorem s101 {b : Ba} (h : b.2.2.length ≤ 100) (hN : 1000 ≤ N) : (BathOk off.length b ∧ sf101 N off er B b.1 b.2.1 b.2.2 = some true) ∨ (¬ BathOk off.length b ∧ sf101 N off er B b.1 b.2.1 b.2.2 = some false) := by
 unfold sf101
 rw [s113, zi]
 by_cases h1 : HtOk b.1 b.2.1
 ·rw [decide_eq_true (p := 0 ≤ b.1 ∧ b.1 ≤ b.2.1 ∧ b.2.1 ≤ 1000) h1, cond_true]
  rcases s124 (off := off) (er := er) (B := B) h hN with ⟨h2, e⟩ | ⟨h2, e⟩
  ·rw [e, zi, cond_true]
   rcases s126 (a := b.1) (b := b.2.1) h hN with ⟨h3, e⟩ | ⟨h3, e⟩
   ·rw [e, zi]; exact .inl ⟨⟨h1, h2, h3⟩, rfl⟩
   ·rw [e, zi]; exact .inr ⟨fun g => h3 g.2.2, rfl⟩
  ·rw [e, zi, cond_false]; exact .inr ⟨fun g => h2 g.2.1, rfl⟩
 ·rw [decide_eq_false (p := 0 ≤ b.1 ∧ b.1 ≤ b.2.1 ∧ b.2.1 ≤ 1000) h1, cond_false]
  exact .inr ⟨fun g => h1 g.1, rfl⟩
def Short (B : List Ba) : Prop := ∀ b, b ∈ B → b.2.2.length ≤ 100
theorem s100 {C : List Ba} (h : C.length ≤ 100) (hs : Short C) (hN : 1000 ≤ N) : (AllP (BathOk off.length) C ∧ sf100 N C off er B = some true) ∨ (¬ AllP (BathOk off.length) C ∧ sf100 N C off er B = some false) := by
 classical
 unfold sf100
 rcases vy (step := sf100_L1 N C off er B) (l := C) (p := BathOk off.length) (N := N) (by omega) (by
   intro j z hz hp
   have := zY hz
   unfold sf100_L1
   rw [decide_eq_true (by omega), cond_true, z3 rfl hz]
   rcases s101 (off := off) (er := er) (B := B) (hs z (List.mem_of_getElem? hz)) hN with ⟨_, e⟩ | ⟨g, _⟩
   ·rw [e, zi, Bool.not_true, cond_false, zr (by unfold rng; omega)]
   ·exact absurd hp g) (by
   intro j z hz hp
   have := zY hz
   unfold sf100_L1
   rw [decide_eq_true (by omega), cond_true, z3 rfl hz]
   rcases s101 (off := off) (er := er) (B := B) (hs z (List.mem_of_getElem? hz)) hN with ⟨g, _⟩ | ⟨_, e⟩
   ·exact absurd g hp
   ·rw [e, zi]; rfl) (by
   unfold sf100_L1
   rw [decide_eq_false (by omega), cond_false]) with ⟨hA, e⟩ | ⟨hA, e⟩
 ·exact .inl ⟨hA, by rw [e, zi]; rfl⟩
 ·exact .inr ⟨hA, by rw [e, zi]; rfl⟩
theorem s69 (h1 : off.length ≤ 6) (h2 : B.length ≤ 6) (hs : Short B) (hN : 1000 ≤ N) : (SerOk off er B ∧ sf69 N off er B = some true) ∨ (¬ SerOk off er B ∧ sf69 N off er B = some false) := by
 unfold sf69
 by_cases c1 : (0 : Int) < (off.length : Int)
 ·rw [decide_eq_true c1, cond_true]
  rcases s98 (l := off) (N := N) (by omega) hN with ⟨c2, e⟩ | ⟨c2, e⟩
  ·rw [e, zi, cond_true]
   by_cases c3 : 0 ≤ er
   ·rw [decide_eq_true c3, cond_true]
    by_cases c4 : er ≤ 20
    ·rw [decide_eq_true c4, cond_true]
     rcases s100 (off := off) (er := er) (B := B) (C := B) (by omega) hs hN with ⟨c5, e⟩ | ⟨c5, e⟩
     ·rw [e, zi]; exact .inl ⟨⟨⟨by omega, h1⟩, c2, ⟨c3, c4⟩, h2, c5⟩, rfl⟩
     ·rw [e, zi]; exact .inr ⟨fun g => c5 g.2.2.2.2, rfl⟩
    ·rw [decide_eq_false c4, cond_false]; exact .inr ⟨fun g => c4 g.2.2.1.2, rfl⟩
   ·rw [decide_eq_false c3, cond_false]; exact .inr ⟨fun g => c3 g.2.2.1.1, rfl⟩
  ·rw [e, zi, cond_false]; exact .inr ⟨fun g => c2 g.2.1, rfl⟩
 ·rw [decide_eq_false c1, cond_false]; exact .inr ⟨fun g => c1 (by have := g.1.1; omega), rfl⟩
noncomputable def code (off : List (Int × Int)) (er : Int) (B : List Ba) : Int := open Classical in if 6 < off.length ∨ 6 < B.length then 3 else if SerOk off er B then 0 else 1
theorem jo (h : SerOk off er B) : code off er B = 0 := by
 unfold code
 rw [if_neg (by have := h.1; have := h.2.2.2.1; omega), if_pos h]
theorem Y0 (h : code off er B = 0) : SerOk off er B := by
 unfold code at h
 split at h
 ·cases h
 ·split at h
  ·assumption
  ·cases h
theorem s21 (hs : Short B) (hN : 1000 ≤ N) : sf21 N off er B = some (code off er B) := by
 unfold sf21 code
 by_cases c1 : (6 : Int) < (off.length : Int)
 ·rw [decide_eq_true c1, if_pos (.inl (by omega))]; rfl
 ·rw [decide_eq_false c1, cond_false, zi]
  by_cases c2 : (6 : Int) < (B.length : Int)
  ·rw [decide_eq_true c2, if_pos (.inr (by omega))]; rfl
  ·rw [decide_eq_false c2, cond_false, if_neg (by omega)]
   rcases s69 (off := off) (er := er) (B := B) (by omega) (by omega) hs hN with ⟨c, e⟩ | ⟨c, e⟩
   ·rw [e, zi, if_pos c]; rfl
   ·rw [e, zi, if_neg c]; rfl
end
end Go.Hx.V

namespace Go.Hx.V
open Go.Hx
def stand (off : List (Int × Int)) (B : List Ba) : List (Int × Int) := [((0 : Int), (0 : Int))] ++ off ++ B.map fun b => (-b.2.1, -b.1)
theorem uQ {off : List (Int × Int)} {B : List Ba} : (stand off B).length = 1 + off.length + B.length := by unfold stand; simp; omega
def StOk (r : Int × Int) : Prop := -1000 ≤ r.1 ∧ r.1 ≤ r.2 ∧ r.2 ≤ 100
section
variable {off : List (Int × Int)} {er : Int} {B : List Ba} {N : Nat}
theorem kM (h : SerOk off er B) : AllP StOk (stand off B) := by
 intro r hr
 unfold stand at hr
 rcases List.mem_append.1 hr with hr | hr
 ·rcases List.mem_append.1 hr with hr | hr
  ·rw [List.mem_singleton.1 hr]; exact ⟨by decide, by decide, by decide⟩
  ·have := h.2.1 r hr
   unfold OffOk at this
   unfold StOk; omega
 ·obtain ⟨b, hb, rfl⟩ := List.mem_map.1 hr
  have := (h.2.2.2.2 b hb).1
  unfold HtOk at this
  unfold StOk
  dsimp only
  omega
def farF (st : List (Int × Int)) (i j : Nat) : Int := if i = j then 0 else ((st[j]?).getD (0, 0)).2 - ((st[i]?).getD (0, 0)).1
def uG (st : List (Int × Int)) (i j : Nat) : Nat → Int := fun q => if q / 13 < st.length ∧ q % 13 < st.length ∧ (q / 13 < i ∨ (q / 13 = i ∧ q % 13 < j)) then farF st (q / 13) (q % 13) else 0
theorem u_in1 {st : List (Int × Int)} {i : Nat} {x : Int × Int} (hl : st.length ≤ 13) (hx : st[i]? = some x) (hs : AllP StOk st) (hN : 1000 ≤ N) :
  iter (sf107_L2 st ((i : Int), uG st i 0) x) N ((0 : Int), uG st i 0) = some (uG st i st.length) := by
 have hi := zY hx
 have hxs := hs x (List.mem_of_getElem? hx)
 unfold StOk at hxs
 refine yz (fun j => ((j : Int), uG st i j)) st.length _ rfl (fun j hj => ?_) ?_ (by omega)
 ·obtain ⟨z, hz⟩ : ∃ z, st[j]? = some z := ⟨_, zO hj⟩
  have hzs := hs z (List.mem_of_getElem? hz)
  unfold StOk at hzs
  unfold sf107_L2
  dsimp only
  rw [decide_eq_true (by omega), cond_true, z3 rfl hz]
  by_cases e : i = j
  ·subst e
   rw [decide_eq_true (p := (i : Int) = (i : Int)) rfl, Bool.not_true, cond_false, zr (by unfold rng; omega)]
   congr 3
   funext q
   unfold uG
   by_cases h1 : q / 13 < st.length ∧ q % 13 < st.length ∧ (q / 13 < i ∨ (q / 13 = i ∧ q % 13 < i))
   ·rw [if_pos h1, if_pos (by omega)]
   ·rw [if_neg h1]
    by_cases h2 : q / 13 = i ∧ q % 13 = i
    ·rw [if_pos (by omega), h2.1, h2.2]; unfold farF; rw [if_pos rfl]
    ·rw [if_neg (by omega)]
  ·rw [decide_eq_false (p := (i : Int) = (j : Int)) (by omega), Bool.not_false, cond_true, zr (by unfold rng; omega), zr (by omega), zr (by omega), zr (by unfold rng; omega)]
   congr 3
   funext q
   unfold ups uG
   simp only [toN]
   by_cases hq : q = i * 13 + j
   ·subst hq
    rw [if_pos rfl, if_pos (by rw [dv (by omega), md (by omega)]; omega), dv (by omega), md (by omega)]
    unfold farF
    rw [if_neg e, hz, hx]; rfl
   ·rw [if_neg hq]
    by_cases h1 : q / 13 < st.length ∧ q % 13 < st.length ∧ (q / 13 < i ∨ (q / 13 = i ∧ q % 13 < j))
    ·rw [if_pos h1, if_pos (by omega)]
    ·rw [if_neg h1, if_neg (by omega)]
 ·unfold sf107_L2
  rw [decide_eq_false (by omega), cond_false]
theorem u_out1 {st : List (Int × Int)} (hl : st.length ≤ 13) (hs : AllP StOk st) (hN : 1000 ≤ N) :
  iter (sf107_L3 N st) N ((0 : Int), (fun _ => 0)) = some (uG st st.length 0) := by
 refine yz (fun i => ((i : Int), uG st i 0)) st.length _ ?_ (fun i hi => ?_) ?_ (by omega)
 ·refine Prod.ext rfl ?_
  funext q
  unfold uG
  dsimp only
  rw [if_neg (by omega)]
 ·obtain ⟨x, hx⟩ : ∃ x, st[i]? = some x := ⟨_, zO hi⟩
  unfold sf107_L3
  dsimp only
  rw [decide_eq_true (by omega), cond_true, z3 rfl hx, u_in1 hl hx hs hN, zi, zr (by unfold rng; omega)]
  congr 3
  funext q
  unfold uG
  by_cases h1 : q / 13 < st.length ∧ q % 13 < st.length ∧ (q / 13 < i ∨ (q / 13 = i ∧ q % 13 < st.length))
  ·rw [if_pos h1, if_pos (by omega)]
  ·rw [if_neg h1, if_neg (by omega)]
 ·unfold sf107_L3
  rw [decide_eq_false (by omega), cond_false]
theorem jb {st : List (Int × Int)} {i j : Nat} (hl : st.length ≤ 13) (hi : i < st.length) (hj : j < st.length) : uG st st.length 0 (i * 13 + j) = farF st i j := by
 unfold uG
 rw [dv (by omega), md (by omega), if_pos (by omega)]
theorem ur {st : List (Int × Int)} {i j : Nat} {a b : Int × Int} (ha : st[i]? = some a) (hb : st[j]? = some b) (h : i ≠ j) : farF st i j = b.2 - a.1 := by
 unfold farF; rw [if_neg h, ha, hb]; rfl
theorem kc {st : List (Int × Int)} {i : Nat} : farF st i i = 0 := by unfold farF; rw [if_pos rfl]
theorem gd_st {st : List (Int × Int)} {n : Nat} (hn : st.length = n + 1) (hl : n ≤ 12) (hs : AllP StOk st) : Gd n (uG st st.length 0) := by
 have get : ∀ i, i ≤ n → ∃ x, st[i]? = some x ∧ StOk x := fun i hi => ⟨_, zO (by omega), hs _ (List.getElem_mem _)⟩
 refine ⟨fun i j k hi hj hk => ?_, fun i hi => ?_, fun i j hi hj => ?_⟩
 ·rw [jb (by omega) (by omega) (by omega), jb (by omega) (by omega) (by omega), jb (by omega) (by omega) (by omega)]
  obtain ⟨a, ha, pa⟩ := get i hi
  obtain ⟨b, hb, pb⟩ := get j hj
  obtain ⟨c, hc, pc⟩ := get k hk
  unfold StOk at pa pb pc
  by_cases e1 : i = j
  ·subst e1; rw [kc]; omega
  ·by_cases e2 : j = k
   ·subst e2; rw [kc (i := j)]; omega
   ·rw [ur ha hb e1, ur hb hc e2]
    by_cases e3 : i = k
    ·subst e3; rw [kc]; rw [ha] at hc; cases hc; omega
    ·rw [ur ha hc e3]; omega
 ·rw [jb (by omega) (by omega) (by omega), kc]
 ·rw [jb (by omega) (by omega) (by omega)]
  obtain ⟨a, ha, pa⟩ := get i hi
  obtain ⟨b, hb, pb⟩ := get j hj
  unfold StOk at pa pb
  by_cases e1 : i = j
  ·subst e1; rw [kc]; omega
  ·rw [ur ha hb e1]; omega
def StS (st : List (Int × Int)) (p : Nat → Int) : Prop := ∀ i r, st[i]? = some r → r.1 ≤ p i - p 0 ∧ p i - p 0 ≤ r.2
theorem sat_st {st : List (Int × Int)} {n : Nat} {p : Nat → Int} (hn : st.length = n + 1) (hl : n ≤ 12) (h0 : st[0]? = some (0, 0)) : SatF n (uG st st.length 0) p ↔ StS st p := by
 constructor
 ·intro h i r hr
  have hi := zY hr
  by_cases e : i = 0
  ·subst e; rw [h0] at hr; cases hr; dsimp only; omega
  ·have h1 := h 0 i (Nat.zero_le _) (by omega)
   have h2 := h i 0 (by omega) (Nat.zero_le _)
   rw [jb (by omega) (by omega) (by omega), ur h0 hr (fun h => e h.symm)] at h1
   rw [jb (by omega) (by omega) (by omega), ur hr h0 e] at h2
   dsimp only at h1 h2
   omega
 ·intro h i j hi hj
  rw [jb (by omega) (by omega) (by omega)]
  by_cases e : i = j
  ·subst e; rw [kc]; omega
  ·have h1 : st[i]? = some st[i] := zO (by omega)
   have h2 : st[j]? = some st[j] := zO (by omega)
   rw [ur h1 h2 e]
   have := h i _ h1
   have := h j _ h2
   omega
theorem u_list (hB : B.length ≤ 100) (ho : off.length ≤ 100) (hv : ∀ b, b ∈ B → -100000 ≤ b.1 ∧ b.1 ≤ 100000 ∧ -100000 ≤ b.2.1 ∧ b.2.1 ≤ 100000) (hN : 1000 ≤ N) :
  iter (sf107_L1 B) N (([((0 : Int), (0 : Int))] ++ off), (0 : Int)) = some (stand off B) := by
 have hst : stand off B = [((0 : Int), (0 : Int))] ++ off ++ B.map fun b => (-b.2.1, -b.1) := rfl
 refine yz (fun j => ([((0 : Int), (0 : Int))] ++ off ++ ((B.map fun b => (-b.2.1, -b.1)).take j), (j : Int))) B.length _ (by simp) (fun j hj => ?_) ?_ (by omega)
 ·obtain ⟨z, hz⟩ : ∃ z, B[j]? = some z := ⟨_, zO hj⟩
  have hb := hv z (List.mem_of_getElem? hz)
  have hm : (B.map fun b => (-b.2.1, -b.1))[j]? = some (-z.2.1, -z.1) := by rw [List.getElem?_map, hz]; rfl
  unfold sf107_L1
  dsimp only
  rw [decide_eq_true (by omega), cond_true, z3 rfl hz, zr (by unfold rng; omega), zr (by unfold rng; omega), zr (by simp; omega), zr (by unfold rng; omega), yr hm, ← List.append_assoc]
  rfl
 ·unfold sf107_L1
  dsimp only
  rw [decide_eq_false (by omega), cond_false, List.take_of_length_le (by simp), ← hst]
theorem s107 (h : SerOk off er B) (hN : 1000 ≤ N) : sf107 N off er B = some (off, er, B, ((off.length + B.length : Nat) : Int) + 1, uG (stand off B) (stand off B).length 0) := by
 have h1 := h.1; have h2 := h.2.2.2.1
 unfold sf107
 rw [zr (by simp; omega), u_list (by omega) (by omega) (fun b hb => by have := (h.2.2.2.2 b hb).1; unfold HtOk at this; omega) hN, zi, u_out1 (by rw [uQ]; omega) (kM h) hN, zi, show ((stand off B).length : Int) = ((off.length + B.length : Nat) : Int) + 1 by rw [uQ]; omega]
def RdS (m : Nat) (er : Int) (b : Nat) (r : Int × Int) (p : Nat → Int) : Prop := p (1 + r.1.toNat) - p (1 + m + b) ≤ r.2 + er ∧ p (1 + m + b) - p (1 + r.1.toNat) ≤ er - r.2
def TrS (off : List (Int × Int)) (er : Int) (B : List Ba) (p : Nat → Int) : Prop := StS (stand off B) p ∧ ∀ (b : Nat) (x : Ba), B[b]? = some x → ∀ r, r ∈ x.2.2 → RdS off.length er b r p
theorem s106 {b : Nat} (h1 : off.length ≤ 100) (h2 : b ≤ 100) : sf106 N off er B (b : Int) = some ((1 + off.length + b : Nat) : Int) := by
 unfold sf106
 rw [zr (by unfold rng; omega), zr (by unfold rng; omega)]
 congr 1
theorem s105 {a : Int} (h1 : 0 ≤ a) (h2 : a ≤ 100) : sf105 N off er B a = some ((1 + a.toNat : Nat) : Int) := by
 unfold sf105
 rw [zr (by unfold rng; omega)]
 congr 1; omega
theorem s134 {n x y : Nat} {T m : Int} {F : Nat → Int} (hn : n ≤ 12) (hx : x ≤ n) (hy : y ≤ n) (h : Gd n F) (hm : -1000000 ≤ m ∧ m ≤ 1000000) : sf134 N off er B T F x y m = some (decide (0 ≤ m + F (y * 13 + x))) := by
 have := h.ub y x hy hx
 have := h.lb (i := y) (j := x) hy hx
 unfold sf134
 simp only [toN]
 rw [zr (by omega), zr (by omega), zr (by unfold rng; omega)]
theorem no_sat {n f g : Nat} {m : Int} {F p : Nat → Int} (hf : f ≤ n) (hg : g ≤ n) (h : ¬ 0 ≤ m + F (g * 13 + f)) (hs : SatF n F p) : ¬ p g - p f ≤ m := by
 have := hs g f hg hf
 omega
end
end Go.Hx.V

namespace Go.Hx.V
open Go.Hx
section
variable {off : List (Int × Int)} {er : Int} {B : List Ba} {N : Nat}
abbrev Vt := List (Int × Int) × Int × List Ba × Int × (Nat → Int)
theorem l2 (v : Vt) (x : Int × Int) (f t : Int) : sf80_L2 N v x f t = lO N v.2.2.2.1 f t (x.2 + v.2.1) := rfl
theorem l4 (v : Vt) (x : Int × Int) (f t : Int) : sf80_L4 N v x f t = lO N v.2.2.2.1 t f (v.2.1 - x.2) := rfl
theorem L5_run {n b : Nat} {x : Ba} {F0 : Nat → Int} (hs : SerOk off er B) (hS : Short B) (hn : n = off.length + B.length) (hb : B[b]? = some x) (hN : 1000 ≤ N) : ∀ (k j M : Nat) (F F1 : Nat → Int), j + k = x.2.2.length → k < M → Gd n F →
  (∃ F', iter (sf80_L5 N (off, er, B, (n : Int) + 1, F0) ((b : Int), F1) x) M ((j : Int), F) = some (.inr F') ∧ Gd n F' ∧ ∀ p, SatF n F' p ↔ SatF n F p ∧ ∀ r, r ∈ x.2.2.drop j → RdS off.length er b r p) ∨
  ((∃ F', iter (sf80_L5 N (off, er, B, (n : Int) + 1, F0) ((b : Int), F1) x) M ((j : Int), F) = some (.inl F')) ∧ ∀ p, SatF n F p → ¬ ∀ r, r ∈ x.2.2.drop j → RdS off.length er b r p)
 | 0, j, M, F, F1, h1, h2, hg => by
  obtain ⟨M, rfl⟩ : ∃ q, M = q + 1 := ⟨M - 1, by omega⟩
  refine .inl ⟨F, ?_, hg, fun p => ⟨fun h => ⟨h, fun r hr => ?_⟩, fun h => h.1⟩⟩
  ·refine jN ?_
   unfold sf80_L5
   dsimp only
   rw [decide_eq_false (by omega), cond_false]
  ·rw [List.drop_of_length_le (by omega)] at hr; cases hr
 | k + 1, j, M, F, F1, h1, h2, hg => by
  obtain ⟨M, rfl⟩ : ∃ q, M = q + 1 := ⟨M - 1, by omega⟩
  obtain ⟨r, hr⟩ : ∃ r, x.2.2[j]? = some r := ⟨_, zO (by omega)⟩
  have hx := hs.2.2.2.2 x (List.mem_of_getElem? hb)
  have hrd := hx.2.1 r (List.mem_of_getElem? hr)
  have o1 := hs.1; have o2 := hs.2.2.1; have o3 := hs.2.2.2.1
  have hbl := zY hb
  have hdr : x.2.2.drop j = r :: x.2.2.drop (j + 1) := by rw [List.drop_eq_getElem_cons (by omega)]; rw [zO (by omega)] at hr; cases hr; rfl
  have hsp : ∀ p, (∀ q, q ∈ x.2.2.drop j → RdS off.length er b q p) ↔ RdS off.length er b r p ∧ ∀ q, q ∈ x.2.2.drop (j + 1) → RdS off.length er b q p := fun p => by rw [hdr]; simp
  have n1 : 1 + off.length + b ≤ n := by omega
  have n2 : 1 + r.1.toNat ≤ n := by have := hrd.1; omega
  have n3 : n ≤ 12 := by omega
  obtain ⟨⟨a1, a2⟩, b1, b2⟩ : (0 ≤ r.1 ∧ r.1 < (off.length : Int)) ∧ -1000 ≤ r.2 ∧ r.2 ≤ 2000 := hrd
  have hxl := hS x (List.mem_of_getElem? hb)
  by_cases c1 : 0 ≤ (r.2 + er) + F ((1 + r.1.toNat) * 13 + (1 + off.length + b))
  ·obtain ⟨G, hG⟩ : ∃ G, G = rowS n (1 + off.length + b) (1 + r.1.toNat) (r.2 + er) F (n + 1) := ⟨_, rfl⟩
   have gd1 : Gd n G := by rw [hG]; exact gd_lim n3 hg n1 n2 c1
   have sat1 : ∀ p, SatF n G p ↔ SatF n F p ∧ p (1 + r.1.toNat) - p (1 + off.length + b) ≤ r.2 + er := fun p => by rw [hG]; exact Yn n3 hg n1 n2
   by_cases c2 : 0 ≤ (er - r.2) + G ((1 + off.length + b) * 13 + (1 + r.1.toNat))
   ·obtain ⟨K, hK⟩ : ∃ K, K = rowS n (1 + r.1.toNat) (1 + off.length + b) (er - r.2) G (n + 1) := ⟨_, rfl⟩
    have gd2 : Gd n K := by rw [hK]; exact gd_lim n3 gd1 n2 n1 c2
    have sat2 : ∀ p, SatF n K p ↔ SatF n F p ∧ RdS off.length er b r p := fun p => by
     rw [hK, Yn n3 gd1 n2 n1, sat1 p]
     unfold RdS
     exact ⟨fun h => ⟨h.1.1, h.1.2, h.2⟩, fun h => ⟨⟨h.1, h.2.1⟩, h.2.2⟩⟩
    have step : sf80_L5 N (off, er, B, (n : Int) + 1, F0) ((b : Int), F1) x ((j : Int), F) = some (.inl (((j + 1 : Nat) : Int), K)) := by
     unfold sf80_L5
     dsimp only
     rw [decide_eq_true (by omega), cond_true, z3 rfl hr]
     rw [show sf81 N r.1 r.2 = some true from rfl, zi, cond_true, s106 (by omega) (by omega), zi, s105 (by omega) (by omega), zi, zr (by unfold rng; omega), s134 n3 n1 n2 hg (by omega), zi, decide_eq_true c1, Bool.not_true, cond_false,
      l2, XY n3 n1 n2 hg (by dsimp only; omega) (by dsimp only; exact c1) (by omega)]
     rw [show rowS n (1 + off.length + b) (1 + r.1.toNat) (r.2 + er) F (n + 1) = G from hG.symm, zi, zr (by unfold rng; omega), s134 n3 n2 n1 gd1 (by omega), zi, decide_eq_true c2, Bool.not_true, cond_false,
      l4, XY n3 n2 n1 gd1 (by dsimp only; omega) (by dsimp only; exact c2) (by omega)]
     rw [show rowS n (1 + r.1.toNat) (1 + off.length + b) (er - r.2) G (n + 1) = K from hK.symm, zi, zi, cond_false, zr (by unfold rng; omega)]
     rfl
    rw [iter_s step]
    rcases L5_run hs hS hn hb hN k (j + 1) M K F1 (by omega) (by omega) gd2 with ⟨F', e, g, hp⟩ | ⟨⟨F', e⟩, hp⟩
    ·refine .inl ⟨F', e, g, fun p => ?_⟩
     rw [hp p, sat2 p, hsp p, and_assoc]
    ·refine .inr ⟨⟨F', e⟩, fun p h1 h2 => ?_⟩
     have := (hsp p).1 h2
     exact hp p ((sat2 p).2 ⟨h1, this.1⟩) this.2
   ·refine .inr ⟨⟨G, jN ?_⟩, fun p h3 h4 => ?_⟩
    ·unfold sf80_L5
     dsimp only
     rw [decide_eq_true (by omega), cond_true, z3 rfl hr]
     rw [show sf81 N r.1 r.2 = some true from rfl, zi, cond_true, s106 (by omega) (by omega), zi, s105 (by omega) (by omega), zi, zr (by unfold rng; omega), s134 n3 n1 n2 hg (by omega), zi, decide_eq_true c1, Bool.not_true, cond_false,
      l2, XY n3 n1 n2 hg (by dsimp only; omega) (by dsimp only; exact c1) (by omega)]
     rw [show rowS n (1 + off.length + b) (1 + r.1.toNat) (r.2 + er) F (n + 1) = G from hG.symm, zi, zr (by unfold rng; omega), s134 n3 n2 n1 gd1 (by omega), zi, decide_eq_false c2]
     rfl
    ·have h5 := ((hsp p).1 h4).1
     unfold RdS at h5
     exact no_sat n2 n1 c2 ((sat1 p).2 ⟨h3, h5.1⟩) h5.2
  ·refine .inr ⟨⟨F, jN ?_⟩, fun p h3 h4 => ?_⟩
   ·unfold sf80_L5
    dsimp only
    rw [decide_eq_true (by omega), cond_true, z3 rfl hr]
    rw [show sf81 N r.1 r.2 = some true from rfl, zi, cond_true, s106 (by omega) (by omega), zi, s105 (by omega) (by omega), zi, zr (by unfold rng; omega), s134 n3 n1 n2 hg (by omega), zi, decide_eq_false c1]
    rfl
   ·have h5 := ((hsp p).1 h4).1
    unfold RdS at h5
    exact no_sat n1 n2 c1 h3 h5.1
theorem L6_run {n : Nat} {F0 : Nat → Int} (hs : SerOk off er B) (hS : Short B) (hn : n = off.length + B.length) (hN : 1000 ≤ N) : ∀ (k j M : Nat) (F : Nat → Int), j + k = B.length → k < M → Gd n F →
  (∃ F', iter (sf80_L6 N B (off, er, B, (n : Int) + 1, F0)) M ((j : Int), F) = some (.inr F') ∧ Gd n F' ∧ ∀ p, SatF n F' p ↔ SatF n F p ∧ ∀ b x, j ≤ b → B[b]? = some x → ∀ r, r ∈ x.2.2 → RdS off.length er b r p) ∨
  ((∃ F', iter (sf80_L6 N B (off, er, B, (n : Int) + 1, F0)) M ((j : Int), F) = some (.inl F')) ∧ ∀ p, SatF n F p → ¬ ∀ b x, j ≤ b → B[b]? = some x → ∀ r, r ∈ x.2.2 → RdS off.length er b r p)
 | 0, j, M, F, h1, h2, hg => by
  obtain ⟨M, rfl⟩ : ∃ q, M = q + 1 := ⟨M - 1, by omega⟩
  refine .inl ⟨F, ?_, hg, fun p => ⟨fun h => ⟨h, fun b x hb hx => ?_⟩, fun h => h.1⟩⟩
  ·refine jN ?_
   unfold sf80_L6
   dsimp only
   rw [decide_eq_false (by omega), cond_false]
  ·have := zY hx; omega
 | k + 1, j, M, F, h1, h2, hg => by
  obtain ⟨M, rfl⟩ : ∃ q, M = q + 1 := ⟨M - 1, by omega⟩
  obtain ⟨x, hx⟩ : ∃ x, B[j]? = some x := ⟨_, zO (by omega)⟩
  have o3 := hs.2.2.2.1
  have hxl := hS x (List.mem_of_getElem? hx)
  have hsp : ∀ p, (∀ b y, j ≤ b → B[b]? = some y → ∀ r, r ∈ y.2.2 → RdS off.length er b r p) ↔ (∀ r, r ∈ x.2.2.drop 0 → RdS off.length er j r p) ∧ ∀ b y, j + 1 ≤ b → B[b]? = some y → ∀ r, r ∈ y.2.2 → RdS off.length er b r p := fun p => by
   constructor
   ·exact fun h => ⟨fun r hr => h j x (Nat.le_refl _) hx r hr, fun b y hb => h b y (by omega)⟩
   ·rintro ⟨h1, h2⟩ b y hb hy r hr
    by_cases e : b = j
    ·subst e; rw [hx] at hy; cases hy; exact h1 r hr
    ·exact h2 b y (by omega) hy r hr
  rcases L5_run (F0 := F0) hs hS hn hx hN x.2.2.length 0 N F F (by omega) (by omega) hg with ⟨K, e, g, hp⟩ | ⟨⟨K, e⟩, hp⟩
  ·have step : sf80_L6 N B (off, er, B, (n : Int) + 1, F0) ((j : Int), F) = some (.inl (((j + 1 : Nat) : Int), K)) := by
    unfold sf80_L6
    dsimp only
    rw [decide_eq_true (by omega), cond_true, z3 rfl hx]
    rw [show iter (sf80_L5 N (off, er, B, (n : Int) + 1, F0) ((j : Int), F) x) N ((0 : Int), F) = some (.inr K) from e, zi, sR]
    rw [zr (by unfold rng; omega)]
    rfl
   rw [iter_s step]
   rcases L6_run hs hS hn hN k (j + 1) M K (by omega) (by omega) g with ⟨F', e2, g2, hp2⟩ | ⟨⟨F', e2⟩, hp2⟩
   ·refine .inl ⟨F', e2, g2, fun p => ?_⟩
    rw [hp2 p, hp p, hsp p, and_assoc]
   ·refine .inr ⟨⟨F', e2⟩, fun p h3 h4 => ?_⟩
    have := (hsp p).1 h4
    exact hp2 p ((hp p).2 ⟨h3, this.1⟩) this.2
  ·refine .inr ⟨⟨K, jN ?_⟩, fun p h3 h4 => hp p h3 ((hsp p).1 h4).1⟩
   unfold sf80_L6
   dsimp only
   rw [decide_eq_true (by omega), cond_true, z3 rfl hx]
   rw [show iter (sf80_L5 N (off, er, B, (n : Int) + 1, F0) ((j : Int), F) x) N ((0 : Int), F) = some (.inl K) from e, zi]
   rfl
theorem s80 (hs : SerOk off er B) (hS : Short B) (hN : 1000 ≤ N) :
  (∃ F, sf80 N off er B = some (off, er, B, ((off.length + B.length : Nat) : Int) + 1, F, true) ∧ Gd (off.length + B.length) F ∧ ∀ p, SatF (off.length + B.length) F p ↔ TrS off er B p) ∨
  (sf80 N off er B = some ([], 0, [], 0, (fun _ => 0), false) ∧ ∀ p, ¬ TrS off er B p) := by
 have o1 := hs.1; have o3 := hs.2.2.2.1
 have hl : (stand off B).length = off.length + B.length + 1 := by rw [uQ]; omega
 have g0 := gd_st (st := stand off B) (n := off.length + B.length) hl (by omega) (kM hs)
 have t0 : ∀ p, SatF (off.length + B.length) (uG (stand off B) (stand off B).length 0) p ↔ StS (stand off B) p := fun p => sat_st hl (by omega) (by unfold stand; rfl)
 have ex : ∀ p, (∀ b x, 0 ≤ b → B[b]? = some x → ∀ r, r ∈ x.2.2 → RdS off.length er b r p) ↔ ∀ (b : Nat) (x : Ba), B[b]? = some x → ∀ r, r ∈ x.2.2 → RdS off.length er b r p := fun p => ⟨fun h b x => h b x (Nat.zero_le _), fun h b x _ => h b x⟩
 unfold sf80
 rw [s107 hs hN, zi]
 rcases L6_run (N := N) (n := off.length + B.length) (F0 := uG (stand off B) (stand off B).length 0) hs hS rfl hN B.length 0 N _ (by omega) (by omega) g0 with ⟨F, e, g, hp⟩ | ⟨⟨F, e⟩, hp⟩
 ·refine .inl ⟨F, ?_, g, fun p => by rw [hp p, t0 p, ex p]; rfl⟩
  dsimp only
  rw [show iter (sf80_L6 N B (off, er, B, ((off.length + B.length : Nat) : Int) + 1, uG (stand off B) (stand off B).length 0)) N ((0 : Int), uG (stand off B) (stand off B).length 0) = some (.inr F) from e, zi]
  rfl
 ·refine .inr ⟨?_, fun p h => hp p ((t0 p).2 h.1) ((ex p).2 h.2)⟩
  dsimp only
  rw [show iter (sf80_L6 N B (off, er, B, ((off.length + B.length : Nat) : Int) + 1, uG (stand off B) (stand off B).length 0)) N ((0 : Int), uG (stand off B) (stand off B).length 0) = some (.inl F) from e, zi]
  rfl
end
end Go.Hx.V

namespace Go.Hx.V
open Go.Hx
section
variable {off : List (Int × Int)} {er : Int} {B : List Ba} {N : Nat}
def ofs (m : Nat) (F : Nat → Int) : List (Int × Int) := (List.range m).map fun i => (-F ((1 + i) * 13 + 0), F (0 * 13 + (1 + i)))
def hts (m k : Nat) (F : Nat → Int) : List (Int × Int) := (List.range k).map fun b => (-F (0 * 13 + (1 + m + b)), F ((1 + m + b) * 13 + 0))
theorem s127 {n x : Nat} {T : Int} {F : Nat → Int} (hn : n ≤ 12) (hx : x ≤ n) (h : Gd n F) : sf127 N off er B T F x = some (-F (x * 13 + 0)) := by
 have := h.ub x 0 hx (Nat.zero_le _)
 have := h.lb (i := x) (j := 0) hx (Nat.zero_le _)
 unfold sf127
 rw [toN, show (0 : Int).toNat = 0 from rfl, zr (by omega), zr (by omega), zr (by unfold rng; omega)]
theorem s128 {n x : Nat} {T : Int} {F : Nat → Int} (hn : n ≤ 12) (hx : x ≤ n) : sf128 N off er B T F x = some (F (0 * 13 + x)) := by
 unfold sf128
 rw [toN, show (0 : Int).toNat = 0 from rfl, zr (by omega), zr (by omega)]
theorem s75 {n i : Nat} {T : Int} {F : Nat → Int} (hn : n ≤ 12) (hx : 1 + i ≤ n) (h : Gd n F) : sf75 N off er B T F i = some (-F ((1 + i) * 13 + 0), F (0 * 13 + (1 + i))) := by
 unfold sf75
 rw [show sf104 N = some () from rfl, zi, s105 (by omega) (by omega), zi, toN, s127 hn hx h, zi, s128 hn hx, zi]
theorem s76 {n b : Nat} {T : Int} {F : Nat → Int} (ho : off.length ≤ 12) (hn : n ≤ 12) (hx : 1 + off.length + b ≤ n) (h : Gd n F) : sf76 N off er B T F b = some (-F (0 * 13 + (1 + off.length + b)), F ((1 + off.length + b) * 13 + 0)) := by
 have := h.ub 0 (1 + off.length + b) (Nat.zero_le _) hx
 have := h.lb (i := 0) (j := 1 + off.length + b) (Nat.zero_le _) hx
 have := h.ub (1 + off.length + b) 0 hx (Nat.zero_le _)
 have := h.lb (i := 1 + off.length + b) (j := 0) hx (Nat.zero_le _)
 unfold sf76
 rw [show sf104 N = some () from rfl, zi, s106 (by omega) (by omega), zi, s128 hn hx, zi, zr (by unfold rng; omega), s127 hn hx h, zi, zr (by unfold rng; omega), Int.neg_neg]
theorem rg_at {α : Type} {f : Nat → α} {m i : Nat} (h : i < m) : ((List.range m).map f)[i]? = some (f i) := by
 rw [List.getElem?_map, List.getElem?_range h]; rfl
theorem ofs_at {m i : Nat} {F : Nat → Int} (h : i < m) : (ofs m F)[i]? = some (-F ((1 + i) * 13 + 0), F (0 * 13 + (1 + i))) := rg_at h
theorem hts_at {m k i : Nat} {F : Nat → Int} (h : i < k) : (hts m k F)[i]? = some (-F (0 * 13 + (1 + m + i)), F ((1 + m + i) * 13 + 0)) := rg_at (f := fun b => (-F (0 * 13 + (1 + m + b)), F ((1 + m + b) * 13 + 0))) h
theorem XH {F : Nat → Int} (hs : SerOk off er B) (hS : Short B) (hN : 1000 ≤ N) (e : sf80 N off er B = some (off, er, B, ((off.length + B.length : Nat) : Int) + 1, F, true)) (g : Gd (off.length + B.length) F) : sf27 N off er B = some (ofs off.length F, 0) := by
 have o1 := hs.1; have o3 := hs.2.2.2.1
 unfold sf27 sf74
 rw [s21 hS hN, jo hs, zi, decide_eq_true (p := (0 : Int) = 0) rfl, Bool.not_true, cond_false, cond_false, e, zi]
 dsimp only
 rw [Bool.not_true, cond_false, zi]
 dsimp only
 rw [decide_eq_true (p := (0 : Int) = 0) rfl, Bool.not_true, cond_false, zr (by omega)]
 rw [yz (x := ((List.replicate (Int.toNat (0 : Int)) ((0 : Int), (0 : Int))), (0 : Int))) (fun j => ((ofs off.length F).take j, (j : Int))) off.length (ofs off.length F) rfl (fun j hj => by
  unfold sf27_L1
  dsimp only
  rw [decide_eq_true (by omega), cond_true, s75 (n := off.length + B.length) (by omega) (by omega) g, zi, zr (by rw [List.length_take]; omega), zr (by unfold rng; omega), yr (ofs_at hj)]
  rfl) (by
  unfold sf27_L1
  dsimp only
  rw [decide_eq_false (by omega), cond_false, List.take_of_length_le (by unfold ofs; simp)]) (by omega)]
 rfl
theorem XG {F : Nat → Int} (hs : SerOk off er B) (hS : Short B) (hN : 1000 ≤ N) (e : sf80 N off er B = some (off, er, B, ((off.length + B.length : Nat) : Int) + 1, F, true)) (g : Gd (off.length + B.length) F) : sf28 N off er B = some (hts off.length B.length F, 0) := by
 have o1 := hs.1; have o3 := hs.2.2.2.1
 unfold sf28 sf74
 rw [s21 hS hN, jo hs, zi, decide_eq_true (p := (0 : Int) = 0) rfl, Bool.not_true, cond_false, cond_false, e, zi]
 dsimp only
 rw [Bool.not_true, cond_false, zi]
 dsimp only
 rw [decide_eq_true (p := (0 : Int) = 0) rfl, Bool.not_true, cond_false, zr (by omega)]
 rw [yz (x := ((List.replicate (Int.toNat (0 : Int)) ((0 : Int), (0 : Int))), (0 : Int))) (fun j => ((hts off.length B.length F).take j, (j : Int))) B.length (hts off.length B.length F) rfl (fun j hj => by
  unfold sf28_L1
  dsimp only
  rw [decide_eq_true (by omega), cond_true, s76 (n := off.length + B.length) (by omega) (by omega) (by omega) g, zi, zr (by rw [List.length_take]; omega), zr (by unfold rng; omega), yr (hts_at hj)]
  rfl) (by
  unfold sf28_L1
  dsimp only
  rw [decide_eq_false (by omega), cond_false, List.take_of_length_le (by unfold hts; simp)]) (by omega)]
 rfl
theorem Yo (hs : SerOk off er B) (hS : Short B) (hN : 1000 ≤ N) (e : sf80 N off er B = some ([], 0, [], 0, (fun _ => 0), false)) : sf27 N off er B = some ([], 9) ∧ sf28 N off er B = some ([], 9) := by
 constructor
 ·unfold sf27 sf74
  rw [s21 hS hN, jo hs, zi, decide_eq_true (p := (0 : Int) = 0) rfl, Bool.not_true, cond_false, cond_false, e, zi]
  rfl
 ·unfold sf28 sf74
  rw [s21 hS hN, jo hs, zi, decide_eq_true (p := (0 : Int) = 0) rfl, Bool.not_true, cond_false, cond_false, e, zi]
  rfl
theorem s64 {a b : List (Int × Int)} (hl : a.length = b.length) (h100 : a.length ≤ 100) (h : ∀ (i : Nat) (x y : Int × Int), a[i]? = some x → b[i]? = some y → y.1 ≤ x.1 ∧ x.2 ≤ y.2) (hN : 1000 ≤ N) : sf64 N a b = some true := by
 unfold sf64
 rw [decide_eq_true (by omega), Bool.not_true, cond_false]
 rw [yz (x := (0 : Int)) (fun j => (j : Int)) a.length (Sum.inr ()) rfl (fun j hj => by
  obtain ⟨x, hx⟩ : ∃ x, a[j]? = some x := ⟨_, zO hj⟩
  obtain ⟨y, hy⟩ : ∃ y, b[j]? = some y := ⟨_, zO (by omega)⟩
  have := h j x y hx hy
  unfold sf64_L1
  rw [decide_eq_true (by omega), cond_true, z3 rfl hx, z3 rfl hy, decide_eq_false (by omega), cond_false, z3 rfl hx, z3 rfl hy, decide_eq_false (by omega), zi, cond_false, zr (by unfold rng; omega)]
  rfl) (by
  unfold sf64_L1
  rw [decide_eq_false (by omega), cond_false]) (by omega)]
 rfl
theorem s22 (ho : off.length ≤ 100) (hB : B.length ≤ 100) (hS : Short B) (hN : 1000 ≤ N) : sf22 N off er B = some (off, er, B) := by
 unfold sf22
 rw [yz (x := ((0 : Int), ([] : List (Int × Int)))) (fun j => ((j : Int), off.take j)) off.length off rfl (fun j hj => by
  obtain ⟨x, hx⟩ : ∃ x, off[j]? = some x := ⟨_, zO hj⟩
  unfold sf22_L1
  dsimp only
  rw [decide_eq_true (by omega), cond_true, z3 rfl hx, show sf33 N x.1 x.2 = some (x.1, x.2) from rfl, zi, zr (by rw [List.length_take]; omega), zr (by unfold rng; omega), yr hx]
  rfl) (by
  unfold sf22_L1
  dsimp only
  rw [decide_eq_false (by omega), cond_false, List.take_of_length_le (Nat.le_refl _)]) (by omega), zi]
 rw [yz (x := ((0 : Int), ([] : List Ba))) (fun j => ((j : Int), B.take j)) B.length B rfl (fun j hj => by
  obtain ⟨x, hx⟩ : ∃ x, B[j]? = some x := ⟨_, zO hj⟩
  have hxl := hS x (List.mem_of_getElem? hx)
  unfold sf22_L3
  dsimp only
  rw [decide_eq_true (by omega), cond_true, z3 rfl hx, show sf33 N x.1 x.2.1 = some (x.1, x.2.1) from rfl, zi]
  rw [yz (x := ((0 : Int), ([] : List (Int × Int)))) (fun i => ((i : Int), x.2.2.take i)) x.2.2.length x.2.2 rfl (fun i hi => by
   obtain ⟨r, hr⟩ : ∃ r, x.2.2[i]? = some r := ⟨_, zO hi⟩
   unfold sf22_L2
   dsimp only
   rw [z3 rfl hx, decide_eq_true (by omega), cond_true, z3 rfl hx, z3 rfl hr, zr (by rw [List.length_take]; omega), zr (by unfold rng; omega), yr hr]
   rfl) (by
   unfold sf22_L2
   dsimp only
   rw [z3 rfl hx, decide_eq_false (by omega), cond_false, List.take_of_length_le (Nat.le_refl _)]) (by omega), zi, zr (by rw [List.length_take]; omega), zr (by unfold rng; omega), yr hx]
  rfl) (by
  unfold sf22_L3
  dsimp only
  rw [decide_eq_false (by omega), cond_false, List.take_of_length_le (Nat.le_refl _)]) (by omega), zi]
end
end Go.Hx.V

namespace Go.Hx.V
open Go.Hx
def Less (B' B : List Ba) : Prop := B'.length = B.length ∧ ∀ (b : Nat) (x' : Ba), B'[b]? = some x' → ∃ x, B[b]? = some x ∧ x'.1 = x.1 ∧ x'.2.1 = x.2.1 ∧ List.Sublist x'.2.2 x.2.2
theorem Less.refl (B : List Ba) : Less B B := ⟨rfl, fun b x h => ⟨x, h, rfl, rfl, List.Sublist.refl _⟩⟩
theorem Yw {l : List (Int × Int)} : Once l ↔ l.Pairwise fun a b => a.1 ≠ b.1 := by
 rw [List.pairwise_iff_getElem]
 constructor
 ·exact fun h i j hi hj hij => h i j _ _ hij (zO hi) (zO hj)
 ·intro h i j a b hij ha hb
  have h1 := zY ha; have h2 := zY hb
  have := h i j h1 h2 hij
  rw [zO h1] at ha; rw [zO h2] at hb
  cases ha; cases hb; exact this
section
variable {off : List (Int × Int)} {er er' : Int} {B B' : List Ba} {N : Nat}
theorem ser_less (h : SerOk off er B) (hl : Less B' B) (h1 : 0 ≤ er') (h2 : er' ≤ 20) : SerOk off er' B' := by
 refine ⟨h.1, h.2.1, ⟨h1, h2⟩, by rw [hl.1]; exact h.2.2.2.1, fun x' hx' => ?_⟩
 obtain ⟨b, hb⟩ := List.getElem?_of_mem hx'
 obtain ⟨x, hx, e1, e2, hs⟩ := hl.2 b x' hb
 have := h.2.2.2.2 x (List.mem_of_getElem? hx)
 refine ⟨by rw [e1, e2]; exact this.1, fun r hr => this.2.1 r (hs.subset hr), ?_⟩
 exact Yw.2 (List.Pairwise.sublist hs (Yw.1 this.2.2))
theorem jy (h : Short B) (hl : Less B' B) : Short B' := fun x' hx' => by
 obtain ⟨b, hb⟩ := List.getElem?_of_mem hx'
 obtain ⟨x, hx, e1, e2, hs⟩ := hl.2 b x' hb
 exact Nat.le_trans hs.length_le (h x (List.mem_of_getElem? hx))
theorem XC (hl : Less B' B) : stand off B' = stand off B := by
 unfold stand
 congr 1
 refine List.ext_getElem? fun i => ?_
 rw [List.getElem?_map, List.getElem?_map]
 by_cases hi : i < B'.length
 ·obtain ⟨x, hx, e1, e2, _⟩ := hl.2 i _ (zO hi)
  rw [zO hi, hx]
  simp [e1, e2]
 ·rw [List.getElem?_eq_none (by omega), List.getElem?_eq_none (by rw [← hl.1]; omega)]
theorem uw {p : Nat → Int} (h : TrS off er B p) (hl : Less B' B) (h1 : er ≤ er') : TrS off er' B' p := by
 refine ⟨by rw [XC hl]; exact h.1, fun b x' hx' r hr => ?_⟩
 obtain ⟨x, hx, e1, e2, hs⟩ := hl.2 b x' hx'
 have := h.2 b x hx r (hs.subset hr)
 unfold RdS at this ⊢
 omega
theorem YV (hs : SerOk off er B) (hS : Short B) (hl : Less B' B) (h1 : er ≤ er') (h2 : er' ≤ 20) (hN : 1000 ≤ N) :
  ∃ o o' h h' e e', sf27 N off er B = some (o, e) ∧ sf28 N off er B = some (h, e) ∧ sf27 N off er' B' = some (o', e') ∧ sf28 N off er' B' = some (h', e') ∧ (e = 0 ∨ e = 9) ∧ (e' = 0 ∨ e' = 9) ∧
   (e = 0 → e' = 0 ∧ sf64 N o o' = some true ∧ sf64 N h h' = some true) := by
 have hs' := ser_less hs hl (by have := hs.2.2.1; omega) h2
 have hS' := jy hS hl
 have o1 := hs.1; have o3 := hs.2.2.2.1
 rcases s80 hs hS hN with ⟨F, e, g, t⟩ | ⟨e, t⟩
 ·rcases s80 hs' hS' hN with ⟨F', e', g', t'⟩ | ⟨e', t'⟩
  ·rw [hl.1] at e' g' t'
   refine ⟨_, _, _, _, 0, 0, XH hs hS hN e g, XG hs hS hN e g, XH hs' hS' hN (by rw [hl.1]; exact e') (by rw [hl.1]; exact g'), XG hs' hS' hN (by rw [hl.1]; exact e') (by rw [hl.1]; exact g'), .inl rfl, .inl rfl, fun _ => ⟨rfl, ?_, ?_⟩⟩
   ·have lo := (t' _).2 (uw ((t _).1 (kB g)) hl h1)
    have hi := (t' _).2 (uw ((t _).1 (Xi g)) hl h1)
    refine s64 (by unfold ofs; simp) (by unfold ofs; simp; omega) (fun i x y hx hy => ?_) hN
    have hil : i < off.length := by have := zY hx; unfold ofs at this; simpa using this
    rw [ofs_at hil] at hx hy
    cases hx; cases hy
    have a1 := lo (1 + i) 0 (by omega) (Nat.zero_le _)
    have a2 := hi 0 (1 + i) (Nat.zero_le _) (by omega)
    have d0 := g.dg 0 (Nat.zero_le _)
    dsimp only at a1 a2 ⊢
    omega
   ·have lo := (t' _).2 (uw ((t _).1 (kB g)) hl h1)
    have hi := (t' _).2 (uw ((t _).1 (Xi g)) hl h1)
    rw [hl.1]
    refine s64 (by unfold hts; simp) (by unfold hts; simp; omega) (fun i x y hx hy => ?_) hN
    have hil : i < B.length := by have := zY hx; unfold hts at this; simpa using this
    rw [hts_at hil] at hx hy
    cases hx; cases hy
    have a1 := lo (1 + off.length + i) 0 (by omega) (Nat.zero_le _)
    have a2 := hi 0 (1 + off.length + i) (Nat.zero_le _) (by omega)
    have d0 := g.dg 0 (Nat.zero_le _)
    dsimp only at a1 a2 ⊢
    omega
  ·exact absurd (uw ((t _).1 (kB g)) hl h1) (t' _)
 ·obtain ⟨b1, b2⟩ := Yo hs hS hN e
  rcases s80 hs' hS' hN with ⟨F', e', g', t'⟩ | ⟨e', t'⟩
  ·exact ⟨_, _, _, _, 9, 0, b1, b2, XH hs' hS' hN e' g', XG hs' hS' hN e' g', .inr rfl, .inl rfl, fun h => by cases h⟩
  ·obtain ⟨c1, c2⟩ := Yo hs' hS' hN e'
   exact ⟨_, _, _, _, 9, 9, b1, b2, c1, c2, .inr rfl, .inr rfl, fun h => by cases h⟩
theorem s84 {l : List (Int × Int)} {a b : Int} (h : l.length ≤ 100000) (hN : 100001 ≤ N) : ∃ v : Bool, sf84 N l a b = some v := by
 unfold sf84
 obtain ⟨y, e, hy⟩ := y4 (step := sf84_L1 l a b) (fun x => ∃ j : Nat, j ≤ l.length ∧ x = (j : Int)) (fun x => l.length - x.toNat) (fun y => y = .inl true ∨ y = .inr ()) (by
  rintro x ⟨j, hj, rfl⟩
  by_cases hlt : j < l.length
  ·obtain ⟨z, hz⟩ : ∃ z, l[j]? = some z := ⟨_, zO hlt⟩
   unfold sf84_L1
   rw [decide_eq_true (by omega), cond_true, z3 rfl hz]
   cases (z.1 == a && (z.2 == b && true)) with
   | true => exact .inr ⟨_, rfl, .inl rfl⟩
   | false =>
    rw [cond_false, zr (by unfold rng; omega)]
    exact .inl ⟨_, rfl, ⟨j + 1, by omega, rfl⟩, by simp; omega⟩
  ·unfold sf84_L1
   rw [decide_eq_false (by omega), cond_false]
   exact .inr ⟨_, rfl, .inr rfl⟩) N 0 ⟨0, by omega, rfl⟩ (by simp; omega)
 rw [e, zi]
 rcases hy with rfl | rfl
 ·exact ⟨_, rfl⟩
 ·exact ⟨_, rfl⟩
theorem s35 (hB : B.length ≤ 100) (hS : Short B) (hN : 1000 ≤ N) : ∃ l, sf35 N off er B = some l ∧ l.length ≤ 10000 := by
 unfold sf35
 obtain ⟨y, e, hy⟩ := y4 (step := sf35_L2 N B) (fun x => ∃ j : Nat, j ≤ B.length ∧ x.2 = (j : Int) ∧ x.1.length ≤ 100 * j) (fun x => B.length - x.2.toNat) (fun y => y.length ≤ 10000) (by
  rintro ⟨acc, jj⟩ ⟨j, hj, rfl, ha⟩
  dsimp only at ha
  by_cases hlt : j < B.length
  ·obtain ⟨z, hz⟩ : ∃ z, B[j]? = some z := ⟨_, zO hlt⟩
   have hzl := hS z (List.mem_of_getElem? hz)
   obtain ⟨y, e, hy⟩ := y4 (step := sf35_L1 B (acc, (j : Int))) (fun x => ∃ i : Nat, i ≤ z.2.2.length ∧ x.2 = (i : Int) ∧ x.1.length ≤ acc.length + i) (fun x => z.2.2.length - x.2.toNat) (fun y => y.length ≤ acc.length + 100) (by
    rintro ⟨ac2, ii⟩ ⟨i, hi, rfl, h2⟩
    dsimp only at h2
    unfold sf35_L1
    dsimp only
    rw [z3 rfl hz]
    by_cases hlt2 : i < z.2.2.length
    ·rw [decide_eq_true (by omega), cond_true, zr (by omega), zr (by unfold rng; omega)]
     exact .inl ⟨_, rfl, ⟨i + 1, by omega, rfl, by simp; omega⟩, by simp; omega⟩
    ·rw [decide_eq_false (by omega), cond_false]
     exact .inr ⟨_, rfl, by omega⟩) N (acc, 0) ⟨0, by omega, rfl, by simp⟩ (by simp; omega)
   unfold sf35_L2
   dsimp only
   rw [decide_eq_true (by omega), cond_true, e, zi, zr (by unfold rng; omega)]
   exact .inl ⟨_, rfl, ⟨j + 1, by omega, rfl, by dsimp only; omega⟩, by simp; omega⟩
  ·unfold sf35_L2
   dsimp only
   rw [decide_eq_false (by omega), cond_false]
   exact .inr ⟨_, rfl, by omega⟩) N ([], 0) ⟨0, by omega, rfl, by simp⟩ (by simp; omega)
 rw [e, zi]
 exact ⟨_, rfl, hy⟩
theorem s37 {l : List (Int × Int)} (hB : B.length ≤ 100) (hS : Short B) (hl : l.length ≤ 10000) (hN : 100001 ≤ N) : ∃ B', sf37 N off er B l = some (off, er, B') ∧ Less B' B := by
 unfold sf37
 obtain ⟨y, e, hy⟩ := y4 (step := sf37_L2 N B l) (fun x => ∃ j : Nat, j ≤ B.length ∧ x.1 = (j : Int) ∧ Less x.2 (B.take j)) (fun x => B.length - x.1.toNat) (fun y => Less y B) (by
  rintro ⟨jj, acc⟩ ⟨j, hj, rfl, ha⟩
  dsimp only at ha
  have hal : acc.length = j := by rw [ha.1, List.length_take]; omega
  by_cases hlt : j < B.length
  ·obtain ⟨z, hz⟩ : ∃ z, B[j]? = some z := ⟨_, zO hlt⟩
   have hzl := hS z (List.mem_of_getElem? hz)
   obtain ⟨y, e, hy⟩ := y4 (step := sf37_L1 N B l ((j : Int), acc)) (fun x => ∃ i : Nat, i ≤ z.2.2.length ∧ x.1 = (i : Int) ∧ List.Sublist x.2 (z.2.2.take i)) (fun x => z.2.2.length - x.1.toNat) (fun y => List.Sublist y z.2.2) (by
    rintro ⟨ii, ac2⟩ ⟨i, hi, rfl, h2⟩
    dsimp only at h2
    have h2l := h2.length_le
    rw [List.length_take] at h2l
    unfold sf37_L1
    dsimp only
    rw [z3 rfl hz]
    by_cases hlt2 : i < z.2.2.length
    ·obtain ⟨r, hr⟩ : ∃ r, z.2.2[i]? = some r := ⟨_, zO hlt2⟩
     obtain ⟨v, ev⟩ := s84 (N := N) (l := l) (a := (j : Int)) (b := (i : Int)) (by omega) hN
     have tk := yr hr
     rw [decide_eq_true (by omega), cond_true, ev, zi]
     cases v with
     | false =>
      rw [Bool.not_false, cond_true, z3 rfl hz, z3 rfl hr, zr (by omega), zr (by unfold rng; omega)]
      exact .inl ⟨_, rfl, ⟨i + 1, by omega, rfl, by dsimp only; rw [tk]; exact List.Sublist.append h2 (List.Sublist.refl _)⟩, by simp; omega⟩
     | true =>
      rw [Bool.not_true, cond_false, zr (by unfold rng; omega)]
      exact .inl ⟨_, rfl, ⟨i + 1, by omega, rfl, by dsimp only; rw [tk]; exact h2.trans (List.sublist_append_left _ _)⟩, by simp; omega⟩
    ·rw [decide_eq_false (by omega), cond_false]
     exact .inr ⟨_, rfl, h2.trans (List.take_sublist _ _)⟩) N (0, []) ⟨0, by omega, rfl, List.nil_sublist _⟩ (by simp; omega)
   have tk := yr hz
   unfold sf37_L2
   dsimp only
   rw [decide_eq_true (by omega), cond_true, z3 rfl hz, e, zi, zr (by omega), zr (by unfold rng; omega)]
   refine .inl ⟨_, rfl, ⟨j + 1, by omega, rfl, ?_⟩, by simp; omega⟩
   dsimp only
   refine ⟨by rw [tk, List.length_append, List.length_append, ha.1]; rfl, fun b x' hx' => ?_⟩
   rw [tk]
   by_cases hb : b < acc.length
   ·rw [List.getElem?_append_left hb] at hx'
    obtain ⟨x, g1, g2⟩ := ha.2 b x' hx'
    exact ⟨x, by rw [List.getElem?_append_left (by rw [← ha.1]; exact hb)]; exact g1, g2⟩
   ·have hbl := zY hx'
    have hbe : b = acc.length := by simp at hbl; omega
    subst hbe
    rw [List.getElem?_append_right (Nat.le_refl _), Nat.sub_self] at hx'
    cases hx'
    refine ⟨z, ?_, rfl, rfl, hy⟩
    rw [List.getElem?_append_right (by rw [ha.1]; exact Nat.le_refl _), ha.1, Nat.sub_self]; rfl
  ·unfold sf37_L2
   dsimp only
   rw [decide_eq_false (by omega), cond_false]
   refine .inr ⟨_, rfl, ?_⟩
   rw [List.take_of_length_le (by omega)] at ha
   exact ha) N (0, []) ⟨0, by omega, rfl, ⟨rfl, fun b x h => by simp at h⟩⟩ (by simp; omega)
 rw [e, zi]
 exact ⟨_, rfl, hy⟩
end
end Go.Hx.V

namespace Go.Hx.V
open Go.Hx
theorem s32 {N : Nat} {n a b : Int} : sf32 N n a b = some (decide (a ≤ n ∧ n ≤ b)) := by
 unfold sf32
 by_cases h1 : a ≤ n
 ·rw [decide_eq_true h1, cond_true]
  congr 1
  by_cases h2 : n ≤ b
  ·rw [decide_eq_true h2, decide_eq_true ⟨h1, h2⟩]
  ·rw [decide_eq_false h2, decide_eq_false (fun h => h2 h.2)]
 ·rw [decide_eq_false h1, cond_false, decide_eq_false (fun h => h1 h.1)]
theorem s90 {N : Nat} {p q a b : Int} : sf90 N p q a b = some (decide (a ≤ p ∧ p ≤ q ∧ q ≤ b)) := by
 unfold sf90
 rw [s32, zi]
 by_cases h1 : a ≤ p ∧ p ≤ q
 ·rw [decide_eq_true h1, cond_true]
  congr 1
  by_cases h2 : q ≤ b
  ·rw [decide_eq_true h2, decide_eq_true ⟨h1.1, h1.2, h2⟩]
  ·rw [decide_eq_false h2, decide_eq_false (fun h => h2 h.2.2)]
 ·rw [decide_eq_false h1, cond_false, decide_eq_false (fun h => h1 ⟨h.1, h.2.1⟩)]
section
variable {off : List (Int × Int)} {er : Int} {B : List Ba} {N : Nat}
theorem f_in {x : Ba} {j : Nat} {z : Int × Int} (hz : x.2.2[j]? = some z) (h : x.2.2.length ≤ 100) (hN : 1000 ≤ N) :
  ((∀ i a, i < j → x.2.2[i]? = some a → a.1 ≠ z.1) ∧ iter (sf73_L2 x (j : Int)) N (0 : Int) = some (.inr ())) ∨ (¬ (∀ i a, i < j → x.2.2[i]? = some a → a.1 ≠ z.1) ∧ iter (sf73_L2 x (j : Int)) N (0 : Int) = some (.inl 1)) := by
 have hj := zY hz
 haveI : DecidablePred fun (i : Nat) => ∀ a, x.2.2[i]? = some a → a.1 ≠ z.1 := fun _ => Classical.propDecidable _
 rcases jO (step := sf73_L2 x (j : Int)) (x := (0 : Int)) (N := N) (fun i => (i : Int)) j (fun i => ∀ a, x.2.2[i]? = some a → a.1 ≠ z.1) (Sum.inr ()) (Sum.inl 1) rfl (fun i hi hp => by
   obtain ⟨a, ha⟩ : ∃ a, x.2.2[i]? = some a := ⟨_, zO (by omega)⟩
   unfold sf73_L2
   rw [decide_eq_true (by omega), cond_true, z3 rfl ha, z3 rfl hz, decide_eq_false (hp a ha), cond_false, zr (by unfold rng; omega)]
   rfl) (fun i hi hp => by
   obtain ⟨a, ha⟩ : ∃ a, x.2.2[i]? = some a := ⟨_, zO (by omega)⟩
   have : a.1 = z.1 := Classical.byContradiction fun hc => hp fun b hb => by rw [ha] at hb; cases hb; exact hc
   unfold sf73_L2
   rw [decide_eq_true (by omega), cond_true, z3 rfl ha, z3 rfl hz, decide_eq_true this, cond_true]) (by
   unfold sf73_L2
   rw [decide_eq_false (by omega), cond_false]) (by omega) with ⟨h1, h2⟩ | ⟨h1, h2⟩
 ·exact .inl ⟨fun i a hi ha => h1 i hi a ha, h2⟩
 ·exact .inr ⟨fun g => h1 fun i hi a ha => g i a hi ha, h2⟩
theorem f_bath {x : Ba} (ho : off.length ≤ 100) (h : x.2.2.length ≤ 100) (hN : 1000 ≤ N) :
  ((AllP (RdOk off.length) x.2.2 ∧ Once x.2.2) ∧ iter (sf73_L3 N off x) N (0 : Int) = some (.inr ())) ∨ (¬ (AllP (RdOk off.length) x.2.2 ∧ Once x.2.2) ∧ iter (sf73_L3 N off x) N (0 : Int) = some (.inl 1)) := by
 have dec : ∀ (j : Nat) (z : Int × Int), x.2.2[j]? = some z → ∀ (K : Option (Int ⊕ (Int ⊕ Unit))), sf73_L3 N off x (j : Int) = (if RdOk off.length z then bnd (iter (sf73_L2 x (j : Int)) N (0 : Int)) (sel (fun w => some (.inr (.inl w))) (fun w => (ck (rng ((j : Int) + (1 : Int))) (some (.inl ((j : Int) + (1 : Int))))))) else some (.inr (.inl 1))) := fun j z hz K => by
  have hj := zY hz
  unfold sf73_L3
  rw [decide_eq_true (by omega), cond_true, z3 rfl hz, zr (by unfold rng; omega), s32, zi]
  by_cases c1 : 0 ≤ z.1 ∧ z.1 ≤ (off.length : Int) - 1
  ·rw [decide_eq_true c1, Bool.not_true, cond_false, z3 rfl hz, s32, zi]
   by_cases c2 : -1000 ≤ z.2 ∧ z.2 ≤ 2000
   ·rw [decide_eq_true c2, if_pos (show RdOk off.length z from ⟨⟨c1.1, by omega⟩, c2⟩), Bool.not_true, zi, cond_false, zi, sR]
   ·rw [decide_eq_false c2, if_neg (show ¬ RdOk off.length z from fun g => c2 g.2), Bool.not_false, zi, cond_true, zi, sL]
  ·rw [decide_eq_false c1, if_neg (show ¬ RdOk off.length z from fun g => c1 ⟨g.1.1, by have := g.1.2; omega⟩), Bool.not_false, cond_true, zi, cond_true, zi, sL]
 haveI : DecidablePred fun (j : Nat) => ∀ z, x.2.2[j]? = some z → RdOk off.length z ∧ ∀ i a, i < j → x.2.2[i]? = some a → a.1 ≠ z.1 := fun _ => Classical.propDecidable _
 rcases jO (step := sf73_L3 N off x) (x := (0 : Int)) (N := N) (fun j => (j : Int)) x.2.2.length (fun j => ∀ z, x.2.2[j]? = some z → RdOk off.length z ∧ ∀ i a, i < j → x.2.2[i]? = some a → a.1 ≠ z.1) (Sum.inr ()) (Sum.inl 1) rfl (fun j hj hp => by
   obtain ⟨z, hz⟩ : ∃ z, x.2.2[j]? = some z := ⟨_, zO hj⟩
   have q := hp z hz
   rw [dec j z hz none, if_pos q.1]
   rcases f_in hz h hN with ⟨_, e⟩ | ⟨g, _⟩
   ·rw [e, zi, sR, zr (by unfold rng; omega)]; rfl
   ·exact absurd q.2 g) (fun j hj hp => by
   obtain ⟨z, hz⟩ : ∃ z, x.2.2[j]? = some z := ⟨_, zO hj⟩
   rw [dec j z hz none]
   by_cases c : RdOk off.length z
   ·rw [if_pos c]
    rcases f_in hz h hN with ⟨g, _⟩ | ⟨_, e⟩
    ·exact absurd (fun z' hz' => by rw [hz] at hz'; cases hz'; exact ⟨c, g⟩) hp
    ·rw [e, zi, sL]
   ·rw [if_neg c]) (by
   unfold sf73_L3
   rw [decide_eq_false (by omega), cond_false]) (by omega) with ⟨h1, h2⟩ | ⟨h1, h2⟩
 ·refine .inl ⟨⟨fun r hr => ?_, fun i j a b hij ha hb => (h1 j (zY hb) b hb).2 i a hij ha⟩, h2⟩
  obtain ⟨j, hj⟩ := List.getElem?_of_mem hr
  exact (h1 j (zY hj) r hj).1
 ·exact .inr ⟨fun g => h1 fun j hj z hz => ⟨g.1 z (List.mem_of_getElem? hz), fun i a hi ha => g.2 i j a z hi ha hz⟩, h2⟩
theorem s73 (hS : Short B) (hN : 1000 ≤ N) : sf73 N off er B = some (code off er B) := by
 classical
 unfold sf73 code
 by_cases c0 : 6 < off.length ∨ 6 < B.length
 ·rw [if_pos c0]
  by_cases c1 : (6 : Int) < (off.length : Int)
  ·rw [decide_eq_true c1]; rfl
  ·rw [decide_eq_false c1, cond_false, decide_eq_true (by omega)]; rfl
 ·rw [if_neg c0, decide_eq_false (p := (6 : Int) < (off.length : Int)) (by omega), cond_false, decide_eq_false (p := (6 : Int) < (B.length : Int)) (by omega), zi, cond_false, zi, sR]
  by_cases c1 : (off.length : Int) = 0
  ·rw [decide_eq_true c1, cond_true, if_neg (fun g : SerOk off er B => by have := g.1; omega)]; rfl
  ·rw [decide_eq_false c1, cond_false, s32, zi]
   by_cases c2 : 0 ≤ er ∧ er ≤ 20
   ·rw [decide_eq_true c2, Bool.not_true, zi, cond_false, zi, sR]
    rcases vy (step := sf73_L1 N off) (l := off) (p := OffOk) (bad := (1 : Int)) (N := N) (by omega) (by
     intro j z hz hp
     have := zY hz
     unfold sf73_L1
     rw [decide_eq_true (by omega), cond_true, z3 rfl hz, s90, zi, decide_eq_true (p := -100 ≤ z.1 ∧ z.1 ≤ z.2 ∧ z.2 ≤ 100) hp, Bool.not_true, cond_false, zr (by unfold rng; omega)]) (by
     intro j z hz hp
     have := zY hz
     unfold sf73_L1
     rw [decide_eq_true (by omega), cond_true, z3 rfl hz, s90, zi, decide_eq_false (p := -100 ≤ z.1 ∧ z.1 ≤ z.2 ∧ z.2 ≤ 100) hp]
     rfl) (by
     unfold sf73_L1
     rw [decide_eq_false (by omega), cond_false]) with ⟨hA, e⟩ | ⟨hA, e⟩
    ·rw [e, zi, sR]
     rcases vy (step := sf73_L4 N off B) (l := B) (p := BathOk off.length) (bad := (1 : Int)) (N := N) (by omega) (by
      intro j z hz hp
      have := zY hz
      unfold sf73_L4
      rw [decide_eq_true (by omega), cond_true, z3 rfl hz, s90, zi, decide_eq_true (p := 0 ≤ z.1 ∧ z.1 ≤ z.2.1 ∧ z.2.1 ≤ 1000) hp.1, Bool.not_true, cond_false]
      rcases f_bath (off := off) (x := z) (by omega) (hS z (List.mem_of_getElem? hz)) hN with ⟨_, e⟩ | ⟨g, _⟩
      ·rw [e, zi, sR, zr (by unfold rng; omega)]
      ·exact absurd hp.2 g) (by
      intro j z hz hp
      have := zY hz
      unfold sf73_L4
      rw [decide_eq_true (by omega), cond_true, z3 rfl hz, s90, zi]
      by_cases c : 0 ≤ z.1 ∧ z.1 ≤ z.2.1 ∧ z.2.1 ≤ 1000
      ·rw [decide_eq_true c, Bool.not_true, cond_false]
       rcases f_bath (off := off) (x := z) (by omega) (hS z (List.mem_of_getElem? hz)) hN with ⟨g, _⟩ | ⟨_, e⟩
       ·exact absurd ⟨c, g⟩ hp
       ·rw [e, zi, sL]
      ·rw [decide_eq_false c]; rfl) (by
      unfold sf73_L4
      rw [decide_eq_false (by omega), cond_false]) with ⟨hB, e⟩ | ⟨hB, e⟩
     ·rw [e, zi, sR, if_pos (show SerOk off er B from ⟨by omega, hA, c2, by omega, hB⟩)]
     ·rw [e, zi, sL, if_neg (fun g : SerOk off er B => hB g.2.2.2.2)]
    ·rw [e, zi, sL, if_neg (fun g : SerOk off er B => hA g.2.1)]
   ·rw [decide_eq_false c2, if_neg (fun g : SerOk off er B => c2 g.2.2.1)]; rfl
def ThinP (off : List (Int × Int)) (B : List Ba) : Prop := off.length ≤ 9 ∧ B.length ≤ 9 ∧ ∀ b, b ∈ B → b.2.2.length ≤ 9
theorem s19 (hN : 1000 ≤ N) : ∃ v : Bool, sf19 N off er B = some v ∧ (v = true → ThinP off B) := by
 unfold sf19
 obtain ⟨y, e, hy⟩ := y4 (step := sf19_L1 B) (fun x => ∃ j : Nat, j ≤ B.length ∧ j ≤ 10 ∧ x = (j : Int) ∧ ∀ i b, i < j → B[i]? = some b → b.2.2.length ≤ 9) (fun x => 10 - x.toNat)
  (fun y => y = .inr () ∨ (y = .inl () ∧ ∀ i b, i < 10 → B[i]? = some b → b.2.2.length ≤ 9)) (by
   rintro x ⟨j, h1, h2, rfl, h3⟩
   unfold sf19_L1
   by_cases c1 : j < B.length
   ·rw [decide_eq_true (p := (j : Int) < (B.length : Int)) (by omega), cond_true, zi]
    by_cases c2 : j < 10
    ·rw [decide_eq_true (p := (j : Int) < 10) (by omega), cond_true, zi, sL]
     obtain ⟨z, hz⟩ : ∃ z, B[j]? = some z := ⟨_, zO c1⟩
     rw [z3 rfl hz]
     by_cases c3 : 9 < z.2.2.length
     ·rw [decide_eq_true (by omega), cond_true]; exact .inr ⟨_, rfl, .inl rfl⟩
     ·rw [decide_eq_false (by omega), cond_false, zr (by unfold rng; omega)]
      refine .inl ⟨_, rfl, ⟨j + 1, by omega, by omega, rfl, fun i b hi hb => ?_⟩, by simp; omega⟩
      by_cases e : i = j
      ·subst e; rw [hz] at hb; cases hb; omega
      ·exact h3 i b (by omega) hb
    ·rw [decide_eq_false (p := (j : Int) < 10) (by omega), cond_false, zi, sR]
     exact .inr ⟨_, rfl, .inr ⟨rfl, fun i b hi hb => h3 i b (by omega) hb⟩⟩
   ·rw [decide_eq_false (p := (j : Int) < (B.length : Int)) (by omega), cond_false, zi, cond_false, zi, sR]
    exact .inr ⟨_, rfl, .inr ⟨rfl, fun i b hi hb => h3 i b (by have := zY hb; omega) hb⟩⟩) N 0 ⟨0, by omega, by omega, rfl, fun i b hi => by omega⟩ (by simp; omega)
 rw [e, zi]
 rcases hy with rfl | ⟨rfl, h⟩
 ·exact ⟨false, rfl, fun h => by cases h⟩
 ·rw [sL]
  by_cases c1 : (off.length : Int) ≤ 9
  ·rw [decide_eq_true c1, cond_true]
   refine ⟨_, rfl, fun h2 => ?_⟩
   have h2 := of_decide_eq_true h2
   refine ⟨by omega, by omega, fun b hb => ?_⟩
   obtain ⟨i, hi⟩ := List.getElem?_of_mem hb
   exact h i b (by have := zY hi; omega) hi
  ·rw [decide_eq_false c1, cond_false]
   exact ⟨false, rfl, fun h => by cases h⟩
theorem jt (h : ThinP off B) : Short B := fun b hb => Nat.le_trans (h.2.2 b hb) (by decide)
theorem s60 (hN : 1000 ≤ N) : ∃ v : Bool, sf60 N off er B = some v ∧ (v = true → ThinP off B ∧ SerOk off er B) := by
 unfold sf60
 obtain ⟨v, e, h⟩ := s19 (off := off) (er := er) (B := B) hN
 rw [e, zi]
 cases v with
 | false => exact ⟨false, rfl, fun h => by cases h⟩
 | true =>
  have ht := h rfl
  rw [cond_true]
  unfold sf25
  rw [s73 (jt ht) hN, zi, zi]
  exact ⟨_, rfl, fun g => ⟨ht, Y0 (of_decide_eq_true g)⟩⟩
theorem Ye {x : Int} (h : 0 ≤ x ∧ x < 256) : IntKind.wrap .i64 x = x := yR x (by omega) (by omega)
theorem bnd_use {α β : Type} {x : Option α} {k : α → Option β} {r : Option β} (P : α → Prop) (h1 : ∃ a, x = some a ∧ P a) (h2 : ∀ a, P a → k a = r) : bnd x k = r := by
 obtain ⟨a, rfl, h⟩ := h1
 rw [zi]; exact h2 a h
theorem law12 {a b : Int} (ha : 0 ≤ a ∧ a < 256) (hb : 0 ≤ b ∧ b < 256) (hN : 100001 ≤ N) : sf12 N off er B a b = some true := by
 obtain ⟨v, e0, hv⟩ := s60 (N := N) (off := off) (er := er) (B := B) (by omega)
 unfold sf12
 rw [e0, zi]
 cases v with
 | false => rfl
 | true =>
  obtain ⟨ht, hs⟩ := hv rfl
  have hS := jt ht
  have t1 := ht.1; have t2 := ht.2.1
  obtain ⟨l, e1, hl⟩ := s35 (N := N) (off := off) (er := er) (B := B) (by omega) hS (by omega)
  rw [Bool.not_true, cond_false, e1, zi]
  refine bnd_use (fun y => ∃ B', Less B' B ∧ y = (off, er, B')) ?_ ?_
  ·by_cases c : (0 : Int) < (l.length : Int)
   ·have q1 := Int.tmod_nonneg (l.length : Int) ha.1
    have q2 := Int.tmod_lt_of_pos a c
    obtain ⟨B', e2, hl2⟩ := s37 (N := N) (off := off) (er := er) (B := B) (l := (l.drop (Int.toNat (Int.tmod a (l.length : Int)))).take ((Int.toNat ((Int.tmod a (l.length : Int)) + (1 : Int))) - (Int.toNat (Int.tmod a (l.length : Int))))) (by omega) hS (by rw [List.length_take, List.length_drop]; omega) hN
    rw [decide_eq_true c, cond_true, zr (Ye ha), zr (by omega), zr (by unfold rng; omega), zr (by omega), e2, zi]
    exact ⟨_, rfl, B', hl2, rfl⟩
   ·rw [decide_eq_false c, cond_false]
    exact ⟨_, rfl, B, Less.refl B, rfl⟩
  ·rintro y ⟨B', hl2, rfl⟩
   have w1 := Int.tmod_nonneg 4 hb.1
   have w2 := Int.tmod_lt_of_pos b (show (0 : Int) < 4 by decide)
   have w3 := hs.2.2.1
   have hS' := jy hS hl2
   obtain ⟨o, o', h, h', e, e', k1, k2, k3, k4, k5, k6, k7⟩ := YV (N := N) (er' := min 20 (er + Int.tmod b 4)) hs hS hl2 (by omega) (by omega) (by omega)
   dsimp only
   have m1 := s22 (N := N) (off := off) (er := er) (B := B) (by omega) (by omega) hS (by omega)
   have m2 := s22 (N := N) (off := off) (er := min 20 (er + Int.tmod b 4)) (B := B') (by omega) (by rw [hl2.1]; omega) hS' (by omega)
   rw [zr (Ye hb), zr (by decide), zr (by unfold rng; omega), m1, zi, k1, zi, m2, zi, k3, zi, zi, k2, zi, zi, k4, zi]
   dsimp only
   rw [decide_eq_true (p := e = e) rfl, Bool.not_true, cond_false, decide_eq_true (p := e' = e') rfl, Bool.not_true, cond_false]
   rcases k5 with rfl | rfl
   ·obtain ⟨rfl, g1, g2⟩ := k7 rfl
    rw [g1, g2]
    rfl
   ·rcases k6 with rfl | rfl <;> rfl
end
end Go.Hx.V

namespace Go.Hx
noncomputable section
abbrev Kt := Tr HV → List Nat → Tr HBlk → Nat → Option (HV × HS)
abbrev Kv := HV → Tr HBlk → Nat → Option (HV × HS)
abbrev Ko := Nat → Tr HV → Tr HBlk → Nat → Kv → Option (HV × HS)
abbrev Kc := Nat → Option Nat → Kt → (Nat → Kt) → Kt → Kt
abbrev Kf := Nat → List HV → Tr HBlk → Nat → Kv → Option (HV × HS)
def Pa.tmp (p : Pa) (a : Tr HV) : HV := Option.rec (motive := fun _ => HV) .undef (fun v => v) (Tr.getP p a)
inductive Bx (α : Type) where
  | mk (f : α)
def Bx.run {α : Type} (b : Bx α) : α := Bx.rec (motive := fun _ => α) (fun f => f) b
def Bx.then {α β : Type} (b : Bx α) (g : α → Bx β) : Bx β := Bx.rec (motive := fun _ => Bx β) g b
def Pa.then {β : Type} (p : Pa) (g : Pa → Bx β) : Bx β := Pa.rec (motive := fun _ => Bx β) (g .z) (fun q _ => g (.a q)) (fun q _ => g (.b q)) (fun q _ => g (.c q)) (fun q _ => g (.d q)) p
def evK (x : Lo) : Bx (Tr HV → HV) :=
  match x with
  | .t n => .mk (Pa.tmp (pa n))
  | .c v => .mk (fun _ => v)
def evL (x : Lo) (a : Tr HV) : HV := (evK x).run a
def slowK (lp : Nat → Option zo) (nt : Nat) (o : LOp) : Ko := fun fl a h nx k =>
  match opH lp (exec lp 0) fl o ⟨nt, a, []⟩ ⟨h, nx⟩ with
  | some (v, σ) => k v σ.h σ.nx
  | none => none
def viaK (lp : Nat → Option zo) (fn : Nat → Bx Kf) (t : Nat) (name : String) (g : Nat) (args : List HV) : Nat → Tr HBlk → Nat → Kv → Option (HV × HS) := fun fl h nx k =>
  match viaOf lp g t name, args with
  | some off, .ptr (some (b, o)) :: rest => (fn g).run fl (.ptr (some (b, Nat.add o off)) :: rest) h nx k
  | _, _ => none
def callK (lp : Nat → Option zo) (fn : Nat → Bx Kf) (ro : Nat → Nat → List HV → Tr HBlk → Nat → Kv → Option (HV × HS)) (f : Tr HV → HV) (xs : List Lo) : Ko := fun fl a h nx k =>
  match f a with
  | .func g first captured => (fn g).run fl (first ++ xs.map (fun x => evL x a) ++ captured) h nx k
  | .yield l => ro fl l (xs.map fun x => evL x a) h nx k
  | .via t name g => viaK lp fn t name g (xs.map fun x => evL x a) fl h nx k
  | _ => none
def binK (g : IntKind → Int → Int → Option HV) (x y : HV) (h : Tr HBlk) (nx : Nat) (k : Kv) : Option (HV × HS) :=
  match x, y with
  | .int k1 m, .int k2 n => bif sameK k1 k2 then (match g k1 m n with | some v => k v h nx | none => none) else none
  | _, _ => none
def addrK (off : Nat) (x : HV) (h : Tr HBlk) (nx : Nat) (k : Kv) : Option (HV × HS) :=
  match x with
  | .ptr (some (b, o)) => k (.ptr (some (b, Nat.add o off))) h nx
  | _ => none
def idxK (len size : Nat) (x i : HV) (h : Tr HBlk) (nx : Nat) (k : Kv) : Option (HV × HS) :=
  match x, i with
  | .ptr (some (b, o)), .int _ (.ofNat i) => bif Nat.blt i len then k (.ptr (some (b, Nat.add o (Nat.mul i size)))) h nx else none
  | _, _ => none
def nilK (x : HV) (h : Tr HBlk) (nx : Nat) (k : Kv) : Option (HV × HS) :=
  match x with
  | .ptr (some p) => k (.ptr (some p)) h nx
  | .func f first captured => k (.func f first captured) h nx
  | _ => none
def nthK (i : Nat) : List HV → Option HV :=
  Nat.rec (motive := fun _ => List HV → Option HV) (fun l => List.rec (motive := fun _ => Option HV) none (fun v _ _ => some v) l) (fun _ ih l => List.rec (motive := fun _ => Option HV) none (fun _ t _ => ih t) l) i
def setR (i : Nat) (v : HV) : List HV → List HV :=
  Nat.rec (motive := fun _ => List HV → List HV) (fun l => List.rec (motive := fun _ => List HV) [] (fun _ t _ => v :: t) l) (fun _ ih l => List.rec (motive := fun _ => List HV) [] (fun x t _ => x :: ih t) l) i
def loadK (x : HV) (h : Tr HBlk) (nx : Nat) (k : Kv) : Option (HV × HS) :=
  match x with
  | .ptr (some (b, o)) =>
    match h.get b with
    | some (.cells cs _) =>
      match nthK o cs with
      | some v => k v h nx
      | none => none
    | _ => none
  | _ => none
def wrOk : BK → Bool
  | .ro => false
  | _ => true
def storeK (fl : Nat) (x v : HV) (h : Tr HBlk) (nx : Nat) (k : Kv) : Option (HV × HS) :=
  match x with
  | .ptr (some (b, o)) =>
    match h.get b with
    | some (.cells cs bk) =>
      bif Nat.ble fl b && v.one && wrOk bk then
        match nthK o cs with
        | some _ => k .undef (h.set b (some (.cells (setR o v cs) bk))) nx
        | none => none
      else none
    | _ => none
  | _ => none
def compOp (lp : Nat → Option zo) (fn : Nat → Bx Kf) (ro : Nat → Nat → List HV → Tr HBlk → Nat → Kv → Option (HV × HS)) (nt : Nat) (o : LOp) : Bx Ko :=
  match o with
  | .move x => (evK x).then fun e => .mk fun _ a h nx k => k (e a) h nx
  | .bin op x y => (evK x).then fun e => (evK y).then fun f => .mk fun _ a h nx k => binK (bif isShift op then shiftH op else intFast op) (e a) (f a) h nx k
  | .fieldAddr off x => (evK x).then fun e => .mk fun _ a h nx k => addrK off (e a) h nx k
  | .indexAddrA len size x i => (evK x).then fun e => (evK i).then fun f => .mk fun _ a h nx k => idxK len size (e a) (f a) h nx k
  | .nilCheck x => (evK x).then fun e => .mk fun _ a h nx k => nilK (e a) h nx k
  | .load false 1 x => (evK x).then fun e => .mk fun _ a h nx k => loadK (e a) h nx k
  | .store 1 x v => (evK x).then fun e => (evK v).then fun f => .mk fun fl a h nx k => bif (f a).one then storeK fl (e a) (f a) h nx k else slowK lp nt (.store 1 x v) fl a h nx k
  | .call f xs => (evK f).then fun e => .mk (callK lp fn ro e xs)
  | .callC f xs cs => (evK f).then fun e => .mk fun fl a h nx k => callK lp fn ro e xs fl a h nx fun v h nx => bif chkH ⟨nt, a, []⟩ ⟨h, nx⟩ cs then k v h nx else none
  | o => .mk (slowK lp nt o)
def putK (nt : Nat) (dst : Option Nat) : Bx (Tr HV → HV → Tr HV) :=
  match dst with
  | none => .mk fun a _ => a
  | some d => bif Nat.blt d nt then (pa d).then fun p => .mk (fun a v => Tr.setP (some v) p a) else .mk fun a _ => a
def isB (want : Bool) : HV → Bool
  | .bool b => b == want
  | _ => false
def guardK (g : Option (Nat × Bool)) (o : Bx Ko) : Bx Ko :=
  match g with
  | none => o
  | some (t, want) => (evK (.t t)).then fun e => o.then fun o => .mk fun fl a h nx k =>
      bif isB want (e a) then o fl a h nx k else k .undef h nx
def compOps (op : LOp → Bx Ko) (nt : Nat) : List zg → Bx (Nat → Kt → Kt)
  | [] => .mk fun _ k => k
  | o :: os => (guardK o.g (op o.op)).then fun f => (putK nt o.dst).then fun p => (compOps op nt os).then fun r => .mk fun fl k a ds h nx => f fl a h nx fun v h nx => r fl k (p a v) ds h nx
def drawK (op : LOp → Bx Ko) (nt s : Nat) : List zg → Bx (Nat → Nat → Nat → Tr HBlk → List (Nat × List (Nat × HBlk)) → Kt → Tr HV → List Nat → Nat → Option (HV × HS))
  | [] => .mk fun _ _ _ h0 done k a ds nx => k a ds (merge h0 none done) nx
  | o :: os => (guardK o.g (op o.op)).then fun f => (putK nt o.dst).then fun p => (drawK op nt s os).then fun r => (compOps op nt (o :: os)).then fun q => .mk fun fl n0 i h0 done k a ds nx =>
      bif Nat.blt i s then
        bif o.anc.contains i then
          f n0 a (merge h0 (some o.anc) done) nx fun v h nx' => bif Nat.ble nx nx' then r fl n0 (Nat.succ i) h0 ((i, newFrom h n0 (Nat.sub nx' n0)) :: dropAll o.anc done) k (p a v) ds nx' else none
        else
          f nx a (merge h0 (some o.anc) done) nx fun v h nx' => bif Nat.ble nx nx' then r fl n0 (Nat.succ i) h0 (bif Nat.beq nx nx' then done else (i, newFrom h nx (Nat.sub nx' nx)) :: done) k (p a v) ds nx' else none
      else q fl k a ds (merge h0 none done) nx
def loopK (b : Option HBlk) (k : LState → HExit → Nat → Tr HV → List Nat → zf → zf → Nat → Option (HV × HS)) : Option (HV × HS) :=
  match b with
  | some (.loop ⟨st, pe, nt, tm, ps, asg, bo, mk⟩) => k st pe nt tm ps asg bo mk
  | _ => none
def marksK (rd : Option Nat) (h : Tr HBlk) (nx : Nat) (k : Nat → List Nat → Tr HBlk → Nat → Option (HV × HS)) : Option (HV × HS) :=
  match rd with
  | none => k nx [nx] (h.set nx (some .marks)) (Nat.succ nx)
  | some l => loopK (h.get l) fun _ _ _ _ _ _ _ mk => k mk [] h nx
def notBusy : LState → Bool
  | .busy => false
  | _ => true
def isReady : LState → Bool
  | .ready => true
  | _ => false
def jumpK (e : HExit) (kn : Kt) (kx : Nat → Kt) (kr : Kt) : Kt :=
  match e with
  | .normal => kn
  | .exit i => kx i
  | .ret => kr
def rangeK (fn : Nat → Bx Kf) (nt : Nat) (e : Tr HV → HV) (ps : List Nat) (assign body : zf) : Kc := fun fl rd kn kx kr a ds h nx =>
  match e a with
  | .func g first captured =>
    marksK rd h nx fun mk ms h1 n1 =>
      (fn g).run fl (first ++ [.yield n1] ++ captured) (h1.set n1 (some (.loop ⟨.ready, .normal, nt, a, ps, assign, body, mk⟩))) (Nat.succ n1) fun _ h3 n3 =>
        loopK (h3.get n1) fun st pe nt' tm ps' asg bo mk' =>
          bif notBusy st && Nat.ble fl n1 then jumpK pe kn kx kr a (ms ++ ds) (h3.set n1 (some (.loop ⟨.exhausted, pe, nt', tm, ps', asg, bo, mk'⟩))) n3 else none
  | _ => none
def endK (l : Nat) (e : HExit) (k : Kv) (h : Tr HBlk) (nx : Nat) : Option (HV × HS) :=
  loopK (h.get l) fun _ _ nt tm ps asg bo mk =>
    match e with
    | .normal => k (.bool true) (h.set l (some (.loop ⟨.ready, .normal, nt, tm, ps, asg, bo, mk⟩))) nx
    | e => k (.bool false) (h.set l (some (.loop ⟨.done, e, nt, tm, ps, asg, bo, mk⟩))) nx
def roundK (co : Nat → zf → Bx Kc) : Nat → Nat → List HV → Tr HBlk → Nat → Kv → Option (HV × HS) := fun fl l args h nx k =>
  loopK (h.get l) fun _ _ nt tm ps asg bo _ =>
    match zipPut nt tm ps args with
    | some tm1 =>
      (co nt asg).run fl (some l)
        (fun a1 ds1 h1 n1 => loopK (h1.get l) fun st pe nt' tm' ps' asg' bo' mk' =>
          bif isReady st && Nat.ble fl l then
            (co nt bo).run fl (some l) (fun _ _ => endK l .normal k) (fun i _ _ => endK l (.exit i) k) (fun _ _ => endK l .ret k) a1 ds1 (h1.set l (some (.loop ⟨.busy, pe, nt', tm', ps', asg', bo', mk'⟩))) n1
          else none)
        (fun _ _ _ _ _ => none) (fun _ _ _ _ => none) tm1 [] h nx
    | none => none
def comp (op : LOp → Bx Ko) (fn : Nat → Bx Kf) (nt : Nat) : zf → Bx Kc
  | .skip => .mk fun _ _ kn _ _ => kn
  | .seq x y => (comp op fn nt x).then fun f => (comp op fn nt y).then fun g => .mk fun fl rd kn kx kr => f fl rd (g fl rd kn kx kr) kx kr
  | .cond c x y => (evK c).then fun e => (comp op fn nt x).then fun f => (comp op fn nt y).then fun g => .mk fun fl rd kn kx kr a ds h nx =>
      match e a with
      | .bool b => bif b then f fl rd kn kx kr a ds h nx else g fl rd kn kx kr a ds h nx
      | _ => none
  | .block id x => (comp op fn nt x).then fun f => .mk fun fl rd kn kx kr => f fl rd kn (fun i => bif Nat.beq i id then kn else kx i) kr
  | .loop x => (comp op fn nt x).then fun f => .mk fun fl rd _ kx kr => Nat.rec (motive := fun _ => Kt) (fun _ _ _ _ => none) (fun _ ih => f fl rd ih kx kr) 1000000
  | .scope x => comp op fn nt x
  | .exit id => .mk fun _ _ _ kx _ => kx id
  | .ret => .mk fun _ _ _ _ kr => kr
  | .reg ops => (compOps op nt ops).then fun f => .mk fun fl _ kn _ _ => f fl kn
  | .draw s ops => (drawK op nt s ops).then fun f => .mk fun fl _ kn _ _ a ds h nx => bif Nat.ble fl nx then f fl nx 0 h [] kn a ds nx else none
  | .rangeFunc f ps assign body => (evK f).then fun e => .mk (rangeK fn nt e ps assign body)
  | .bad => .mk fun _ _ _ _ _ _ _ _ _ => none
def leaveK (fl : Nat) (nt : Nat) (res : List LRes) (k : Kv) : Kt := fun a ds h nx =>
  match leaveH fl ⟨nt, a, ds⟩ res ⟨h, nx⟩ with
  | some (v, σ) => k v σ.h σ.nx
  | none => none
abbrev Kr := Nat → Nat → List HV → Tr HBlk → Nat → Kv → Option (HV × HS)
def gcK (h : Tr HBlk) (nx : Nat) (k : Kv) : Kv := fun v h' nx' => k v (keepD h' nx 5 [v] h) nx'
def specK (g : List HV → HS → Option (HV × HS)) : Kf := fun _ args h nx k =>
  match g args ⟨h, nx⟩ with
  | some (v, σ) => bif Nat.ble nx σ.nx then k v σ.h σ.nx else none
  | none => none
def enterK (lf : zo) (body : Kc) : Bx Kf :=
  bif lf.imp then .mk fun fl args h nx k => bif Nat.ble args.length lf.nt then body fl none (leaveK fl lf.nt lf.res k) (fun _ _ _ _ _ => none) (leaveK fl lf.nt lf.res k) (putAll .e 0 args) [] h nx else none
  else .mk fun _ args h nx k => bif Nat.ble args.length lf.nt then body nx none (leaveK nx lf.nt lf.res (gcK h nx k)) (fun _ _ _ _ _ => none) (leaveK nx lf.nt lf.res (gcK h nx k)) (putAll .e 0 args) [] h nx else none
def bothK (lp : Nat → Option zo) : Nat → (Nat → Bx Kf) × Kr
  | 0 => (fun _ => .mk fun _ _ _ _ _ => none, fun _ _ _ _ _ _ => none)
  | n + 1 =>
    (fun f =>
      match lp f with
      | none => .mk fun _ _ _ _ _ => none
      | some lf =>
        match lf.spec with
        | some g => .mk (specK g)
        | none => (comp (compOp lp (bothK lp n).1 (bothK lp n).2 lf.nt) (bothK lp n).1 lf.nt lf.body).then (enterK lf),
     roundK fun nt c => comp (compOp lp (bothK lp n).1 (bothK lp n).2 nt) (bothK lp n).1 nt c)
def fnK (lp : Nat → Option zo) (n : Nat) : Nat → Bx Kf := (bothK lp n).1
end
end Go.Hx

namespace Go.Hx
variable {lp : Nat → Option zo} {nt : Nat}
theorem ye {α : Type} (f : α) : (Bx.mk f).run = f := rfl
theorem zP {α β : Type} (b : Bx α) (g : α → Bx β) : b.then g = g b.run := by cases b; rfl
theorem pa_then {β : Type} (p : Pa) (g : Pa → Bx β) : p.then g = g p := by cases p <;> rfl
theorem tmp_eq (a : Tr HV) (ds : List Nat) (n : Nat) : (pa n).tmp a = (⟨nt, a, ds⟩ : HAct).tmp n := by
 show Option.rec (motive := fun _ => HV) HV.undef (fun v => v) (a.get n) = (a.get n).getD .undef
 cases a.get n <;> rfl
theorem zA (x : Lo) (a : Tr HV) (ds : List Nat) : (evK x).run a = (⟨nt, a, ds⟩ : HAct).ev x := by
 cases x with
 | t n => exact tmp_eq a ds n
 | c v => rfl
theorem evs_eq (xs : List Lo) (a : Tr HV) (ds : List Nat) : (xs.map fun x => evL x a) = xs.map (⟨nt, a, ds⟩ : HAct).ev := by
 apply List.map_congr_left
 intro x _
 exact zA x a ds
def KoOk (lp : Nat → Option zo) (nt : Nat) (G : Ko) (o : LOp) : Prop := ∀ fl a ds h nx (k : Kv) r, G fl a h nx k = some r → ∃ n v σ', opH lp (exec lp n) fl o ⟨nt, a, ds⟩ ⟨h, nx⟩ = some (v, σ') ∧ k v σ'.h σ'.nx = some r
def KosOk (lp : Nat → Option zo) (nt : Nat) (G : Nat → Kt → Kt) (os : List zg) : Prop := ∀ fl (k : Kt) a ds h nx r, G fl k a ds h nx = some r → ∃ n a' σ', runOps lp (exec lp n) fl os ⟨nt, a, ds⟩ ⟨h, nx⟩ = some (a', σ') ∧ a'.nt = nt ∧ k a'.tmps a'.defers σ'.h σ'.nx = some r
def contK (e : HExit) (kn : Kt) (kx : Nat → Kt) (kr : Kt) (a : HAct) (σ : HS) : Option (HV × HS) :=
 match e with
 | .normal => kn a.tmps a.defers σ.h σ.nx
 | .exit i => kx i a.tmps a.defers σ.h σ.nx
 | .ret => kr a.tmps a.defers σ.h σ.nx
def KcOk (lp : Nat → Option zo) (nt : Nat) (F : Kc) (c : zf) : Prop := ∀ fl rd kn kx kr a ds h nx r, F fl rd kn kx kr a ds h nx = some r → ∃ n e a' σ', exec lp n fl rd c ⟨nt, a, ds⟩ ⟨h, nx⟩ = some (e, a', σ') ∧ a'.nt = nt ∧ contK e kn kx kr a' σ' = some r
def KfOk (lp : Nat → Option zo) (F : Kf) (f : Nat) : Prop := ∀ fl args h nx (k : Kv) r, F fl args h nx k = some r → ∃ n v σ', callF lp (exec lp n) fl f args ⟨h, nx⟩ = some (v, σ') ∧ k v σ'.h σ'.nx = some r
def KrOk (lp : Nat → Option zo) (ro : Kr) : Prop := ∀ fl l args h nx (k : Kv) r, ro fl l args h nx k = some r → ∃ n v σ', roundH (exec lp n) fl l args ⟨h, nx⟩ = some (v, σ') ∧ k v σ'.h σ'.nx = some r
theorem slow_ok (o : LOp) : KoOk lp nt (slowK lp nt o) o := by
 intro fl a ds h nx k r hr
 unfold slowK at hr
 rw [kZ (a := ⟨nt, a, []⟩) (b := ⟨nt, a, ds⟩) ⟨h, nx⟩ rfl (fun _ _ => rfl)] at hr
 split at hr
 ·rename_i v σ' ho; exact ⟨0, v, σ', ho, hr⟩
 ·cases hr
theorem chk_ds {nt : Nat} {a : Tr HV} {ds ds' : List Nat} {σ : HS} : ∀ (cs : List (Bool × Nat × Lo × Nat)), chkH ⟨nt, a, ds⟩ σ cs = chkH ⟨nt, a, ds'⟩ σ cs
 | [] => rfl
 | (g, n, x, t) :: cs => by
  unfold chkH
  rw [chk_ds (ds' := ds') cs]
  rfl
theorem YH {fn : Nat → Bx Kf} {ro : Kr} (hfn : ∀ f, KfOk lp (fn f).run f) (hro : KrOk lp ro) (f : Lo) (xs : List Lo) : KoOk lp nt (callK lp fn ro (evK f).run xs) (.call f xs) := by
 intro fl a ds h nx k r hr
 unfold callK at hr
 rw [zA (nt := nt) f a ds, evs_eq (nt := nt) xs a ds] at hr
 split at hr
 ·rename_i g first captured hf
  obtain ⟨n, v, σ', h1, h2⟩ := hfn g _ _ _ _ _ _ hr
  refine ⟨n, v, σ', ?_, h2⟩
  show callH lp _ fl _ _ _ = _
  unfold callH
  rw [hf]
  exact h1
 ·rename_i l hf
  obtain ⟨n, v, σ', h1, h2⟩ := hro _ _ _ _ _ _ _ hr
  refine ⟨n, v, σ', ?_, h2⟩
  show callH lp _ fl _ _ _ = _
  unfold callH
  rw [hf]
  exact h1
 ·rename_i t name g hf
  unfold viaK at hr
  split at hr
  ·rename_i off b o rest e1 e2
   obtain ⟨n, v, σ', h1, h2⟩ := hfn g _ _ _ _ _ _ hr
   refine ⟨n, v, σ', ?_, h2⟩
   show callH lp _ fl _ _ _ = _
   unfold callH
   rw [hf]
   show callV lp _ fl t name g _ _ = _
   unfold callV
   rw [e1, e2]
   exact h1
  ·cases hr
 ·cases hr
theorem XW : ∀ (i : Nat) (l : List HV), nthK i l = l[i]?
 | 0, [] => rfl
 | 0, v :: l => rfl
 | i + 1, [] => rfl
 | i + 1, v :: l => (XW i l).trans (by simp)
theorem XF (v : HV) : ∀ (i : Nat) (l : List HV), i < l.length → overwrite l i [v] = some (setR i v l)
 | _, [], h => by simp at h
 | 0, x :: l, _ => by cases l <;> rfl
 | i + 1, x :: l, h => by
  unfold overwrite
  rw [XF v i l (by simpa using h)]
  rfl
theorem op_ok {fn : Nat → Bx Kf} {ro : Kr} (hfn : ∀ f, KfOk lp (fn f).run f) (hro : KrOk lp ro) (o : LOp) : KoOk lp nt (compOp lp fn ro nt o).run o := by
 have slow := slow_ok (lp := lp) (nt := nt) o
 unfold compOp
 split
 case h_1 x =>
  rw [zP, ye]
  intro fl a ds h nx k r hr
  dsimp only at hr
  rw [zA (nt := nt) x a ds] at hr
  exact ⟨0, _, ⟨h, nx⟩, rfl, hr⟩
 case h_2 op x y =>
  rw [zP, zP, ye]
  intro fl a ds h nx k r hr
  dsimp only at hr
  rw [zA (nt := nt) x a ds, zA (nt := nt) y a ds] at hr
  unfold binK at hr
  split at hr
  ·rename_i k1 m k2 n e1 e2
   cases hk : sameK k1 k2 with
   | false => rw [hk] at hr; cases hr
   | true =>
    rw [hk] at hr
    simp only [cond_true] at hr
    split at hr
    ·rename_i v e3
     refine ⟨0, v, ⟨h, nx⟩, ?_, hr⟩
     show keep _ (binH op _ _) = _
     rw [e1, e2]
     unfold binH
     dsimp only
     cases hsh : isShift op with
     | true => rw [hsh] at e3; simp only [cond_true] at e3 ⊢; rw [e3]; rfl
     | false => rw [hsh] at e3; simp only [cond_false] at e3 ⊢; rw [hk, e3]; rfl
    ·cases hr
  ·cases hr
 case h_3 off x =>
  rw [zP, ye]
  intro fl a ds h nx k r hr
  dsimp only at hr
  rw [zA (nt := nt) x a ds] at hr
  unfold addrK at hr
  split at hr
  ·rename_i b o e1
   refine ⟨0, _, ⟨h, nx⟩, ?_, hr⟩
   show oFieldAddr off x _ _ = _
   unfold oFieldAddr
   rw [e1]
  ·cases hr
 case h_4 len size x i =>
  rw [zP, zP, ye]
  intro fl a ds h nx k r hr
  dsimp only at hr
  rw [zA (nt := nt) x a ds, zA (nt := nt) i a ds] at hr
  unfold idxK at hr
  split at hr
  ·rename_i b o kk j e1 e2
   cases hb : Nat.blt j len with
   | false => rw [hb] at hr; cases hr
   | true =>
    rw [hb] at hr
    refine ⟨0, _, ⟨h, nx⟩, ?_, hr⟩
    show oIndexAddrA len size x i _ _ = _
    unfold oIndexAddrA
    rw [e1, e2]
    simp only [natOf, stepTo, hb, cond_true]
  ·cases hr
 case h_5 x =>
  rw [zP, ye]
  intro fl a ds h nx k r hr
  dsimp only at hr
  rw [zA (nt := nt) x a ds] at hr
  unfold nilK at hr
  split at hr
  ·rename_i p e1
   refine ⟨0, _, ⟨h, nx⟩, ?_, hr⟩
   show oNilCheck x _ _ = _
   unfold oNilCheck
   rw [e1]
  ·rename_i f first captured e1
   refine ⟨0, _, ⟨h, nx⟩, ?_, hr⟩
   show oNilCheck x _ _ = _
   unfold oNilCheck
   rw [e1]
  ·cases hr
 case h_6 x =>
  rw [zP, ye]
  intro fl a ds h nx k r hr
  dsimp only at hr
  rw [zA (nt := nt) x a ds] at hr
  unfold loadK at hr
  split at hr
  ·rename_i b o e1
   split at hr
   ·rename_i cs bk e2
    rw [XW] at hr
    split at hr
    ·rename_i v e3
     refine ⟨0, v, ⟨h, nx⟩, ?_, hr⟩
     show oLoad false 1 x _ _ = _
     unfold oLoad
     rw [e1]
     have hc : (⟨h, nx⟩ : HS).cells b = some cs := by unfold HS.cells; rw [e2]
     have hr2 : (⟨h, nx⟩ : HS).read (b, o) 1 = some [v] := by
      unfold HS.read
      simp only [hc, Option.bind_eq_bind, Option.bind_some]
      have hlt : o < cs.length := by
       rcases Nat.lt_or_ge o cs.length with h | h
       ·exact h
       ·rw [List.getElem?_eq_none h] at e3; cases e3
      rw [List.drop_eq_getElem_cons hlt]
      rw [List.getElem?_eq_getElem hlt] at e3
      cases e3
      simp [takeN]
     simp only [hr2, whole, keep]
    ·cases hr
   ·cases hr
  ·cases hr
 case h_7 x y =>
  rw [zP, zP, ye]
  intro fl a ds h nx k r hr
  dsimp only at hr
  rw [zA (nt := nt) x a ds, zA (nt := nt) y a ds] at hr
  revert hr
  cases h1 : ((⟨nt, a, ds⟩ : HAct).ev y).one with
  | false => exact fun hr => slow fl a ds h nx k r hr
  | true =>
  intro hr
  simp only [cond_true] at hr
  unfold storeK at hr
  split at hr
  ·rename_i b o e1
   split at hr
   ·rename_i cs bk e2
    revert hr
    cases hc : (Nat.ble fl b && ((⟨nt, a, ds⟩ : HAct).ev y).one && wrOk bk) with
    | false => intro hr; cases hr
    | true =>
     intro hr
     simp only [cond_true] at hr
     simp only [Bool.and_eq_true] at hc
     obtain ⟨⟨c1, c2⟩, c3⟩ := hc
     rw [XW] at hr
     split at hr
     ·rename_i u e3
      have hlt : o < cs.length := by
       rcases Nat.lt_or_ge o cs.length with h | h
       ·exact h
       ·rw [List.getElem?_eq_none h] at e3; cases e3
      refine ⟨0, .undef, ⟨h.set b (some (.cells (setR o ((⟨nt, a, ds⟩ : HAct).ev y) cs) bk)), nx⟩, ?_, hr⟩
      have hcells : ((⟨nt, a, ds⟩ : HAct).ev y).cells = [(⟨nt, a, ds⟩ : HAct).ev y] := by
       generalize (⟨nt, a, ds⟩ : HAct).ev y = v at c2
       cases v <;> first | rfl | cases c2
      show oStore fl 1 x y _ _ = _
      unfold oStore
      rw [e1, hcells]
      have hw : (⟨h, nx⟩ : HS).write fl (b, o) [(⟨nt, a, ds⟩ : HAct).ev y] = some ⟨h.set b (some (.cells (setR o ((⟨nt, a, ds⟩ : HAct).ev y) cs) bk)), nx⟩ := by
       unfold HS.write
       simp only [e2]
       cases bk with
       | ro => cases c3
       | exact => simp only [c1, List.all_cons, c2, List.all_nil, Bool.and_true, cond_true, XF _ _ _ hlt, Option.map_some]; rfl
       | opn z => simp only [c1, List.all_cons, c2, List.all_nil, Bool.and_true, cond_true, XF _ _ _ hlt, Option.map_some]; rfl
      simp only [hw]
      rfl
     ·cases hr
   ·cases hr
  ·cases hr
 case h_8 f xs =>
  rw [zP, ye]
  exact YH hfn hro f xs
 case h_9 f xs cs =>
  rw [zP, ye]
  intro fl a ds h nx k r hr
  obtain ⟨n, v, σ', h1, h2⟩ := YH hfn hro f xs _ _ ds _ _ _ _ hr
  refine ⟨n, v, σ', ?_, ?_⟩
  ·cases hc : chkH ⟨nt, a, []⟩ ⟨σ'.h, σ'.nx⟩ cs with
   | false => rw [hc] at h2; cases h2
   | true =>
    have h1 : callH lp (exec lp n) fl ((⟨nt, a, ds⟩ : HAct).ev f) (xs.map (⟨nt, a, ds⟩ : HAct).ev) ⟨h, nx⟩ = some (v, σ') := h1
    have hc : chkH ⟨nt, a, ds⟩ σ' cs = true := by rw [← hc]; exact chk_ds cs
    show oCallC lp _ fl f xs cs _ _ = _
    unfold oCallC
    rw [h1]
    simp only [hc, cond_true]
  ·cases hc : chkH ⟨nt, a, []⟩ ⟨σ'.h, σ'.nx⟩ cs with
   | false => rw [hc] at h2; cases h2
   | true => rw [hc] at h2; exact h2
 case h_10 => exact slow
theorem guard_k {G : Bx Ko} {o : zg} (h : KoOk lp nt G.run o.op) : ∀ fl a ds hp nx (k : Kv) r, (guardK o.g G).run fl a hp nx k = some r →
  ∃ n v σ', (bif wantedH o.g ⟨nt, a, ds⟩ then opH lp (exec lp n) fl o.op ⟨nt, a, ds⟩ ⟨hp, nx⟩ else some (.undef, ⟨hp, nx⟩)) = some (v, σ') ∧ k v σ'.h σ'.nx = some r := by
 intro fl a ds hp nx k r hr
 unfold guardK at hr
 split at hr
 ·rename_i hg
  obtain ⟨n, v, σ', h1, h2⟩ := h fl a ds hp nx k r hr
  refine ⟨n, v, σ', ?_, h2⟩
  rw [hg]
  exact h1
 ·rename_i t want hg
  rw [zP, zP, ye] at hr
  rw [zA (nt := nt) (.t t) a ds] at hr
  have hw : wantedH o.g ⟨nt, a, ds⟩ = isB want ((⟨nt, a, ds⟩ : HAct).ev (.t t)) := by
   rw [hg]
   unfold wantedH isB
   dsimp only [HAct.ev]
   generalize (⟨nt, a, ds⟩ : HAct).tmp t = x
   cases x <;> rfl
  rw [hw]
  cases hb : isB want ((⟨nt, a, ds⟩ : HAct).ev (.t t)) with
  | true =>
   rw [hb] at hr
   exact h fl a ds hp nx k r hr
  | false =>
   rw [hb] at hr
   exact ⟨0, .undef, ⟨hp, nx⟩, rfl, hr⟩
theorem put_k (dst : Option Nat) (a : Tr HV) (ds : List Nat) (v : HV) : (⟨nt, a, ds⟩ : HAct).put dst v = ⟨nt, (putK nt dst).run a v, ds⟩ := by
 unfold HAct.put putK
 cases dst with
 | none => rfl
 | some d =>
  dsimp only
  cases Nat.blt d nt with
  | false => rfl
  | true => rw [cond_true, cond_true, pa_then]; rfl
theorem XB {G : Bx Ko} {o : zg} (h : KoOk lp nt G.run o.op) : ∀ fl a ds hp nx (k : Kv) r, (guardK o.g G).run fl a hp nx k = some r →
  ∃ n v σ', stepOp lp (exec lp n) fl o ⟨nt, a, ds⟩ ⟨hp, nx⟩ = some (⟨nt, (putK nt o.dst).run a v, ds⟩, σ') ∧ k v σ'.h σ'.nx = some r := by
 intro fl a ds hp nx k r hr
 obtain ⟨n, v, σ', h1, h2⟩ := guard_k h fl a ds hp nx k r hr
 refine ⟨n, v, σ', ?_, h2⟩
 unfold stepOp
 cases hw : wantedH o.g ⟨nt, a, ds⟩ with
 | true => rw [hw] at h1; simp only [cond_true] at h1 ⊢; rw [h1]; simp only [put_k]
 | false =>
  rw [hw] at h1
  cases h1
  simp only [cond_false, put_k]
theorem ops_k {op : LOp → Bx Ko} (hop : ∀ o, KoOk lp nt (op o).run o) : ∀ os, KosOk lp nt (compOps op nt os).run os
 | [] => fun fl k a ds h nx r hr => ⟨0, _, _, rfl, rfl, hr⟩
 | o :: os => by
  intro fl k a ds h nx r hr
  unfold compOps at hr
  rw [zP, zP, zP, ye] at hr
  obtain ⟨n, v, σ1, h1, h2⟩ := XB (hop o.op) fl a ds h nx _ r hr
  obtain ⟨m, a', σ', h3, h4, h5⟩ := ops_k hop os fl k _ ds _ _ r h2
  refine ⟨max n m, a', σ', ?_, h4, h5⟩
  unfold runOps
  rw [yi (zK (Nat.le_max_left n m)) h1]
  exact yt (zK (Nat.le_max_right n m)) h3
theorem X6 {op : LOp → Bx Ko} (hop : ∀ o, KoOk lp nt (op o).run o) {s : Nat} : ∀ os fl n0 i h0 done (k : Kt) a ds nx r, fl ≤ n0 → n0 ≤ nx → (drawK op nt s os).run fl n0 i h0 done k a ds nx = some r →
  ∃ n a' σ', drawOps lp (exec lp n) fl s n0 h0 os i done ⟨nt, a, ds⟩ nx = some (a', σ') ∧ a'.nt = nt ∧ k a'.tmps a'.defers σ'.h σ'.nx = some r
 | [], fl, n0, i, h0, done, k, a, ds, nx, r, _, _, hr => ⟨0, _, _, rfl, rfl, hr⟩
 | o :: os, fl, n0, i, h0, done, k, a, ds, nx, r, hfl, hn0, hr => by
  unfold drawK at hr
  rw [zP, zP, zP, zP, ye] at hr
  cases hc : Nat.blt i s with
  | false =>
   rw [hc] at hr
   obtain ⟨n, a', σ', h1, h2, h3⟩ := ops_k hop (o :: os) fl k a ds _ nx r hr
   refine ⟨n, a', σ', ?_, h2, h3⟩
   unfold drawOps
   rw [hc]
   exact h1
  | true =>
   rw [hc] at hr
   simp only [cond_true] at hr
   cases hw : o.anc.contains i with
   | true =>
    rw [hw] at hr
    simp only [cond_true] at hr
    obtain ⟨n, v, σ1, h1, h2⟩ := XB (hop o.op) n0 a ds _ nx _ r hr
    revert h2
    cases hb : Nat.ble nx σ1.nx with
    | false => intro h2; cases h2
    | true =>
     intro h2
     simp only [cond_true] at h2
     have hle := Nat.le_of_ble_eq_true hb
     obtain ⟨m, a', σ', h3, h4, h5⟩ := X6 hop os fl n0 (Nat.succ i) h0 _ k _ ds _ r hfl (Nat.le_trans hn0 hle) h2
     refine ⟨max n m, a', σ', ?_, h4, h5⟩
     have hmx : Nat.max fl n0 = n0 := Nat.max_eq_right hfl
     unfold drawOps
     rw [hc, hw]
     simp only [cond_true, hmx]
     rw [yi (zK (Nat.le_max_left n m)) h1]
     simp only [hb, Bool.not_true, cond_false]
     exact yh (zK (Nat.le_max_right n m)) h3
   | false =>
    rw [hw] at hr
    simp only [cond_false] at hr
    obtain ⟨n, v, σ1, h1, h2⟩ := XB (hop o.op) nx a ds _ nx _ r hr
    revert h2
    cases hb : Nat.ble nx σ1.nx with
    | false => intro h2; cases h2
    | true =>
     intro h2
     simp only [cond_true] at h2
     have hle := Nat.le_of_ble_eq_true hb
     obtain ⟨m, a', σ', h3, h4, h5⟩ := X6 hop os fl n0 (Nat.succ i) h0 _ k _ ds _ r hfl (Nat.le_trans hn0 hle) h2
     refine ⟨max n m, a', σ', ?_, h4, h5⟩
     have hmx : Nat.max fl nx = nx := Nat.max_eq_right (by omega)
     unfold drawOps
     rw [hc, hw]
     simp only [cond_true, cond_false, hmx]
     rw [yi (zK (Nat.le_max_left n m)) h1]
     simp only [hb, Bool.not_true, cond_false]
     exact yh (zK (Nat.le_max_right n m)) h3
theorem Ym {n : Nat} {fl : Nat} {rd : Option Nat} {x y : zf} {a a1 : HAct} {σ σ1 : HS} {q : HExit × HAct × HS} {m : Nat} (h1 : exec lp n fl rd x a σ = some (.normal, a1, σ1)) (h2 : exec lp m fl rd y a1 σ1 = some q) : xSeq (exec lp (max n m)) fl rd x y a σ = some q := by
 unfold xSeq
 rw [zK (Nat.le_max_left n m) _ _ _ _ _ _ h1]
 exact zK (Nat.le_max_right n m) _ _ _ _ _ _ h2
theorem jJ {b : Option HBlk} {k : LState → HExit → Nat → Tr HV → List Nat → zf → zf → Nat → Option (HV × HS)} {r : HV × HS} (hr : loopK b k = some r) : ∃ q : HLoop, b = some (.loop q) ∧ k q.state q.pending q.nt q.tmps q.params q.assign q.body q.marks = some r := by
 unfold loopK at hr
 split at hr
 ·exact ⟨_, rfl, hr⟩
 ·cases hr
theorem marks_k {rd : Option Nat} {h : Tr HBlk} {nx : Nat} {k : Nat → List Nat → Tr HBlk → Nat → Option (HV × HS)} {r : HV × HS} (hr : marksK rd h nx k = some r) : ∃ mk ms h1 n1, marksOf rd ⟨h, nx⟩ = some (mk, ms, ⟨h1, n1⟩) ∧ k mk ms h1 n1 = some r := by
 unfold marksK at hr
 cases rd with
 | none => exact ⟨_, _, _, _, rfl, hr⟩
 | some l =>
  obtain ⟨q, hq, hk⟩ := jJ hr
  refine ⟨_, _, _, _, ?_, hk⟩
  unfold marksOf
  simp only [hq]
theorem jump_k (e : HExit) (kn : Kt) (kx : Nat → Kt) (kr : Kt) (a : HAct) (σ : HS) : jumpK e kn kx kr a.tmps a.defers σ.h σ.nx = contK e kn kx kr a σ := by cases e <;> rfl
theorem range_k {fn : Nat → Bx Kf} (hfn : ∀ f, KfOk lp (fn f).run f) (f : Lo) (ps : List Nat) (assign body : zf) : KcOk lp nt (rangeK fn nt (evK f).run ps assign body) (.rangeFunc f ps assign body) := by
 intro fl rd kn kx kr a ds h nx r hr
 unfold rangeK at hr
 rw [zA (nt := nt) f a ds] at hr
 split at hr
 ·rename_i g first captured hf
  obtain ⟨mk, ms, h1, n1, hm, hr⟩ := marks_k hr
  obtain ⟨n, v, σ3, hc, hr⟩ := hfn g _ _ _ _ _ _ hr
  obtain ⟨q, hq, hr⟩ := jJ hr
  revert hr
  cases hb : (notBusy q.state && Nat.ble fl n1) with
  | false => intro hr; cases hr
  | true =>
   intro hr
   simp only [cond_true] at hr
   simp only [Bool.and_eq_true] at hb
   refine ⟨n + 1, q.pending, ⟨nt, a, ms ++ ds⟩, σ3.upd n1 (some (.loop { q with state := .exhausted })), ?_, rfl, ?_⟩
   ·show xRange lp (exec lp n) fl rd f ps assign body _ _ = _
    unfold xRange
    rw [hf, hm]
    dsimp only
    have hc' : callF lp (exec lp n) fl g (first ++ [.yield n1] ++ captured) ((⟨h1, n1⟩ : HS).new (.loop ⟨.ready, .normal, nt, a, ps, assign, body, mk⟩)) = some (v, σ3) := hc
    rw [hc']
    dsimp only
    unfold endLoopH
    rw [hq]
    dsimp only
    have hnb := hb.1
    cases hst : q.state <;> rw [hst] at hnb <;> first | (exact absurd hnb (by decide)) | (dsimp only; rw [hb.2]; rfl)
   ·rw [← jump_k]; exact hr
 ·cases hr
theorem end_k {l : Nat} {e : HExit} {k : Kv} {h : Tr HBlk} {nx : Nat} {r : HV × HS} (hr : endK l e k h nx = some r) : ∃ v σ', endRoundH l e ⟨h, nx⟩ = some (v, σ') ∧ k v σ'.h σ'.nx = some r := by
 unfold endK at hr
 obtain ⟨q, hq, hr⟩ := jJ hr
 cases e with
 | normal =>
  refine ⟨.bool true, (⟨h, nx⟩ : HS).upd l (some (.loop { q with state := .ready, pending := .normal })), ?_, hr⟩
  unfold endRoundH
  simp only [hq]
 | exit id =>
  refine ⟨.bool false, (⟨h, nx⟩ : HS).upd l (some (.loop { q with state := .done, pending := .exit id })), ?_, hr⟩
  unfold endRoundH
  simp only [hq]
 | ret =>
  refine ⟨.bool false, (⟨h, nx⟩ : HS).upd l (some (.loop { q with state := .done, pending := .ret })), ?_, hr⟩
  unfold endRoundH
  simp only [hq]
theorem round_k {co : Nat → zf → Bx Kc} (hco : ∀ nt c, KcOk lp nt (co nt c).run c) : KrOk lp (roundK co) := by
 intro fl l args h nx k r hr
 unfold roundK at hr
 obtain ⟨q, hq, hr⟩ := jJ hr
 split at hr
 ·rename_i tm1 hz
  obtain ⟨n, e, a1, σ1, h1, h2, h3⟩ := hco _ _ _ _ _ _ _ _ _ _ _ _ hr
  cases e with
  | normal =>
   dsimp only [contK] at h3
   obtain ⟨q1, hq1, h3⟩ := jJ h3
   revert h3
   cases hb : (isReady q1.state && Nat.ble fl l) with
   | false => intro h3; cases h3
   | true =>
    intro h3
    simp only [cond_true] at h3
    simp only [Bool.and_eq_true] at hb
    obtain ⟨m, e, a2, σ2, h4, h5, h6⟩ := hco _ _ _ _ _ _ _ _ _ _ _ _ h3
    have ea : (⟨q.nt, a1.tmps, a1.defers⟩ : HAct) = a1 := by rw [← h2]
    rw [ea] at h4
    have hbegin : beginRoundH fl l σ1 = some ⟨σ1.h.set l (some (.loop { q1 with state := .busy })), σ1.nx⟩ := by
     unfold beginRoundH
     rw [hq1]
     dsimp only
     have hrd := hb.1
     cases hst : q1.state <;> rw [hst] at hrd <;> first | (exact absurd hrd (by decide)) | (dsimp only; rw [hb.2]; rfl)
    have hend : ∃ v σ', endRoundH l e σ2 = some (v, σ') ∧ k v σ'.h σ'.nx = some r := by
     cases e <;> exact end_k h6
    obtain ⟨v, σ', g1, g2⟩ := hend
    refine ⟨max n m, v, σ', ?_, g2⟩
    unfold roundH
    rw [hq]
    dsimp only
    rw [hz]
    dsimp only
    rw [zK (Nat.le_max_left n m) _ _ _ _ _ _ h1]
    dsimp only
    rw [hbegin]
    dsimp only
    rw [zK (Nat.le_max_right n m) _ _ _ _ _ _ h4]
    exact g1
  | exit id => cases h3
  | ret => cases h3
 ·cases hr
theorem vW {op : LOp → Bx Ko} {fn : Nat → Bx Kf} (hop : ∀ o, KoOk lp nt (op o).run o) (hfn : ∀ f, KfOk lp (fn f).run f) : ∀ c, KcOk lp nt (comp op fn nt c).run c
 | .skip => fun fl rd kn kx kr a ds h nx r hr => ⟨1, .normal, _, _, rfl, rfl, hr⟩
 | .seq x y => by
  intro fl rd kn kx kr a ds h nx r hr
  unfold comp at hr
  rw [zP, zP, ye] at hr
  obtain ⟨n, e, a1, σ1, h1, h2, h3⟩ := vW hop hfn x fl rd _ kx kr a ds h nx r hr
  cases e with
  | normal =>
   dsimp only [contK] at h3
   obtain ⟨m, e, a', σ', h4, h5, h6⟩ := vW hop hfn y fl rd kn kx kr a1.tmps a1.defers σ1.h σ1.nx r h3
   have ea : (⟨nt, a1.tmps, a1.defers⟩ : HAct) = a1 := by rw [← h2]
   rw [ea] at h4
   exact ⟨max n m + 1, e, a', σ', Ym h1 h4, h5, h6⟩
  | exit id => exact ⟨n + 1, .exit id, a1, σ1, by show xSeq _ _ _ _ _ _ _ = _; unfold xSeq; rw [h1], h2, h3⟩
  | ret => exact ⟨n + 1, .ret, a1, σ1, by show xSeq _ _ _ _ _ _ _ = _; unfold xSeq; rw [h1], h2, h3⟩
 | .cond c x y => by
  intro fl rd kn kx kr a ds h nx r hr
  unfold comp at hr
  rw [zP, zP, zP, ye] at hr
  rw [zA (nt := nt) c a ds] at hr
  split at hr
  ·rename_i b hb
   cases b with
   | true =>
    obtain ⟨n, e, a', σ', h1, h2, h3⟩ := vW hop hfn x fl rd kn kx kr a ds h nx r hr
    refine ⟨n + 1, e, a', σ', ?_, h2, h3⟩
    show xCond _ _ _ _ _ _ _ _ = _
    unfold xCond
    rw [hb]; exact h1
   | false =>
    obtain ⟨n, e, a', σ', h1, h2, h3⟩ := vW hop hfn y fl rd kn kx kr a ds h nx r hr
    refine ⟨n + 1, e, a', σ', ?_, h2, h3⟩
    show xCond _ _ _ _ _ _ _ _ = _
    unfold xCond
    rw [hb]; exact h1
  ·cases hr
 | .block id x => by
  intro fl rd kn kx kr a ds h nx r hr
  unfold comp at hr
  rw [zP, ye] at hr
  obtain ⟨n, e, a', σ', h1, h2, h3⟩ := vW hop hfn x fl rd kn _ kr a ds h nx r hr
  cases e with
  | normal => exact ⟨n + 1, .normal, a', σ', by show xBlock _ _ _ _ _ _ _ = _; unfold xBlock; rw [h1], h2, h3⟩
  | ret => exact ⟨n + 1, .ret, a', σ', by show xBlock _ _ _ _ _ _ _ = _; unfold xBlock; rw [h1], h2, h3⟩
  | exit i =>
   dsimp only [contK] at h3
   refine ⟨n + 1, bif Nat.beq i id then .normal else .exit i, a', σ', by show xBlock _ _ _ _ _ _ _ = _; unfold xBlock; rw [h1], h2, ?_⟩
   revert h3
   cases Nat.beq i id <;> exact fun h => h
 | .loop x => by
  intro fl rd kn kx kr a ds h nx r hr
  unfold comp at hr
  rw [zP, ye] at hr
  have ihx := vW hop hfn x
  revert hr
  generalize 1000000 = m
  induction m generalizing a ds h nx with
  | zero => intro hr; cases hr
  | succ m ih =>
   intro hr
   obtain ⟨n, e, a1, σ1, h1, h2, h3⟩ := ihx fl rd _ kx kr a ds h nx r hr
   cases e with
   | normal =>
    dsimp only [contK] at h3
    obtain ⟨k, e, a', σ', h4, h5, h6⟩ := ih a1.tmps a1.defers σ1.h σ1.nx h3
    have ea : (⟨nt, a1.tmps, a1.defers⟩ : HAct) = a1 := by rw [← h2]
    rw [ea] at h4
    exact ⟨max n k + 1, e, a', σ', Ym h1 h4, h5, h6⟩
   | exit id => exact ⟨n + 1, .exit id, a1, σ1, by show xSeq _ _ _ _ _ _ _ = _; unfold xSeq; rw [h1], h2, h3⟩
   | ret => exact ⟨n + 1, .ret, a1, σ1, by show xSeq _ _ _ _ _ _ _ = _; unfold xSeq; rw [h1], h2, h3⟩
 | .scope x => by
  intro fl rd kn kx kr a ds h nx r hr
  obtain ⟨n, e, a', σ', h1, h2, h3⟩ := vW hop hfn x fl rd kn kx kr a ds h nx r hr
  exact ⟨n + 1, e, a', σ', h1, h2, h3⟩
 | .exit id => fun fl rd kn kx kr a ds h nx r hr => ⟨1, .exit id, _, _, rfl, rfl, hr⟩
 | .ret => fun fl rd kn kx kr a ds h nx r hr => ⟨1, .ret, _, _, rfl, rfl, hr⟩
 | .reg ops => by
  intro fl rd kn kx kr a ds h nx r hr
  unfold comp at hr
  rw [zP, ye] at hr
  obtain ⟨n, a', σ', h1, h2, h3⟩ := ops_k hop ops fl kn a ds h nx r hr
  refine ⟨n + 1, .normal, a', σ', ?_, h2, h3⟩
  show xNormal _ = _
  rw [h1]; rfl
 | .draw s ops => by
  intro fl rd kn kx kr a ds h nx r hr
  unfold comp at hr
  rw [zP, ye] at hr
  cases hb : Nat.ble fl nx with
  | false => rw [hb] at hr; cases hr
  | true =>
   rw [hb] at hr
   obtain ⟨n, a', σ', h1, h2, h3⟩ := X6 hop ops fl nx 0 h [] kn a ds nx r (Nat.le_of_ble_eq_true hb) (Nat.le_refl _) hr
   refine ⟨n + 1, .normal, a', σ', ?_, h2, h3⟩
   show xDraw lp (exec lp n) fl s ops _ _ = _
   unfold xDraw
   rw [hb]
   simp only [cond_true, h1]
   rfl
 | .rangeFunc f ps assign body => by
  unfold comp
  rw [zP, ye]
  exact range_k hfn f ps assign body
 | .bad => fun fl rd kn kx kr a ds h nx r hr => by cases hr
theorem YC {fl : Nat} {res : List LRes} {k : Kv} {a : HAct} {σ : HS} {r : HV × HS} (hn : a.nt = nt) (hr : leaveK fl nt res k a.tmps a.defers σ.h σ.nx = some r) : ∃ v σ', leaveH fl a res σ = some (v, σ') ∧ k v σ'.h σ'.nx = some r := by
 unfold leaveK at hr
 have ea : (⟨nt, a.tmps, a.defers⟩ : HAct) = a := by rw [← hn]
 rw [ea] at hr
 split at hr
 ·rename_i v σ' h1; exact ⟨v, σ', h1, hr⟩
 ·cases hr
theorem both_k : ∀ n, (∀ f, KfOk lp ((bothK lp n).1 f).run f) ∧ KrOk lp (bothK lp n).2
 | 0 => ⟨fun f fl args h nx k r hr => (by cases hr), fun fl l args h nx k r hr => (by cases hr)⟩
 | n + 1 => by
  obtain ⟨hfn, hro⟩ := both_k n
  have hco : ∀ nt c, KcOk lp nt (comp (compOp lp (bothK lp n).1 (bothK lp n).2 nt) (bothK lp n).1 nt c).run c := fun nt c => vW (fun o => op_ok hfn hro o) hfn c
  refine ⟨fun f fl args h nx k r hr => ?_, round_k hco⟩
  unfold bothK at hr
  dsimp only at hr
  split at hr
  ·cases hr
  ·rename_i lf hlf
   split at hr
   ·rename_i g hg
    rw [ye] at hr
    unfold specK at hr
    split at hr
    ·rename_i v σ h1
     cases hb : Nat.ble nx σ.nx with
     | false => rw [hb] at hr; cases hr
     | true =>
      rw [hb] at hr
      refine ⟨0, v, σ, ?_, hr⟩
      unfold callF
      rw [hlf]
      simp only [hg]
      unfold specH
      rw [h1]
      simp only [hb, cond_true]
    ·cases hr
   rename_i hsp
   rw [zP] at hr
   have run : ∀ (fl0 : Nat) (k0 : Kv), (bif Nat.ble args.length lf.nt then (comp (compOp lp (bothK lp n).1 (bothK lp n).2 lf.nt) (bothK lp n).1 lf.nt lf.body).run fl0 none (leaveK fl0 lf.nt lf.res k0) (fun _ _ _ _ _ => none) (leaveK fl0 lf.nt lf.res k0) (putAll .e 0 args) [] h nx else none) = some r →
     ∃ m v σ', callB (exec lp m) fl0 lf args ⟨h, nx⟩ = some (v, σ') ∧ k0 v σ'.h σ'.nx = some r := by
    intro fl0 k0 hr
    cases hb : Nat.ble args.length lf.nt with
    | false => rw [hb] at hr; cases hr
    | true =>
     rw [hb] at hr
     simp only [cond_true] at hr
     have hmx : Nat.max lf.nt args.length = lf.nt := Nat.max_eq_left (Nat.le_of_ble_eq_true hb)
     obtain ⟨m, e, a', σ', h1, h2, h3⟩ := hco lf.nt lf.body fl0 none _ _ _ _ _ _ _ r hr
     cases e with
     | normal =>
      obtain ⟨v, σ'', g1, g2⟩ := YC h2 h3
      refine ⟨m, v, σ'', ?_, g2⟩
      unfold callB
      rw [hmx, h1]
      exact g1
     | exit id => cases h3
     | ret =>
      obtain ⟨v, σ'', g1, g2⟩ := YC h2 h3
      refine ⟨m, v, σ'', ?_, g2⟩
      unfold callB
      rw [hmx, h1]
      exact g1
   unfold enterK at hr
   cases hi : lf.imp with
   | true =>
    rw [hi] at hr
    simp only [cond_true] at hr
    rw [ye] at hr
    obtain ⟨m, v, σ', g1, g2⟩ := run fl k hr
    refine ⟨m, v, σ', ?_, g2⟩
    unfold callF
    rw [hlf]
    simp only [hsp, hi, cond_true]
    exact g1
   | false =>
    rw [hi] at hr
    simp only [cond_false] at hr
    rw [ye] at hr
    obtain ⟨m, v, σ', g1, g2⟩ := run nx (gcK h nx k) hr
    refine ⟨m, v, gcH ⟨h, nx⟩ σ' v, ?_, g2⟩
    unfold callF
    rw [hlf]
    simp only [hsp, hi, cond_false, g1]
theorem fn_k (n f : Nat) : KfOk lp ((fnK lp n f).run) f := (both_k n).1 f
theorem c_of_k {n f : Nat} {args : List HV} {h : Tr HBlk} {nx : Nat} {Q : HV → HS → Prop} {k : Kv} {r : HV × HS} (hr : (fnK lp n f).run 0 args h nx k = some r) (hk : ∀ v h nx, k v h nx = some r → Q v ⟨h, nx⟩) : C lp 0 f args ⟨h, nx⟩ Q := by
 obtain ⟨m, v, σ', h1, h2⟩ := fn_k n f 0 args h nx k r hr
 exact ⟨m, v, σ', h1, hk _ _ _ h2⟩
end Go.Hx

namespace Go.Hx
theorem mixed : (Go.Proofs.Try.prog).follows .mixedOrders = true := by kernel_rfl
noncomputable def endK0 : Kv := fun v _ _ => some (v, ⟨.e, 0⟩)
theorem Y1 {lp : Nat → Option zo} {n f : Nat} (hr : (fnK lp n f).run 0 [] .e 0 endK0 = some (.bool true, ⟨.e, 0⟩)) : C lp 0 f [] ⟨.e, 0⟩ (fun v _ => v = .bool true) :=
 c_of_k hr fun v h nx hk => by unfold endK0 at hk; cases hk; rfl
theorem closed20 : C LP 0 20 [] ⟨.e, 0⟩ (fun v _ => v = .bool true) := Y1 (n := 400) (by kernel_rfl)
end Go.Hx

namespace Go.Hx
open Go.RowKit
variable {P : Program}
end Go.Hx

namespace Go.Hx
open Go.RowKit Go.ChangeShapes Go.WideShapes Go.ChangeAt
theorem XE : ∀ args σ v σ', spWakes args σ = some (v, σ') → σ' = σ ∧ args.all flat = true ∧ flatV v = true ∧ C LP 0 20 args ⟨.e, 0⟩ (fun v' _ => v' = v) := by
 intro args σ v σ' h
 cases args with
 | nil => cases h; exact ⟨rfl, rfl, rfl, closed20⟩
 | cons a l => cases h
theorem lw_ok : LpOk Go.Proofs.Try.prog LW := withS_ok Yz (XD mixed Yz XE)
theorem wfk {k : IntKind} {n : Int} (h : (Lit.int k n).wf = true) : k.min ≤ n ∧ n ≤ k.max := by
 simp only [Lit.wf, Bool.and_eq_true, decide_eq_true_eq] at h
 exact h
def e2 (x : Int × Int) : List HV := [i64 x.1, i64 x.2]
def e3 (x : Int × Int × Int) : List HV := [i64 x.1, i64 x.2.1, i64 x.2.2]
theorem dec2 : ∀ us : Nat → Value, (∀ j k, [Leaf.i .i64, .i .i64][j]? = some k → LeafV k (us j)) → ∃ x : Int × Int, ∀ j u, (e2 x)[j]? = some u → ∀ ρ, VR ρ u (us j) := by
 intro us h
 obtain ⟨a, e0⟩ := uD (h 0 _ rfl)
 obtain ⟨b, e1⟩ := uD (h 1 _ rfl)
 refine ⟨(a, b), fun j u hj ρ => ?_⟩
 match j, hj with
 | 0, hj => cases hj; rw [e0]; exact .int _ _
 | 1, hj => cases hj; rw [e1]; exact .int _ _
 | j + 2, hj => simp [e2] at hj
theorem rel2 (F : V.PH) (x : Int × Int) : V.rP V.rI V.rI F x (e2 x) := ⟨[_], [_], rfl, rfl, rfl⟩
def e4 (x : Int × Int × Int × Int) : List HV := [i64 x.1, i64 x.2.1, i64 x.2.2.1, i64 x.2.2.2]
end Go.Hx

namespace Go.Hx
open Go.RowKit
variable {P : Program}
def SlotN (ρ : Rho) (w : World) (s : Slot) : Prop := ∃ (C : Array Value) (e : TypeId) (z : Nat × Nat), w.heap[s.ri.blk]? = some (.cells C e z) ∧ ∀ (i : Nat) (v : HV), s.cs[i]? = some v → ∃ u, C[s.ri.off + i]? = some u ∧ VR ρ v u
theorem SlotOk.n {w : World} {s : Slot} (h : SlotOk w s) (ρ : Rho) : SlotN ρ w s := by
 obtain ⟨C, e, z, h1, h2⟩ := h
 exact ⟨C, e, z, h1, fun i v hv => let ⟨u, a, b⟩ := h2 i v hv; ⟨u, a, b ρ⟩⟩
theorem calls_argsN {lp : Nat → Option zo} (hm : P.follows .mixedOrders = true) (hlp : LpOk P lp) {f : Nat} {args : List HV} {ss : List (Option Slot)} {W : World} (hs : ∀ s, some s ∈ ss → SlotN (rhoOf ss) W s)
  (h : C lp 0 f args ⟨lay ss, ss.length⟩ (Sc (· = .bool true) ⟨lay ss, ss.length⟩)) {Args : Array Value} (ha : LR (rhoOf ss) args Args.toList) :
  Calls P f Args W fun e W' => e = .returned (.bool true) ∧ Below W.heap.size W W' := by
 have hro : ∀ b x, (lay ss).get b = some x → x.own = false := fun b x hx => by
  rw [lay_get] at hx
  cases e : ss.getD b none with
  | none => rw [e] at hx; cases hx
  | some s => rw [e] at hx; cases hx; rfl
 have mem : ∀ b s, ss.getD b none = some s → some s ∈ ss ∧ b < ss.length := fun b s e => by
  rw [List.getD_eq_getElem?_getD] at e
  cases e2 : ss[b]? with
  | none => rw [e2] at e; cases e
  | some o =>
   rw [e2] at e
   have : o = some s := e
   subst this
   refine ⟨List.mem_of_getElem? e2, ?_⟩
   rcases Nat.lt_or_ge b ss.length with h | h
   ·exact h
   ·rw [List.getElem?_eq_none h] at e2; cases e2
 have hdom : Dom ⟨lay ss, ss.length⟩ := fun b x hx => by
  have hx' : (lay ss).get b = some x := hx
  rw [lay_get] at hx'
  cases e : ss.getD b none with
  | none => rw [e] at hx'; cases hx'
  | some s => exact (mem b s e).2
 have hsim : Sim P W.heap.size (lay ss).get (rhoOf ss) W := by
  refine ⟨fun b x hx => ?_, fun b b' x x' r r' hx _ ho => by rw [hro b x hx] at ho; cases ho⟩
  rw [lay_get] at hx
  cases e : ss.getD b none with
  | none => rw [e] at hx; cases hx
  | some s =>
   rw [e] at hx
   cases hx
   obtain ⟨C, el, z, hw, hc⟩ := hs s (mem b s e).1
   refine ⟨s.ri, C, el, z, by unfold rhoOf riOf; rw [e]; rfl, hw, fun i v hv => ?_, (Array.getElem?_eq_some_iff.1 hw).1⟩
   obtain ⟨u, h1, h2⟩ := hc i v hv
   exact ⟨u, h1, h2⟩
 obtain ⟨n, v, σ', h1, h2⟩ := h
 have hin : In P W.heap.size ⟨lay ss, ss.length⟩ σ' (rhoOf ss) W := ⟨Nat.le_refl _, hsim, fun b hb _ => by
  show riOf (ss.getD b none) = none
  rw [List.getD_eq_getElem?_getD, List.getElem?_eq_none hb]; rfl⟩
 have := YN hm hlp h1 hdom W.heap.size (rhoOf ss) Args W hin ha
 rw [fr_none] at this
 refine (callsIn_wide.1 this).mono ?_
 rintro e W' ⟨V, ρ', rfl, hv, hp⟩
 obtain ⟨rfl, _⟩ := h2
 cases hv
 exact ⟨rfl, j0 hp hro⟩
theorem kb {α : Type} {enc : α → List HV} {sz : Nat} : ∀ (l : List α), (∀ x ∈ l, (enc x).length = sz) → ∀ (i : Nat) (x : α), l[i]? = some x → takeN sz ((l.flatMap enc).drop (0 + i * sz)) = some (enc x)
 | [], _, i, x, h => by simp at h
 | y :: l, he, 0, x, h => by
  simp at h; subst h
  rw [Nat.zero_mul, List.flatMap_cons, ← he y (List.mem_cons_self ..)]
  exact v9 _ _
 | y :: l, he, i + 1, x, h => by
  have := kb l (fun x hx => he x (List.mem_cons_of_mem _ hx)) i x (by simpa using h)
  have hy := he y (List.mem_cons_self ..)
  rw [List.flatMap_cons, List.drop_append, show 0 + (i + 1) * sz - (enc y).length = 0 + i * sz by rw [hy, Nat.add_mul]; omega, List.drop_of_length_le (by rw [hy, Nat.add_mul]; omega), List.nil_append]
  exact this
theorem uY {α β : Type} {f : α → List β} {m : Nat} : ∀ (l : List α), (∀ x ∈ l, (f x).length = m) → ∀ (i j : Nat) (x : α), l[i]? = some x → j < m → (l.flatMap f)[i * m + j]? = (f x)[j]?
 | [], _, i, j, x, h, _ => by simp at h
 | y :: l, he, 0, j, x, h, hj => by
  simp at h; subst h
  rw [List.flatMap_cons, Nat.zero_mul, Nat.zero_add, List.getElem?_append_left (by rw [he y (List.mem_cons_self ..)]; exact hj)]
 | y :: l, he, i + 1, j, x, h, hj => by
  have hy := he y (List.mem_cons_self ..)
  rw [List.flatMap_cons, List.getElem?_append_right (by rw [hy, Nat.add_mul]; omega), hy, show (i + 1) * m + j - m = i * m + j by rw [Nat.add_mul]; omega]
  exact uY l (fun x hx => he x (List.mem_cons_of_mem _ hx)) i j x (by simpa using h) hj
theorem uX {α β : Type} {f : α → List β} {m : Nat} : ∀ (l : List α), (∀ x ∈ l, (f x).length = m) → (l.flatMap f).length = l.length * m
 | [], _ => by simp
 | y :: l, he => by
  rw [List.flatMap_cons, List.length_append, uX l (fun x hx => he x (List.mem_cons_of_mem _ hx)), he y (List.mem_cons_self ..), List.length_cons, Nat.add_mul]; omega
theorem flat_ix {α β : Type} {f : α → List β} {m : Nat} (hm : 0 < m) (l : List α) (he : ∀ x ∈ l, (f x).length = m) (p : Nat) (v : β) (h : (l.flatMap f)[p]? = some v) : ∃ i j x, p = i * m + j ∧ j < m ∧ l[i]? = some x ∧ (f x)[j]? = some v := by
 have hp : p < (l.flatMap f).length := (List.getElem?_eq_some_iff.1 h).1
 rw [uX l he] at hp
 have h1 : p / m < l.length := Nat.div_lt_of_lt_mul (by rw [Nat.mul_comm]; exact hp)
 have h2 : p % m < m := Nat.mod_lt _ hm
 have h3 : p = p / m * m + p % m := by rw [Nat.mul_comm]; exact (Nat.div_add_mod p m).symm
 refine ⟨p / m, p % m, l[p / m], h3, h2, List.getElem?_eq_getElem h1, ?_⟩
 rw [← uY l he (p / m) (p % m) _ (List.getElem?_eq_getElem h1) h2, ← h3]; exact h
section
variable {H : Type} {enc : TypeId × Value → H} {w : World} {base : Nat} {held : Bool}
theorem Yt {t e : TypeId} {fuel : Nat} {cs : List Value} {x : DataW H × List MemPlace} (ht : P.underlying t = some (.slice e)) (hc : 0 < P.cellsOf e) (h : DataW.trod enc P w base (fun _ => true) held fuel t cs = some x) :
  (∃ a, cs = [a] ∧ (a = .slice none 0 0 ∨ ∃ b, a = .slice (some b) 0 0)) ∨ ∃ (blk off len cap : Nat) (C : Array Value) (el : TypeId) (z : Nat × Nat), cs = [.slice (some ⟨blk, off, none⟩) len cap] ∧ len ≤ cap ∧ w.heap[blk]? = some (.cells C el z) ∧
   ∀ i, i < len → ∃ (us : List Value) (n : Nat) (y : DataW H × List MemPlace), us.length = P.cellsOf e ∧ (∀ j, j < us.length → C[off + (i * P.cellsOf e + j)]? = us[j]?) ∧ DataW.trod enc P w base (fun _ => true) held n e us = some y := by
 rcases Deep.open_slice ht h with ⟨rfl, _⟩ | ⟨a, len, cap, m, n, D, Pl, rfl, _, hlc, hm, hmm, _, hx⟩
 ·exact .inl ⟨_, rfl, .inl rfl⟩
 ·simp only [if_true] at hmm
  subst hmm
  by_cases h0 : m = 0
  ·subst h0
   have : len = 0 := by omega
   subst this
   exact .inl ⟨_, rfl, .inr ⟨a, rfl⟩⟩
  ·obtain ⟨blk, off, spot⟩ := a
   obtain ⟨cs', h1, h2⟩ := hx 0 (by omega)
   obtain ⟨_, hlen, hcell⟩ := World.cells?_some h1
   have hc0 := hcell 0 hc
   have e0 : ((Addr.mk blk off spot).add (0 * P.cellsOf e)).add 0 = Addr.mk blk off spot := by rw [Nat.zero_mul]; rfl
   rw [e0, List.getElem?_eq_getElem (by omega)] at hc0
   unfold World.cell? at hc0
   dsimp only at hc0
   split at hc0
   ·rename_i C el z hw
    cases hsp : spot with
    | some s => rw [hsp] at hc0; simp at hc0
    | none =>
     refine .inr ⟨blk, off, len, m, C, el, z, rfl, hlc, hw, fun i hi => ?_⟩
     subst hsp
     obtain ⟨us, g1, g2⟩ := hx i (by omega)
     obtain ⟨_, glen, gcell⟩ := World.cells?_some g1
     refine ⟨us, n, _, glen, fun j hj => ?_, g2⟩
     have hcj := gcell j (by omega)
     rw [Deep.add_add] at hcj
     have key : w.cell? (Addr.add ⟨blk, off, none⟩ (i * P.cellsOf e + j)) = C[off + (i * P.cellsOf e + j)]? := by
      unfold Addr.add World.cell?
      by_cases h0 : i * P.cellsOf e + j = 0
      ·rw [if_pos h0, h0]
       simp only [hw, Nat.add_zero]
       rfl
      ·rw [if_neg h0]
       simp only [hw]
       rfl
     rw [key] at hcj
     exact hcj
   ·cases hc0
structure ArgP {α : Type} (rel : V.Rel α) (sz : Nat) (w : World) (v : Value) (o : Option Slot) (mk : Nat → HV) (l : List α) : Prop where
 ok : ∀ s, o = some s → SlotOk w s
 vr : ∀ (k : Nat) (ρ : Rho), ρ k = riOf o → VR ρ (mk k) v
 row : ∀ k, ∃ p c, mk k = .slice p l.length c ∧ ∀ (h : Tr HBlk), h.get k = (o.map fun s => .cells s.cs .ro) → V.RowF rel sz (V.all h) p c l
theorem argP {α : Type} [Inhabited α] {rel : V.Rel α} {enc0 : α → List HV} {t e : TypeId} {d : Nat} {ks : List Leaf} {fuel : Nat} {cs : List Value} {x : DataW H × List MemPlace} (ht : P.underlying t = some (.slice e)) (hk : leaves P d e = some ks) (hl : ks.length = P.cellsOf e) (hpos : 0 < ks.length)
  (h : DataW.trod enc P w base (fun _ => true) held fuel t cs = some x) (he : ∀ x, (enc0 x).length = ks.length) (hrel : ∀ F x, rel F x (enc0 x))
  (hdec : ∀ us : Nat → Value, (∀ j k, ks[j]? = some k → LeafV k (us j)) → ∃ x : α, ∀ j u, (enc0 x)[j]? = some u → ∀ ρ, VR ρ u (us j)) :
  ∃ (v : Value) (o : Option Slot) (mk : Nat → HV) (l : List α), cs = [v] ∧ ArgP rel ks.length w v o mk l := by
 rcases Yt ht (by omega) h with ⟨a, rfl, ha⟩ | ⟨blk, off, len, cap, C, el, z, rfl, hlc, hw, hx⟩
 ·rcases ha with rfl | ⟨b, rfl⟩
  ·exact ⟨_, none, fun _ => .slice none 0 0, [], rfl, ⟨fun s e => (by cases e), fun k ρ _ => .slice0, fun k => ⟨none, 0, rfl, fun h _ => ⟨Nat.le_refl _, fun hne => absurd rfl hne⟩⟩⟩⟩
  ·exact ⟨_, none, fun k => .slice (some (k, 0)) 0 0, [], rfl, ⟨fun s e => (by cases e), fun k ρ _ => .slice00 b, fun k => ⟨some (k, 0), 0, rfl, fun h _ => ⟨Nat.le_refl _, fun hne => absurd rfl hne⟩⟩⟩⟩
 ·have each : ∀ i, i < len → ∃ x : α, ∀ j u, (enc0 x)[j]? = some u → ∃ c, C[off + (i * ks.length + j)]? = some c ∧ ∀ ρ, VR ρ u c := by
   intro i hi
   obtain ⟨us, n, y, g1, g2, g3⟩ := hx i hi
   have hf2 := vm d e ks n us _ hk hl g3
   obtain ⟨x, hx1⟩ := hdec (fun j => (us[j]?).getD .nilFunc) (fun j k hj => by
    have hjl : j < ks.length := (List.getElem?_eq_some_iff.1 hj).1
    have hju : us[j]? = some us[j] := List.getElem?_eq_getElem (by rw [← hf2.1]; exact hjl)
    rw [hju]
    exact hf2.2 j k _ hj hju)
   refine ⟨x, fun j u hj => ?_⟩
   have hjl : j < ks.length := by rw [← he x]; exact (List.getElem?_eq_some_iff.1 hj).1
   have hju : us[j]? = some us[j] := List.getElem?_eq_getElem (by rw [← hf2.1]; exact hjl)
   refine ⟨us[j], by rw [hl, g2 j (by rw [← hf2.1]; exact hjl)]; exact hju, fun ρ => ?_⟩
   have := hx1 j u hj ρ
   rwa [hju] at this
  obtain ⟨f, hf⟩ := Deep.choose_lt each
  refine ⟨_, some ⟨((List.range len).map f).flatMap enc0, ⟨blk, off, 0⟩⟩, fun k => .slice (some (k, 0)) len cap, (List.range len).map f, rfl, ⟨fun s e => ?_, fun k ρ hr => ?_, fun k => ⟨some (k, 0), cap, by simp, fun h hg => ⟨by simpa using hlc, fun _ => ⟨k, 0, _, .ro, rfl, hg, fun i x hx => ⟨_, Xj he _ i x hx, hrel _ x⟩⟩⟩⟩⟩⟩
  ·cases e
   refine ⟨C, el, z, hw, fun i u hu => ?_⟩
   obtain ⟨i', j, x, rfl, h2, h3⟩ := YD he _ i u hu
   have hi' : i' < len := by
    rcases Nat.lt_or_ge i' len with h | h
    ·exact h
    ·rw [List.getElem?_eq_none (by simp; omega)] at h2; cases h2
   rw [List.getElem?_map, List.getElem?_range hi'] at h2
   cases h2
   exact hf i' hi' j u h3
  ·exact VR.slice (r := ⟨blk, off, 0⟩) (o := 0) hr
structure ElOk {α : Type} (rel : V.Rel α) (sz m : Nat) (w : World) (us : List Value) (x : α) (cells : Nat → List HV) (inner : List (Option Slot)) : Prop where
 len : inner.length = m
 sz : ∀ k, (cells k).length = sz
 ok : ∀ s, some s ∈ inner → SlotOk w s
 vr : ∀ k (ρ : Rho), (∀ i, i < m → ρ (k + i) = riOf (inner.getD i none)) → ∀ (j : Nat) (u : HV), (cells k)[j]? = some u → ∃ c : Value, us[j]? = some c ∧ VR ρ u c
 rel : ∀ k (h : Tr HBlk), (∀ i, i < m → h.get (k + i) = ((inner.getD i none).map fun s => .cells s.cs .ro)) → rel (V.all h) x (cells k)
def Has (ss : List (Option Slot)) (k : Nat) (part : List (Option Slot)) : Prop := ∀ i, i < part.length → ss.getD (k + i) none = part.getD i none
theorem Has.mid (a b c : List (Option Slot)) : Has (a ++ (b ++ c)) a.length b := fun i hi => by
 rw [List.getD_eq_getElem?_getD, List.getD_eq_getElem?_getD, List.getElem?_append_right (by omega), show a.length + i - a.length = i by omega, List.getElem?_append_left hi]
structure ArgN {α : Type} (rel : V.Rel α) (sz : Nat) (w : World) (v : Value) (mk : Nat → HV) (part : Nat → List (Option Slot)) (l : List α) : Prop where
 ok : ∀ ss k, Has ss k (part k) → ∀ s, some s ∈ part k → SlotN (rhoOf ss) w s
 vr : ∀ ss k, Has ss k (part k) → VR (rhoOf ss) (mk k) v
 row : ∀ k, ∃ p c, mk k = .slice p l.length c ∧ ∀ ss, Has ss k (part k) → V.RowF rel sz (V.all (lay ss)) p c l
theorem argN {α : Type} [Inhabited α] {rel : V.Rel α} {sz m : Nat} {t e : TypeId} {fuel : Nat} {cs : List Value} {x : DataW H × List MemPlace} (ht : P.underlying t = some (.slice e)) (hc : sz = P.cellsOf e) (hpos : 0 < sz) (hm : 0 < m)
  (h : DataW.trod enc P w base (fun _ => true) held fuel t cs = some x)
  (hdec : ∀ (us : List Value) (n : Nat) (y : DataW H × List MemPlace), us.length = sz → DataW.trod enc P w base (fun _ => true) held n e us = some y → ∃ (x : α) (cells : Nat → List HV) (inner : List (Option Slot)), ElOk rel sz m w us x cells inner) :
  ∃ (v : Value) (mk : Nat → HV) (part : Nat → List (Option Slot)) (l : List α), cs = [v] ∧ ArgN rel sz w v mk part l := by
 rcases Yt ht (by omega) h with ⟨a, rfl, ha⟩ | ⟨blk, off, len, cap, C, el, z, rfl, hlc, hw, hx⟩
 ·rcases ha with rfl | ⟨b, rfl⟩
  ·exact ⟨_, fun _ => .slice none 0 0, fun _ => [], [], rfl, ⟨fun ss k _ s hs => by simp at hs, fun ss k _ => .slice0, fun k => ⟨none, 0, rfl, fun ss _ => ⟨Nat.le_refl _, fun hne => absurd rfl hne⟩⟩⟩⟩
  ·exact ⟨_, fun k => .slice (some (k, 0)) 0 0, fun _ => [], [], rfl, ⟨fun ss k _ s hs => by simp at hs, fun ss k _ => .slice00 b, fun k => ⟨some (k, 0), 0, rfl, fun ss _ => ⟨Nat.le_refl _, fun hne => absurd rfl hne⟩⟩⟩⟩
 ·have each : ∀ i, i < len → ∃ y : α × (Nat → List HV) × List (Option Slot), ∃ us : List Value, (∀ j, j < us.length → C[off + (i * sz + j)]? = us[j]?) ∧ us.length = sz ∧ ElOk rel sz m w us y.1 y.2.1 y.2.2 := by
   intro i hi
   obtain ⟨us, n, y, g1, g2, g3⟩ := hx i hi
   obtain ⟨x, ce, inn, hel⟩ := hdec us n y (by omega) g3
   exact ⟨(x, ce, inn), us, by rw [hc]; exact g2, by omega, hel⟩
  obtain ⟨f, hf⟩ := Deep.choose_lt each
  have hlen : ∀ i ∈ List.range len, (f i).2.2.length = m := fun i hi => (hf i (by simpa using hi)).elim fun us h => h.2.2.len
  have hsz : ∀ k, ∀ i ∈ List.range len, ((f i).2.1 (k + 1 + i * m)).length = sz := fun k i hi => (hf i (by simpa using hi)).elim fun us h => h.2.2.sz _
  have hrg : ∀ i, i < len → (List.range len)[i]? = some i := fun i hi => List.getElem?_range hi
  let outer : Nat → Slot := fun k => ⟨(List.range len).flatMap fun i => (f i).2.1 (k + 1 + i * m), ⟨blk, off, 0⟩⟩
  let part : Nat → List (Option Slot) := fun k => some (outer k) :: (List.range len).flatMap fun i => (f i).2.2
  have plen : ∀ k, (part k).length = 1 + len * m := fun k => by
   show (_ :: _).length = _
   rw [List.length_cons, uX _ hlen, List.length_range]; omega
  have at0 : ∀ k ss, Has ss k (part k) → ss.getD k none = some (outer k) := fun k ss h => by
   have := h 0 (by rw [plen]; omega)
   rw [Nat.add_zero] at this
   exact this
  have atI : ∀ k ss, Has ss k (part k) → ∀ i j, i < len → j < m → ss.getD (k + 1 + i * m + j) none = (f i).2.2.getD j none := fun k ss h i j hi hj => by
   have hb : i * m + j < len * m := by
    have : (i + 1) * m ≤ len * m := Nat.mul_le_mul_right _ hi
    rw [Nat.add_mul] at this; omega
   have := h (1 + (i * m + j)) (by rw [plen]; omega)
   rw [show k + (1 + (i * m + j)) = k + 1 + i * m + j by omega] at this
   rw [this, List.getD_eq_getElem?_getD, List.getD_eq_getElem?_getD, Nat.add_comm 1]
   show (((List.range len).flatMap fun i => (f i).2.2)[i * m + j]?).getD none = _
   rw [uY (f := fun i => (f i).2.2) _ hlen i j i (hrg i hi) hj]
  refine ⟨_, fun k => .slice (some (k, 0)) len cap, part, (List.range len).map fun i => (f i).1, rfl, ⟨fun ss k hh s hs => ?_, fun ss k hh => ?_, fun k => ⟨some (k, 0), cap, by simp, fun ss hh => ⟨by simpa using hlc, fun _ => ⟨k, 0, (outer k).cs, .ro, rfl, ?_, fun i x hx => ?_⟩⟩⟩⟩⟩
  ·rcases List.mem_cons.1 hs with e | hs
   ·cases e
    refine ⟨C, el, z, hw, fun i u hu => ?_⟩
    obtain ⟨i', j, x, rfl, hj, h2, h3⟩ := flat_ix hpos _ (hsz k) i u hu
    have hi' : i' < len := by have := (List.getElem?_eq_some_iff.1 h2).1; simpa using this
    rw [hrg i' hi'] at h2
    cases h2
    obtain ⟨us, g1, g2, hel⟩ := hf i' hi'
    obtain ⟨c, h4, h5⟩ := hel.vr (k + 1 + i' * m) (rhoOf ss) (fun q hq => by unfold rhoOf; rw [atI k ss hh i' q hi' hq]) j u h3
    exact ⟨c, by rw [g1 j (by omega)]; exact h4, h5⟩
   ·obtain ⟨i, hi, hs⟩ := List.mem_flatMap.1 hs
    obtain ⟨us, g1, g2, hel⟩ := hf i (by simpa using hi)
    exact (hel.ok s hs).n _
  ·refine VR.slice (r := ⟨blk, off, 0⟩) (o := 0) ?_
   unfold rhoOf
   rw [at0 k ss hh]; rfl
  ·unfold V.all
   rw [lay_get, at0 k ss hh]; rfl
  ·have hi : i < len := by have := (List.getElem?_eq_some_iff.1 hx).1; simpa using this
   rw [List.getElem?_map, hrg i hi] at hx
   cases hx
   obtain ⟨us, g1, g2, hel⟩ := hf i hi
   refine ⟨_, kb (enc := fun i => (f i).2.1 (k + 1 + i * m)) _ (hsz k) i i (hrg i hi), hel.rel _ _ fun q hq => ?_⟩
   rw [lay_get, atI k ss hh i q hi hq]
end
end Go.Hx

namespace Go.Hx
open Go.RowKit Go.ChangeShapes Go.WideShapes Go.ChangeAt
open Go.Proofs
set_option maxRecDepth 100000
theorem leaves51 : leaves Try.prog 20 51 = some [.i .i64, .i .i64] := by kernel_rfl
theorem leaves108 : leaves Try.prog 20 108 = some [.i .i64, .i .i64] := by kernel_rfl
theorem cells51 : 2 = Try.prog.cellsOf 51 := by kernel_rfl
theorem cells108 : 2 = Try.prog.cellsOf 108 := by kernel_rfl
theorem cells3 : 1 = Try.prog.cellsOf 3 := by kernel_rfl
theorem cells22 : 1 = Try.prog.cellsOf 22 := by kernel_rfl
theorem cells23 : 1 = Try.prog.cellsOf 23 := by kernel_rfl
theorem cells101 : 1 = Try.prog.cellsOf 101 := by kernel_rfl
theorem cells103 : 3 = Try.prog.cellsOf 103 := by kernel_rfl
theorem cells25 : Try.prog.cellsOf 25 = 3 := by kernel_rfl
abbrev relB : V.Rel (Int × Int × List (Int × Int)) := V.rP V.rI (V.rP V.rI (V.rL (V.rP V.rI V.rI) 2))
section
variable {P : Program} {H : Type} {enc : TypeId × Value → H} {w : World} {base : Nat} {held : Bool}
theorem vV {spare : Nat → Bool} {t : TypeId} {fs : Array Field} {fuel : Nat} {cs : List Value} {x : DataW H × List MemPlace} (ht : P.underlying t = some (.struct fs)) (h : DataW.trod enc P w base spare held fuel t cs = some x) {j : Nat} {f : Field} (hj : fs[j]? = some f) :
  ∃ n y, DataW.trod enc P w base spare held n f.type ((cs.drop f.offset).take (P.cellsOf f.type)) = some y := by
 obtain ⟨xs, n, _, _, hlen, hxl, hx⟩ := DataW.trod_struct ht h
 have h3 := hx j f hj
 have hjl : j < xs.length := by
  have : j < fs.size := (Array.getElem?_eq_some_iff.1 hj).1
  omega
 rw [List.getElem?_eq_getElem hjl] at h3
 exact ⟨n, _, h3⟩
end
section
variable {H : Type} {enc : TypeId × Value → H} {w : World} {base : Nat} {held : Bool} {v : Value} {dd : DataW H} {p : List MemPlace} {b0 : Nat}
theorem two_ints {us : List Value} (h : F2 [.i .i64, .i .i64] us) : ∃ a b : Int, us = [.int .i64 a, .int .i64 b] := by
 obtain ⟨u0, C, rfl, h0, h⟩ := YE h
 obtain ⟨u1, C, rfl, h1, h⟩ := YE h
 obtain rfl := f2_nil h
 obtain ⟨a, rfl⟩ := uD h0
 obtain ⟨b, rfl⟩ := uD h1
 exact ⟨a, b, rfl⟩
theorem el_bath (us : List Value) (n : Nat) (y : DataW H × List MemPlace) (hl : us.length = 3) (h : DataW.trod enc Try.prog w base (fun _ => true) held n 103 us = some y) :
  ∃ (x : Int × Int × List (Int × Int)) (cells : Nat → List HV) (inner : List (Option Slot)), ElOk relB 3 1 w us x cells inner := by
 obtain ⟨n1, y1, h1⟩ := vV Try.underlying103 h (j := 0) rfl
 obtain ⟨n2, y2, h2⟩ := vV Try.underlying103 h (j := 1) rfl
 obtain ⟨u0, u1, u2, rfl⟩ : ∃ u0 u1 u2, us = [u0, u1, u2] := by
  match us, hl with
  | [a, b, c], _ => exact ⟨a, b, c, rfl⟩
 have h1 : DataW.trod enc Try.prog w base (fun _ => true) held n1 51 (([u0, u1, u2].drop 0).take (Try.prog.cellsOf 51)) = some y1 := h1
 have h2 : DataW.trod enc Try.prog w base (fun _ => true) held n2 101 (([u0, u1, u2].drop 2).take (Try.prog.cellsOf 101)) = some y2 := h2
 rw [← cells51] at h1
 rw [← cells101] at h2
 obtain ⟨a, b, e⟩ := two_ints (vm 20 51 _ n1 _ _ leaves51 cells51 h1)
 obtain ⟨v, o, mk, l, e2, ha⟩ := argP (rel := V.rP V.rI V.rI) (enc0 := e2) Try.underlying101 leaves108 cells108 (by decide) h2 (fun _ => rfl) rel2 dec2
 have e : [u0, u1] = [.int .i64 a, .int .i64 b] := e
 have e2 : [u2] = [v] := e2
 cases e
 cases e2
 refine ⟨(a, b, l), fun k => [i64 a, i64 b, mk k], [o], rfl, fun k => rfl, fun s hs => ?_, fun k ρ hr j u hu => ?_, fun k h hg => ?_⟩
 ·rcases List.mem_cons.1 hs with e | hs
  ·exact ha.ok s e.symm
  ·cases hs
 ·match j, hu with
  | 0, hu => cases hu; exact ⟨_, rfl, .int _ _⟩
  | 1, hu => cases hu; exact ⟨_, rfl, .int _ _⟩
  | 2, hu => cases hu; exact ⟨_, rfl, ha.vr k ρ (hr 0 (by decide))⟩
  | j + 3, hu => simp at hu
 ·obtain ⟨p, c, e, hrow⟩ := ha.row k
  exact ⟨[_], [_, _], rfl, rfl, ⟨[_], [_], rfl, rfl, ⟨p, c, by rw [e], hrow h (hg 0 (by decide))⟩⟩⟩
def SerA (W : World) (v : Value) : Prop := ∃ (e : Int) (vo vb : Value), v = .agg #[vo, .int .i64 e, vb] ∧ (∃ oo mo lo, ArgP (V.rP V.rI V.rI) 2 W vo oo mo lo) ∧ ∃ mk part l, ArgN relB 3 W vb mk part l
theorem arg_series (hv : Value.okWide Try.prog w .any b0 25 v) (h : DataW.Trod enc Try.prog w base (fun _ => true) held 25 v dd p) : SerA w v := by
 obtain ⟨C, rfl, hs⟩ := okWide_struct Try.underlying25 hv
 obtain ⟨fuel, hf⟩ := h
 obtain ⟨n0, y0, h0⟩ := vV Try.underlying25 hf (j := 0) rfl
 obtain ⟨n1, y1, h1⟩ := vV Try.underlying25 hf (j := 1) rfl
 obtain ⟨n2, y2, h2⟩ := vV Try.underlying25 hf (j := 2) rfl
 have hs := hs.trans cells25
 obtain ⟨u0, u1, u2, rfl⟩ : ∃ u0 u1 u2, C = #[u0, u1, u2] := by
  obtain ⟨l⟩ := C
  match l, hs with
  | [a, b, c], _ => exact ⟨a, b, c, rfl⟩
 have h0 : DataW.trod enc Try.prog w base (fun _ => true) held n0 22 (([u0, u1, u2].drop 0).take (Try.prog.cellsOf 22)) = some y0 := h0
 have h1 : DataW.trod enc Try.prog w base (fun _ => true) held n1 3 (([u0, u1, u2].drop 1).take (Try.prog.cellsOf 3)) = some y1 := h1
 have h2 : DataW.trod enc Try.prog w base (fun _ => true) held n2 23 (([u0, u1, u2].drop 2).take (Try.prog.cellsOf 23)) = some y2 := h2
 rw [← cells22] at h0
 rw [← cells3] at h1
 rw [← cells23] at h2
 obtain ⟨vo, oo, mo, lo, e0, ha⟩ := argP (rel := V.rP V.rI V.rI) (enc0 := e2) Try.underlying22 leaves51 cells51 (by decide) h0 (fun _ => rfl) rel2 dec2
 obtain ⟨e, e1, _⟩ := DataW.trod_int Try.underlying3 h1
 obtain ⟨vb, mk, part, l, e2, hb⟩ := argN (rel := relB) (sz := 3) (m := 1) Try.underlying23 cells103 (by decide) (by decide) h2 el_bath
 have e0 : [u0] = [vo] := e0
 have e1 : [u1] = [.int .i64 e] := e1
 have e2 : [u2] = [vb] := e2
 cases e0; cases e1; cases e2
 exact ⟨e, _, _, rfl, ⟨oo, mo, lo, ha⟩, mk, part, l, hb⟩
end
end Go.Hx

