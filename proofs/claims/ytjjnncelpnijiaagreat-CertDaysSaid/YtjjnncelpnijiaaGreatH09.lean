import Derived.Test.YtjjnncelpnijiaaGreatH08
import Derived.Test.YtjjnncelpnijiaaGreatH00
import Derived.Test.YtjjnncelpnijiaaGreatH02
import Derived.Test.YtjjnncelpnijiaaGreatH01
import Derived.Test.YtjjnncelpnijiaaGreatH04
import Derived.Test.YtjjnncelpnijiaaGreatH05
import Derived.OpenShut
import Derived.ChangeSlices
import Derived.Test.YtjjnncelpnijiaaGreatRows
set_option linter.all false
namespace Go.Hx.V
open Go.Hx
theorem XG {x b k : Int} (hb : 0 < b) (h1 : k * b ≤ x) (h2 : x < (k + 1) * b) : x / b = k := by
 have a1 := Int.le_ediv_of_mul_le hb h1
 have a2 := Int.ediv_lt_of_lt_mul hb h2
 omega
theorem div_lo {a b : Int} (hb : 0 < b) : a / b * b ≤ a := Int.ediv_mul_le a (by omega)
theorem div_hi {a b : Int} (hb : 0 < b) : a < (a / b + 1) * b := Int.lt_ediv_add_one_mul_self a hb
theorem YR {a b m : Int} (ha : 0 ≤ a) (hb : 0 < b) (h : a ≤ m) : 0 ≤ a / b ∧ a / b ≤ m := ⟨Int.ediv_nonneg ha (by omega), by have := Int.ediv_le_self b ha; omega⟩
theorem q107 {N : Nat} {a b : Int} (ha : 0 ≤ a) (hb : 0 < b) (h : a ≤ 100000000) : sf107 N a b = some (a / b) := by
 have := YR ha hb h
 unfold sf107
 rw [zp (by rw [td ha]; unfold rng; omega), td ha]
theorem q172 {N : Nat} {a b : Int} (ha : 0 ≤ a) (hb : 0 < b) (h : a ≤ 100000000) (h2 : b ≤ 100000) : sf172 N a b = some ((a + b - 1) / b) := by
 have := YR (a := a + b - 1) (m := 100100000) (by omega) hb (by omega)
 unfold sf172
 rw [zp (by unfold rng; omega), zp (by unfold rng; omega), zp (by rw [td (by omega)]; unfold rng; omega), td (by omega)]
theorem q142 {N : Nat} {a b c d : Int} (ha : 0 ≤ a) (hb : 0 < b) (h : a ≤ 100000000) (hc : 0 ≤ c) (hd : 0 < d) (h3 : c ≤ 100000000) (h4 : d ≤ 100000) : sf142 N a b c d = some (a / b, (c + d - 1) / d) := by
 unfold sf142
 rw [show sf161 N = some () from rfl, zn, q107 ha hb h, zn, q172 hc hd h3 h4, zn]
theorem q71 {N : Nat} {a b : Int} (ha : 0 ≤ a) (hb : 0 < b) (h : a ≤ 100000000) (h2 : b ≤ 100000) (hN : 1000 ≤ N) : sf71 N a b = some (a / b) := by
 have := YR ha hb h
 have l := div_lo (a := a) hb
 have p : 0 ≤ a / b * b := Int.mul_nonneg this.1 (by omega)
 obtain ⟨M, rfl⟩ : ∃ M, N = M + 1 := ⟨N - 1, by omega⟩
 unfold sf71
 rw [td ha, zp (by unfold rng; omega), j0 (y := a / b) (by unfold sf71_L1; rw [zp (by unfold rng; omega), decide_eq_false (by omega), cond_false]), zn]
theorem q72 {N : Nat} {a b : Int} (ha : 0 ≤ a) (hb : 0 < b) (h : a ≤ 100000000) (h2 : b ≤ 100000) (hN : 1000 ≤ N) : sf72 N a b = some ((a + b - 1) / b) := by
 have := YR ha hb h
 have l := div_lo (a := a) hb
 have g := div_hi (a := a) hb
 have p : 0 ≤ a / b * b := Int.mul_nonneg this.1 (by omega)
 rw [Int.add_mul, Int.one_mul] at g
 obtain ⟨M, rfl⟩ : ∃ M, N = M + 1 + 1 := ⟨N - 2, by omega⟩
 unfold sf72
 rw [td ha, zp (by unfold rng; omega)]
 by_cases c : a / b * b < a
 ·have e : (a + b - 1) / b = a / b + 1 := XG hb (by rw [Int.add_mul, Int.one_mul]; omega) (by rw [Int.add_mul, Int.add_mul, Int.one_mul]; omega)
  rw [Yg (x' := a / b + 1) (by unfold sf72_L1; rw [zp (by unfold rng; omega), decide_eq_true c, cond_true, zp (by unfold rng; omega)]), j0 (y := a / b + 1) (by unfold sf72_L1; rw [Int.add_mul, Int.one_mul, zp (by unfold rng; omega), decide_eq_false (by omega), cond_false]), zn, e]
 ·have e : (a + b - 1) / b = a / b := XG hb (by omega) (by rw [Int.add_mul, Int.one_mul]; omega)
  rw [j0 (y := a / b) (by unfold sf72_L1; rw [zp (by unfold rng; omega), decide_eq_false c, cond_false]), zn, e]
theorem q66 {N : Nat} {l : List (Int × Int)} (h : l.length ≤ 100) (hN : 1000 ≤ N) : sf66 N l = some l := by
 unfold sf66
 have e : iter (sf66_L1 l) N (([] : List (Int × Int)), (0 : Int)) = some l := by
  refine yA (fun j => (l.take j, (j : Int))) l.length l rfl (fun j hj => ?_) ?_ (by omega)
  ·obtain ⟨z, hz⟩ : ∃ z, l[j]? = some z := ⟨_, yd hj⟩
   unfold sf66_L1
   dsimp only
   rw [decide_eq_true (by omega), cond_true, yb rfl hz, yb rfl hz, zp (by rw [List.length_take]; omega), zp (by unfold rng; omega), vJ hz]
   rfl
  ·unfold sf66_L1
   dsimp only
   rw [decide_eq_false (by omega), cond_false, List.take_length]
 rw [e, zn]
section
variable {N : Nat} {n t lo hi : Int} {L : List (Int × Int × Int × Int)} {Tb : List (Int × Int)} {p q d1 d2 : Int}
theorem q21 (hL : L.length ≤ 100) (hT : Tb.length ≤ 100) (hN : 1000 ≤ N) : sf21 N n t lo hi L Tb p q d1 d2 = some (n, t, lo, hi, L, Tb, p, q, d1, d2) := by
 unfold sf21
 rw [s21, zn, s23 hL hN, zn, q66 hT hN, zn, show sf29 N d1 d2 = some (d1, d2) from rfl, zn]
def PrOk (Tb : List (Int × Int)) (p q : Int) : Prop := ∃ a b, Tb[0]? = some a ∧ Tb[Tb.length - 1]? = some b ∧ a.1 ≤ p ∧ p ≤ q ∧ q ≤ b.1
def InOk (n t lo hi : Int) (L : List (Int × Int × Int × Int)) (Tb : List (Int × Int)) (p q d1 d2 : Int) : Prop := (TubeOk n t lo hi ∧ AllP (RdOk' n) L) ∧ TbOk Tb ∧ PrOk Tb p q ∧ 0 ≤ d1 ∧ d1 ≤ d2 ∧ d2 ≤ 100
def Lim (L : List (Int × Int × Int × Int)) (Tb : List (Int × Int)) : Prop := L.length ≤ 12 ∧ Tb.length ≤ 8
theorem q84 (hL : L.length ≤ 12) (hN : 1000 ≤ N) : ∃ e, sf84 N n t lo hi L = some e ∧ (e = 0 ↔ TubeOk n t lo hi ∧ AllP (RdOk' n) L) := by
 rw [s70 (by omega) hN]
 by_cases a1 : TubeOk n t lo hi
 ·rw [if_pos a1, if_pos hL]
  by_cases a3 : AllP (RdOk' n) L
  ·rw [if_pos a3]; exact ⟨0, rfl, fun _ => ⟨a1, a3⟩, fun _ => rfl⟩
  ·rw [if_neg a3]; exact ⟨2, rfl, fun q => by omega, fun q => (a3 q.2).elim⟩
 ·rw [if_neg a1]; exact ⟨1, rfl, fun q => by omega, fun q => (a1 q.1).elim⟩
theorem q40_lim (h : ¬ Lim L Tb) : sf40 N n t lo hi L Tb p q d1 d2 = some 3 := by
 unfold Lim at h
 unfold sf40
 by_cases c : 12 < L.length
 ·rw [decide_eq_true (by omega)]; rfl
 ·rw [decide_eq_false (by omega), cond_false, decide_eq_true (by omega)]; rfl
theorem q40 (h : Lim L Tb) (hN : 1000 ≤ N) : (InOk n t lo hi L Tb p q d1 d2 ∧ sf40 N n t lo hi L Tb p q d1 d2 = some 0) ∨ (¬ InOk n t lo hi L Tb p q d1 d2 ∧ sf40 N n t lo hi L Tb p q d1 d2 = some 1) := by
 obtain ⟨h1, h2⟩ := h
 obtain ⟨e, e84, he⟩ := q84 (N := N) (n := n) (t := t) (lo := lo) (hi := hi) h1 hN
 unfold sf40
 rw [decide_eq_false (by omega), cond_false, decide_eq_false (by omega), zn, cond_false, zn, sR, e84, zn]
 by_cases c1 : e = 0
 ·have ok1 := he.1 c1
  rw [decide_eq_true c1, Bool.not_true, cond_false]
  rcases q85 (N := N) (l := Tb) (by omega) hN with ⟨ok2, e85⟩ | ⟨no, e85⟩
  ·have hl := ok2.1
   obtain ⟨a, ha⟩ : ∃ a, Tb[0]? = some a := ⟨_, yd (by omega)⟩
   obtain ⟨b, hb⟩ : ∃ b, Tb[Tb.length - 1]? = some b := ⟨_, yd (by omega)⟩
   rw [e85, zn, Bool.not_true, cond_false, ix_0 ha, zp (by unfold rng; omega), yb (n := Tb.length - 1) (by omega) hb, q86, zn]
   by_cases c3 : a.1 ≤ p ∧ p ≤ q ∧ q ≤ b.1
   ·rw [decide_eq_true c3, Bool.not_true, cond_false, q25, zn]
    by_cases c4 : 0 ≤ d1 ∧ d1 ≤ d2
    ·rw [decide_eq_true c4, Bool.not_true, cond_false]
     by_cases c5 : d2 ≤ 100
     ·rw [decide_eq_false (by omega)]
      exact .inl ⟨⟨ok1, ok2, ⟨a, b, ha, hb, c3⟩, c4.1, c4.2, c5⟩, rfl⟩
     ·rw [decide_eq_true (by omega)]
      exact .inr ⟨fun q => c5 q.2.2.2.2.2, rfl⟩
    ·rw [decide_eq_false c4]
     exact .inr ⟨fun q => c4 ⟨q.2.2.2.1, q.2.2.2.2.1⟩, rfl⟩
   ·rw [decide_eq_false c3]
    refine .inr ⟨fun q => c3 ?_, rfl⟩
    obtain ⟨a', b', g1, g2, g3⟩ := q.2.2.1
    rw [ha] at g1; rw [hb] at g2; cases g1; cases g2
    exact g3
  ·rw [e85]
   exact .inr ⟨fun q => no q.2.1, rfl⟩
 ·rw [decide_eq_false c1]
  exact .inr ⟨fun q => c1 (he.2 q.1), rfl⟩
theorem q101 (h2 : Tb.length ≤ 8) (hN : 1000 ≤ N) (hT : TbOk Tb) (hP : PrOk Tb p q) : ∃ s1 s2, sf101 N Tb p q = some (s1, s2, 0) ∧ sf73 N Tb p = some s1 ∧ sf73 N Tb q = some s2 ∧ 1 ≤ s1 ∧ s1 ≤ s2 ∧ s2 ≤ 2000 := by
 obtain ⟨a, b, ha, hb, c1, c2, c3⟩ := hP
 obtain ⟨k, x, y, hA⟩ := at_ex (p := p) hT ha hb c1 (by omega)
 obtain ⟨k', x', y', hA'⟩ := at_ex (p := q) hT ha hb (by omega) c3
 have sg : ∀ {p : Int} {k x y}, At Tb p k x y → x.2 ≤ seg x y p ∧ seg x y p ≤ y.2 ∧ 1 ≤ seg x y p ∧ seg x y p ≤ 2000 := fun {p k x y} h => by
  have px := hT.2.1 x (List.mem_of_getElem? h.1)
  have py := hT.2.1 y (List.mem_of_getElem? h.2.1)
  have o := hT.2.2 k x y h.1 h.2.1
  have := Xj px py o.1 o.2 h.2.2.1 h.2.2.2.1
  unfold Pr at px py
  unfold seg; omega
 have g1 := sg hA
 have g2 := sg hA'
 refine ⟨seg x y p, seg x' y' q, ?_, q73 hT (by omega) hA hN, q73 hT (by omega) hA' hN, g1.2.2.1, ?_, g2.2.2.2⟩
 ·unfold sf101
  rcases q138 (N := N) h2 hN with ⟨ok, e⟩ | ⟨no, e⟩
  ·rw [e, zn, decide_eq_true rfl, Bool.not_true, cond_false, q140 (by omega) ha hb, zn, q139, zn]
   dsimp only
   rw [decide_eq_true ⟨c1, c2, c3⟩, Bool.not_true, cond_false, q141 hT (by omega) hA hN, zn, q141 hT (by omega) hA' hN, zn]
  ·exact absurd hT no
 ·rcases Nat.lt_trichotomy k k' with h | h | h
  ·have m : y.2 ≤ x'.2 := by
    rcases Nat.lt_or_ge (k + 1) k' with w | w
    ·have := tb_lt hT hA.2.1 (k' - (k + 1) - 1) x' (by rw [show k + 1 + (k' - (k + 1) - 1) + 1 = k' by omega]; exact hA'.1)
     omega
    ·have : k' = k + 1 := by omega
     subst this
     have := hA'.1
     rw [hA.2.1] at this
     cases this
     omega
   omega
  ·subst h
   have e1 := hA'.1
   have e2 := hA'.2.1
   rw [hA.1] at e1; rw [hA.2.1] at e2
   cases e1; cases e2
   have px := hT.2.1 x (List.mem_of_getElem? hA.1)
   have py := hT.2.1 y (List.mem_of_getElem? hA.2.1)
   have o := hT.2.2 k x y hA.1 hA.2.1
   have b1 := Xj px py o.1 o.2 hA.2.2.1 hA.2.2.2.1
   have b2 := Xj px py o.1 o.2 hA'.2.2.1 hA'.2.2.2.1
   unfold seg
   rw [td b1.1, td b2.1]
   have : (y.2 - x.2) * (p - x.1) ≤ (y.2 - x.2) * (q - x.1) := Int.mul_le_mul_of_nonneg_left (by omega) (by omega)
   have := Int.ediv_le_ediv (c := y.1 - x.1) (by omega) this
   omega
  ·have hz : ∃ z, Tb[k' + 1]? = some z := ⟨_, hA'.2.1⟩
   have := hA.2.2.2.2 k' y' h hA'.2.1
   have := hA'.2.2.2.1
   omega
end
end Go.Hx.V

namespace Go.Hx.V
open Go.Hx
theorem Ys {n : Nat} {t lo hi : Int} {L : List (Int × Int × Int × Int)} {F : Nat → Int} (ht : TubeOk n t lo hi) (gF : Gd n F) (SF : ∀ p, SatF n F p ↔ TruS n t lo hi L p) {k : Nat} (hk : k ≤ n) : 0 ≤ -F (k * 13 + 0) ∧ -F (k * 13 + 0) ≤ F (0 * 13 + k) ∧ F (0 * 13 + k) ≤ t := by
 obtain ⟨t1, t2, ⟨t3, t4, t5⟩, t6, t7, t8, t9⟩ := ht
 have a1 := ((SF _).1 (low_sat gF)).1
 have a2 := ((SF _).1 (high_sat gF)).1
 have b1 := ud a1.1 0 k (by omega)
 have b2 := ud a2.1 k (n - k) (by omega)
 have c2 := a2.2
 have d0 := gF.dg 0 (Nat.zero_le _)
 have t0 := gF.tri 0 k 0 (Nat.zero_le _) hk (Nat.zero_le _)
 have m1 := jn (d := (k : Int)) (a := lo) (by omega) (by omega) t3 (by omega)
 have m2 := jn (d := ((n - k : Nat) : Int)) (a := lo) (by omega) (by omega) t3 (by omega)
 dsimp only at b1 b2 c2
 rw [Nat.zero_add] at b1
 rw [show k + (n - k) = n by omega] at b2
 omega
def fA (t s1 : Int) (F : Nat → Int) (k : Nat) : Int := (-F (k * 13 + 0)) * s1 / t
def fB (t s2 : Int) (F : Nat → Int) (k : Nat) : Int := (F (0 * 13 + k) * s2 + t - 1) / t
def Fresh (n : Nat) (t s1 s2 : Int) (F : Nat → Int) (M : Nat → Int) : Prop := ∀ k, k ≤ n → M (k * 2 + 0) = fA t s1 F k ∧ M (k * 2 + 1) = fB t s2 F k
theorem pr_b {a s t : Int} (h1 : 0 ≤ a) (h2 : a ≤ t) (h3 : t ≤ 2000) (h4 : 1 ≤ s) (h5 : s ≤ 2000) : 0 ≤ a * s ∧ a * s ≤ t * 2000 := by
 have q1 : 0 * s ≤ a * s := Int.mul_le_mul_of_nonneg_right h1 (by omega)
 have q2 : a * s ≤ t * s := Int.mul_le_mul_of_nonneg_right h2 (by omega)
 have q3 : t * s ≤ t * 2000 := Int.mul_le_mul_of_nonneg_left h5 (by omega)
 omega
theorem fA_b {n : Nat} {t lo hi s1 s2 : Int} {L : List (Int × Int × Int × Int)} {F : Nat → Int} (ht : TubeOk n t lo hi) (gF : Gd n F) (SF : ∀ p, SatF n F p ↔ TruS n t lo hi L p) (h1 : 1 ≤ s1) (h2 : s1 ≤ s2) (h3 : s2 ≤ 2000) {k : Nat} (hk : k ≤ n) : 0 ≤ fA t s1 F k ∧ fA t s1 F k ≤ 2000 ∧ 0 ≤ fB t s2 F k ∧ fB t s2 F k ≤ 2000 ∧ fA t s1 F k ≤ fB t s2 F k := by
 have b := Ys ht gF SF hk
 have t0 := ht.2.2.2.1
 have t1 := ht.2.2.2.2.1
 have p1 := pr_b (a := -F (k * 13 + 0)) (s := s1) (t := t) (by omega) (by omega) t1 h1 (by omega)
 have p2 := pr_b (a := F (0 * 13 + k)) (s := s2) (t := t) (by omega) (by omega) t1 (by omega) h3
 have q1 : (-F (k * 13 + 0)) * s1 ≤ F (0 * 13 + k) * s1 := Int.mul_le_mul_of_nonneg_right b.2.1 (by omega)
 have q2 : F (0 * 13 + k) * s1 ≤ F (0 * 13 + k) * s2 := Int.mul_le_mul_of_nonneg_left h2 (by omega)
 unfold fA fB
 refine ⟨Int.ediv_nonneg p1.1 (by omega), Int.ediv_le_of_le_mul (by omega) (by omega), Int.ediv_nonneg (by omega) (by omega), ?_, Int.ediv_le_ediv (by omega) (by omega)⟩
 have : (F (0 * 13 + k) * s2 + t - 1) / t < 2001 := Int.ediv_lt_of_lt_mul (by omega) (by omega)
 omega
theorem q104 {N n : Nat} {t lo hi s1 s2 : Int} {L : List (Int × Int × Int × Int)} {F : Nat → Int} (ht : TubeOk n t lo hi) (gF : Gd n F) (SF : ∀ p, SatF n F p ↔ TruS n t lo hi L p) (h1 : 1 ≤ s1) (h2 : s1 ≤ s2) (h3 : s2 ≤ 2000) (hN : 1000 ≤ N) : ∃ M, sf104 N (bdF n F) s1 s2 t = some M ∧ Fresh n t s1 s2 F M := by
 have hn : n ≤ 10 := by have := ht.2.1; omega
 have t0 := ht.2.2.2.1
 have t1 := ht.2.2.2.2.1
 have H := vF (step := sf104_L1 N (bdF n F) s1 s2 t) (fun x => ∃ j : Nat, x.1 = j ∧ j ≤ n + 1 ∧ ∀ k, k < j → x.2 (k * 2 + 0) = fA t s1 F k ∧ x.2 (k * 2 + 1) = fB t s2 F k) (fun x => n + 1 - x.1.toNat) (fun M => Fresh n t s1 s2 F M) (by
  rintro ⟨_, G⟩ ⟨j, rfl, hj, hG⟩
  dsimp only at hG ⊢
  by_cases c : j < n + 1
  ·refine .inl ⟨(((j + 1 : Nat) : Int), ups (ups G (j * 2) (fA t s1 F j)) (j * 2 + 1) (fB t s2 F j)), ?_, ⟨j + 1, rfl, by omega, fun k hk => ?_⟩, by dsimp only; omega⟩
   ·have b := Ys ht gF SF (k := j) (by omega)
    have p1 := pr_b (a := -F (j * 13 + 0)) (s := s1) (t := t) (by omega) (by omega) t1 h1 (by omega)
    have p2 := pr_b (a := F (0 * 13 + j)) (s := s2) (t := t) (by omega) (by omega) t1 (by omega) h3
    unfold sf104_L1
    dsimp only
    rw [YU, decide_eq_true (by omega), cond_true, yb rfl (bdF_at (by omega)), zp (by dsimp only; unfold rng; omega), zp (by dsimp only; unfold rng; omega), q142 p1.1 (by omega) (by omega) p2.1 (by omega) (by omega) (by omega), zn, zp (by omega), zp (by unfold rng; omega), toN]
    rfl
   ·dsimp only
    unfold ups
    by_cases e : k = j
    ·subst e
     rw [if_neg (by omega), if_pos (by omega), if_pos rfl]
     exact ⟨rfl, rfl⟩
    ·rw [if_neg (by omega), if_neg (by omega), if_neg (by omega), if_neg (by omega)]
     exact hG k (by omega)
  ·refine .inr ⟨G, ?_, fun k hk => hG k (by omega)⟩
   unfold sf104_L1
   dsimp only
   rw [YU, decide_eq_false (by omega), cond_false]) N ((0 : Int), (fun _ => 0)) ⟨0, rfl, by omega, fun k hk => by omega⟩ (by dsimp only; omega)
 obtain ⟨M, e, hM⟩ := H
 refine ⟨M, ?_, hM⟩
 unfold sf104
 rw [e, zn]
section
variable {N n : Nat} {t lo hi : Int} {L : List (Int × Int × Int × Int)} {Tb : List (Int × Int)} {p q d1 d2 : Int}
theorem q65 (h : Lim L Tb) (hN : 1000 ≤ N) (hI : InOk n t lo hi L Tb p q d1 d2) :
  (∃ F s1 s2 M, sf70 N n t lo hi L = some (bdF n F, 0) ∧ Gd n F ∧ (∀ p, SatF n F p ↔ TruS n t lo hi L p) ∧ sf73 N Tb p = some s1 ∧ sf73 N Tb q = some s2 ∧ (1 ≤ s1 ∧ s1 ≤ s2 ∧ s2 ≤ 2000) ∧ Fresh n t s1 s2 F M ∧ sf65 N n t lo hi L Tb p q d1 d2 = some ((n : Int), t, lo, hi, L, Tb, p, q, d1, d2, M, 0)) ∨
  ((∀ p, ¬ TruS n t lo hi L p) ∧ sf70 N n t lo hi L = some ([], 9) ∧ sf65 N n t lo hi L Tb p q d1 d2 = some (0, 0, 0, 0, [], [], 0, 0, 0, 0, (fun _ => 0), 9)) := by
 obtain ⟨h1, h2⟩ := h
 obtain ⟨⟨i1, i2⟩, i3, i4, i5⟩ := hI
 obtain ⟨s1, s2, e101, g1, g2, g3⟩ := q101 (N := N) h2 hN i3 i4
 unfold sf65
 rw [decide_eq_false (by omega), cond_false, decide_eq_false (by omega), zn, cond_false, zn, sR, e101]
 rcases s29_ok (N := N) i1 h1 i2 hN with ⟨F, e70, gF, SF⟩ | ⟨e70, SF⟩
 ·obtain ⟨M, eM, hM⟩ := q104 (N := N) i1 gF SF g3.1 g3.2.1 g3.2.2 hN
  refine .inl ⟨F, s1, s2, M, e70, gF, SF, g1, g2, g3, hM, ?_⟩
  rw [e70, zn, zn]
  dsimp only
  rw [decide_eq_true rfl, Bool.not_true, cond_false, cond_false, show sf103 N 100 = some (0, 100) from rfl, zn]
  dsimp only
  rw [q102, zn, decide_eq_true i5, Bool.not_true, zn, cond_false, zn, sR, decide_eq_false (by decide), cond_false, eM, zn]
 ·refine .inr ⟨SF, e70, ?_⟩
  rw [e70, zn, zn]
  dsimp only
  rw [decide_eq_false (by decide), Bool.not_false, cond_true, decide_eq_true rfl, Bool.not_true, cond_false, decide_eq_true rfl, Bool.not_true, cond_false, show sf103 N 100 = some (0, 100) from rfl, zn]
  dsimp only
  rw [q102, zn, decide_eq_true i5, Bool.not_true, zn, cond_false, zn, sR]
  rfl
theorem q75 {day : Int} : sf75 N day = some (decide (0 ≤ day ∧ day ≤ 10000)) := by
 unfold sf75
 rw [show sf103 N 10000 = some (0, 10000) from rfl, zn]
 dsimp only
 rw [q110, zn]
def r1 (d1 day : Int) : Int := d1 * day / 100
def r2 (d2 day : Int) : Int := (d2 * day + 99) / 100
theorem r_b {day : Int} (hd : 0 ≤ day ∧ day ≤ 10000) (h : 0 ≤ d1 ∧ d1 ≤ d2 ∧ d2 ≤ 100) : (0 ≤ d1 * day ∧ d1 * day ≤ 1000000 ∧ 0 ≤ d2 * day ∧ d2 * day ≤ 1000000) ∧ 0 ≤ r1 d1 day ∧ r1 d1 day ≤ r2 d2 day ∧ r2 d2 day ≤ 10001 := by
 have a1 : 0 * day ≤ d1 * day := Int.mul_le_mul_of_nonneg_right h.1 hd.1
 have a2 : d1 * day ≤ d2 * day := Int.mul_le_mul_of_nonneg_right h.2.1 hd.1
 have a3 : d2 * day ≤ 100 * day := Int.mul_le_mul_of_nonneg_right h.2.2 hd.1
 unfold r1 r2
 omega
theorem q106 {n t lo hi p q : Int} {M : Nat → Int} {day : Int} (hd : 0 ≤ day ∧ day ≤ 10000) (h : 0 ≤ d1 ∧ d1 ≤ d2 ∧ d2 ≤ 100) : sf106 N n t lo hi L Tb p q d1 d2 M day = some (r1 d1 day, r2 d2 day) := by
 have b := r_b (d1 := d1) (d2 := d2) hd h
 unfold sf106
 rw [zp (by unfold rng; omega), zp (by unfold rng; omega), q142 (by omega) (by omega) (by omega) (by omega) (by omega) (by omega) (by omega), zn]
 show some (d1 * day / 100, (d2 * day + 100 - 1) / 100) = _
 unfold r1 r2
 rw [show d2 * day + 100 - 1 = d2 * day + 99 by omega]
theorem q55 {n t lo hi p q : Int} {day : Int} (hd : 0 ≤ day ∧ day ≤ 10000) (h : 0 ≤ d1 ∧ d1 ≤ d2 ∧ d2 ≤ 100) : sf55 N n t lo hi L Tb p q d1 d2 day = some (r1 d1 day, r2 d2 day) := by
 have b := r_b (d1 := d1) (d2 := d2) hd h
 unfold r1 r2 at *
 unfold sf55
 rw [td (by omega), td (by omega), zp (by unfold rng; omega), zp (by unfold rng; omega), zp (by unfold rng; omega), zp (by unfold rng; omega), zp (by unfold rng; omega)]
def bnd1 (t s1 d2 : Int) (F : Nat → Int) (day : Int) (k : Nat) : Int := fA t s1 F k - r2 d2 day
def bnd2 (t s2 d1 : Int) (F : Nat → Int) (day : Int) (k : Nat) : Int := fB t s2 F k - r1 d1 day
def tells (n k : Nat) : Int := 1000 * (k : Int) / n
theorem tells_b {k : Nat} (hn : 1 ≤ n) (hk : k ≤ n) : 0 ≤ tells n k ∧ tells n k ≤ 1000 := by
 unfold tells
 exact ⟨Int.ediv_nonneg (by omega) (by omega), Int.ediv_le_of_le_mul (by omega) (by omega)⟩
end
section
variable {N n : Nat} {t lo hi s1 s2 : Int} {L L' : List (Int × Int × Int × Int)} {Tb : List (Int × Int)} {p q d1 d2 : Int} {F M : Nat → Int} {day : Int} {k : Nat}
theorem q68 (ht : TubeOk n t lo hi) (gF : Gd n F) (SF : ∀ p, SatF n F p ↔ TruS n t lo hi L' p) (h1 : 1 ≤ s1 ∧ s1 ≤ s2 ∧ s2 ≤ 2000) (hM : Fresh n t s1 s2 F M) (hd : 0 ≤ day ∧ day ≤ 10000) (h : 0 ≤ d1 ∧ d1 ≤ d2 ∧ d2 ≤ 100) (hk : k ≤ n) {a b c e : Int} :
  sf68 N a b c e L Tb p q d1 d2 M k day = some (bnd1 t s1 d2 F day k, bnd2 t s2 d1 F day k) := by
 have hn := ht.2.1
 have f := fA_b ht gF SF h1.1 h1.2.1 h1.2.2 hk
 have r := r_b (d1 := d1) (d2 := d2) hd h
 obtain ⟨m1, m2⟩ := hM k hk
 unfold sf68
 rw [q106 hd h, zn]
 dsimp only
 rw [toN, m1, m2, zp (by omega), zp (by unfold rng; omega), zp (by omega), zp (by unfold rng; omega)]
 rfl
theorem q69 (ht : TubeOk n t lo hi) (gF : Gd n F) (SF : ∀ p, SatF n F p ↔ TruS n t lo hi L' p) (h1 : 1 ≤ s1 ∧ s1 ≤ s2 ∧ s2 ≤ 2000) (hM : Fresh n t s1 s2 F M) (hd : 0 ≤ day ∧ day ≤ 10000) (h : 0 ≤ d1 ∧ d1 ≤ d2 ∧ d2 ≤ 100) (hk : k ≤ n) {b c e : Int} :
  sf69 N n b c e L Tb p q d1 d2 M k day = some (bnd1 t s1 d2 F day k - tells n k, bnd2 t s2 d1 F day k - tells n k) := by
 have hn := ht.1
 have hn2 := ht.2.1
 have f := fA_b ht gF SF h1.1 h1.2.1 h1.2.2 hk
 have r := r_b (d1 := d1) (d2 := d2) hd h
 have tl := tells_b (n := n) (k := k) (by omega) hk
 unfold sf69
 rw [zp (by unfold rng; omega), q107 (by omega) (by omega) (by omega), zn, q68 ht gF SF h1 hM hd h hk, zn]
 dsimp only
 show ck (rng (bnd1 t s1 d2 F day k - tells n k)) (ck (rng (bnd2 t s2 d1 F day k - tells n k)) _) = _
 unfold bnd1 bnd2 at *
 rw [zp (by unfold rng; omega), zp (by unfold rng; omega)]
 rfl
def hgtL (n : Nat) (t s1 s2 d1 d2 : Int) (F : Nat → Int) (day : Int) : List (Int × Int) := (List.range (n + 1)).map fun (k : Nat) => (bnd1 t s1 d2 F day k, bnd2 t s2 d1 F day k)
def corL (n : Nat) (t s1 s2 d1 d2 : Int) (F : Nat → Int) (day : Int) : List (Int × Int) := (List.range (n + 1)).map fun (k : Nat) => (bnd1 t s1 d2 F day k - tells n k, bnd2 t s2 d1 F day k - tells n k)
theorem uT : (hgtL n t s1 s2 d1 d2 F day).length = n + 1 := by unfold hgtL; simp
theorem ul (hk : k ≤ n) : (hgtL n t s1 s2 d1 d2 F day)[k]? = some (bnd1 t s1 d2 F day k, bnd2 t s2 d1 F day k) := by
 unfold hgtL
 rw [List.getElem?_map, List.getElem?_range (by omega)]; rfl
theorem q67 (ht : TubeOk n t lo hi) (gF : Gd n F) (SF : ∀ p, SatF n F p ↔ TruS n t lo hi L p) (h1 : 1 ≤ s1 ∧ s1 ≤ s2 ∧ s2 ≤ 2000) (hM : Fresh n t s1 s2 F M) (hd : 0 ≤ day ∧ day ≤ 10000) (h : 0 ≤ d1 ∧ d1 ≤ d2 ∧ d2 ≤ 100) (h65 : sf65 N n t lo hi L Tb p q d1 d2 = some ((n : Int), t, lo, hi, L, Tb, p, q, d1, d2, M, 0)) (hN : 1000 ≤ N) :
  sf67 N n t lo hi L Tb p q d1 d2 day = some (hgtL n t s1 s2 d1 d2 F day, 0) ∧ sf67_2 N n t lo hi L Tb p q d1 d2 day = some (corL n t s1 s2 d1 d2 F day, 0) := by
 have hn := ht.2.1
 have e1 : iter (sf67_L1 N day ((n : Int), t, lo, hi, L, Tb, p, q, d1, d2, M, 0)) N (([] : List (Int × Int)), (0 : Int)) = some (hgtL n t s1 s2 d1 d2 F day) := by
  refine yA (fun k => ((List.range k).map (fun (k : Nat) => (bnd1 t s1 d2 F day k, bnd2 t s2 d1 F day k)), (k : Int))) (n + 1) _ rfl (fun k hk => ?_) ?_ (by omega)
  ·unfold sf67_L1
   dsimp only
   rw [decide_eq_true (by omega), cond_true, q68 ht gF SF h1 hM hd h (by omega), zn, zp (by simp; omega), zp (by unfold rng; omega), List.range_succ, List.map_append]
   rfl
  ·unfold sf67_L1
   dsimp only
   rw [decide_eq_false (by omega), cond_false]
   rfl
 have e2 : iter (sf67_2_L1 N day ((n : Int), t, lo, hi, L, Tb, p, q, d1, d2, M, 0)) N (([] : List (Int × Int)), (0 : Int)) = some (corL n t s1 s2 d1 d2 F day) := by
  refine yA (fun k => ((List.range k).map (fun (k : Nat) => (bnd1 t s1 d2 F day k - tells n k, bnd2 t s2 d1 F day k - tells n k)), (k : Int))) (n + 1) _ rfl (fun k hk => ?_) ?_ (by omega)
  ·unfold sf67_2_L1
   dsimp only
   rw [decide_eq_true (by omega), cond_true, q69 ht gF SF h1 hM hd h (by omega), zn, zp (by simp; omega), zp (by unfold rng; omega), List.range_succ, List.map_append]
   rfl
  ·unfold sf67_2_L1
   dsimp only
   rw [decide_eq_false (by omega), cond_false]
   rfl
 unfold sf67 sf67_2 sf105
 rw [h65, zn]
 dsimp only
 rw [decide_eq_true rfl, Bool.not_true, cond_false, q75, zn, decide_eq_true hd, Bool.not_true, cond_false, zn, zn]
 dsimp only
 rw [decide_eq_true rfl, Bool.not_true, cond_false, cond_false, zp (by unfold rng; omega), zp (by omega), zp (by unfold rng; omega), zp (by omega), show List.replicate (Int.toNat 0) ((0 : Int), (0 : Int)) = [] from rfl, e1, e2]
 exact ⟨rfl, rfl⟩
end
end Go.Hx.V

namespace Go.Hx.V
open Go.Hx
section
variable {N n : Nat} {t lo hi s1 s2 : Int} {L : List (Int × Int × Int × Int)} {Tb : List (Int × Int)} {p q d1 d2 : Int} {F M : Nat → Int} {day : Int} {k : Nat}
theorem q27 {n : Int} (h1 : sf73 N Tb p = some s1) (h2 : sf73 N Tb q = some s2) : sf27 N n t lo hi L Tb p q d1 d2 = some (s1, s2) := by
 unfold sf27
 rw [h1, zn, h2, zn]
theorem q26 (ht : TubeOk n t lo hi) (gF : Gd n F) (SF : ∀ p, SatF n F p ↔ TruS n t lo hi L p) (h1 : 1 ≤ s1 ∧ s1 ≤ s2 ∧ s2 ≤ 2000) (hd : 0 ≤ day ∧ day ≤ 10000) (h : 0 ≤ d1 ∧ d1 ≤ d2 ∧ d2 ≤ 100) (hk : k ≤ n) (hN : 1000 ≤ N) :
  sf26 N n t lo hi L Tb p q d1 d2 (-F (k * 13 + 0)) (F (0 * 13 + k)) s1 s2 day = some (bnd1 t s1 d2 F day k, bnd2 t s2 d1 F day k) := by
 have b := Ys ht gF SF hk
 have t0 := ht.2.2.2.1
 have t1 := ht.2.2.2.2.1
 have f := fA_b ht gF SF h1.1 h1.2.1 h1.2.2 hk
 have r := r_b (d1 := d1) (d2 := d2) hd h
 have p1 := pr_b (a := -F (k * 13 + 0)) (s := s1) (t := t) (by omega) (by omega) t1 h1.1 (by omega)
 have p2 := pr_b (a := F (0 * 13 + k)) (s := s2) (t := t) (by omega) (by omega) t1 (by omega) h1.2.2
 unfold sf26
 rw [q55 hd h, zn, zp (by unfold rng; omega), q71 p1.1 (by omega) (by omega) (by omega) hN, zn]
 show ck (rng (fA t s1 F k - r2 d2 day)) _ = _
 rw [zp (by unfold rng; omega), zp (by unfold rng; omega), q72 p2.1 (by omega) (by omega) (by omega) hN, zn]
 show ck (rng (fB t s2 F k - r1 d1 day)) _ = _
 rw [zp (by unfold rng; omega)]
 rfl
end
end Go.Hx.V

namespace Go.Hx.V
open Go.Hx
def Rdy (n t lo hi : Int) (Tb : List (Int × Int)) (p q d1 d2 : Int) : Prop := Tb.length ≤ 8 ∧ TubeOk n t lo hi ∧ TbOk Tb ∧ PrOk Tb p q ∧ 0 ≤ d1 ∧ d1 ≤ d2 ∧ d2 ≤ 100
section
variable {N : Nat} {t lo hi : Int} {L : List (Int × Int × Int × Int)} {Tb : List (Int × Int)} {p q d1 d2 : Int}
theorem q52 {n : Int} (hN : 1000 ≤ N) : (Rdy n t lo hi Tb p q d1 d2 ∧ sf52 N n t lo hi L Tb p q d1 d2 = some true) ∨ sf52 N n t lo hi L Tb p q d1 d2 = some false := by
 unfold sf52 sf18
 rw [decide_eq_true (by simp), cond_true, zn]
 by_cases h : Tb.length ≤ 11
 ·rw [decide_eq_true (by omega), cond_true]
  by_cases h8 : Tb.length ≤ 8
  ·rcases q40 (N := N) (n := n) (t := t) (lo := lo) (hi := hi) (L := []) (Tb := Tb) (p := p) (q := q) (d1 := d1) (d2 := d2) ⟨by simp, h8⟩ hN with ⟨hI, e⟩ | ⟨_, e⟩
   ·rw [e, zn, decide_eq_true rfl]
    exact .inl ⟨⟨h8, hI.1.1, hI.2⟩, rfl⟩
   ·rw [e, zn]; exact .inr rfl
  ·rw [q40_lim (fun q => h8 q.2), zn]; exact .inr rfl
 ·rw [decide_eq_false (by omega)]; exact .inr rfl
structure Inst (N n : Nat) (t lo hi : Int) (Tb : List (Int × Int)) (p q d1 d2 : Int) (v : List Int) (L : List (Int × Int × Int × Int)) (F : Nat → Int) (s1 s2 : Int) (M : Nat → Int) : Prop where
 ht : TubeOk n t lo hi
 hT : Tb.length ≤ 8
 hL : L.length ≤ 12
 hd : 0 ≤ d1 ∧ d1 ≤ d2 ∧ d2 ≤ 100
 lim : Lim L Tb
 ok : InOk n t lo hi L Tb p q d1 d2
 v1 : v.length = n
 v2 : AllP (InV lo hi) v
 v3 : v.sum = t
 tr : TruS n t lo hi L (hs v)
 gF : Gd n F
 SF : ∀ p, SatF n F p ↔ TruS n t lo hi L p
 b1 : sf73 N Tb p = some s1
 b2 : sf73 N Tb q = some s2
 hs : 1 ≤ s1 ∧ s1 ≤ s2 ∧ s2 ≤ 2000
 hM : Fresh n t s1 s2 F M
 e65 : sf65 N n t lo hi L Tb p q d1 d2 = some ((n : Int), t, lo, hi, L, Tb, p, q, d1, d2, M, 0)
theorem inst {n : Nat} {W U : List Int} (hR : Rdy n t lo hi Tb p q d1 d2) (hW : AllP W16 W) (hU : AllP W16 U) (hN : 1000 ≤ N) : ∃ v L' F s1 s2 M, sf53 N n t lo hi L Tb p q d1 d2 W U = some ((n : Int), t, lo, hi, L', Tb, p, q, d1, d2, v) ∧ Inst N n t lo hi Tb p q d1 d2 v L' F s1 s2 M := by
 obtain ⟨h8, ht, hTb, hP, hd⟩ := hR
 obtain ⟨v, ev, v1, v2, v3⟩ := s53 (N := N) ht hW hN
 obtain ⟨L', eL, L1, L2, L3⟩ := s54 (N := N) ht v1 v2 v3 hU hN
 have hRd : AllP (RdOk' n) L' := fun x hx => (L3 x hx).1
 have tr := tru_of v1 v2 v3 L3
 obtain ⟨F, s1, s2, M, _, gF, SF, b1, b2, hs, hM, e65⟩ := (q65 (N := N) (L := L') (Tb := Tb) (p := p) (q := q) (d1 := d1) (d2 := d2) ⟨L1, h8⟩ hN ⟨⟨ht, hRd⟩, hTb, hP, hd⟩).resolve_right fun q => q.1 _ tr
 refine ⟨v, L', F, s1, s2, M, ?_, ht, h8, L1, hd, ⟨L1, h8⟩, ⟨⟨ht, hRd⟩, hTb, hP, hd⟩, v1, v2, v3, tr, gF, SF, b1, b2, hs, hM, e65⟩
 unfold sf53
 rw [ev, zn, eL, zn]
end
section
variable {N n : Nat} {t lo hi s1 s2 : Int} {L : List (Int × Int × Int × Int)} {Tb : List (Int × Int)} {p q d1 d2 : Int} {F M : Nat → Int} {day : Int} {v : List Int}
theorem Inst.q21 (I : Inst N n t lo hi Tb p q d1 d2 v L F s1 s2 M) (hN : 1000 ≤ N) : sf21 N n t lo hi L Tb p q d1 d2 = some ((n : Int), t, lo, hi, L, Tb, p, q, d1, d2) := V.q21 (by have := I.hL; omega) (by have := I.hT; omega) hN
theorem Inst.q22 (I : Inst N n t lo hi Tb p q d1 d2 v L F s1 s2 M) (hd : 0 ≤ day ∧ day ≤ 10000) (hN : 1000 ≤ N) : sf22 N n t lo hi L Tb p q d1 d2 day = some (hgtL n t s1 s2 d1 d2 F day, 0) := by
 have := (q67 I.ht I.gF I.SF I.hs I.hM hd I.hd I.e65 hN).1
 unfold sf22
 rw [this, zn]
end
theorem tmd {a b : Int} (ha : 0 ≤ a) (hb : 0 < b) : 0 ≤ Int.tmod a b ∧ Int.tmod a b ≤ b - 1 := by
 have := tm ha hb; omega
end Go.Hx.V

namespace Go.Hx.V
open Go.Hx
def cor1 (n : Nat) (t s1 d2 : Int) (F : Nat → Int) (day : Int) (k : Nat) : Int := bnd1 t s1 d2 F day k - tells n k
def cor2 (n : Nat) (t s2 d1 : Int) (F : Nat → Int) (day : Int) (k : Nat) : Int := bnd2 t s2 d1 F day k - tells n k
def LowP (n : Nat) (t s2 d1 : Int) (F : Nat → Int) (a b : Nat) (w day : Int) : Prop := ∀ k, a ≤ k → k ≤ b → cor2 n t s2 d1 F day k ≤ w
def HighP (n : Nat) (t s1 d2 : Int) (F : Nat → Int) (a b : Nat) (w day : Int) : Prop := ∀ k, a ≤ k → k ≤ b → -w ≤ cor1 n t s1 d2 F day k
theorem YG {d x y : Int} (hd : 0 ≤ d) (h : x ≤ y) : r1 d x ≤ r1 d y := by
 unfold r1
 exact Int.ediv_le_ediv (by decide) (Int.mul_le_mul_of_nonneg_left h hd)
theorem YF {d x y : Int} (hd : 0 ≤ d) (h : x ≤ y) : r2 d x ≤ r2 d y := by
 unfold r2
 have := Int.mul_le_mul_of_nonneg_left h hd
 exact Int.ediv_le_ediv (by decide) (by omega)
theorem low_mono {n : Nat} {t s2 d1 : Int} {F : Nat → Int} {a b : Nat} {w x y : Int} (hd : 0 ≤ d1) (h : x ≤ y) (hl : LowP n t s2 d1 F a b w x) : LowP n t s2 d1 F a b w y := fun k h1 h2 => by
 have := hl k h1 h2
 have := YG hd h
 unfold cor2 bnd2 at *
 omega
theorem Y8 {n : Nat} {t s1 d2 : Int} {F : Nat → Int} {a b : Nat} {w x y : Int} (hd : 0 ≤ d2) (h : x ≤ y) (hl : HighP n t s1 d2 F a b w y) : HighP n t s1 d2 F a b w x := fun k h1 h2 => by
 have := hl k h1 h2
 have := YF hd h
 unfold cor1 bnd1 at *
 omega
def crL (n : Nat) (t s1 s2 d1 d2 : Int) (F : Nat → Int) (a b : Nat) (day : Int) : List (Int × Int) := (List.range (b + 1 - a)).map fun i => (cor1 n t s1 d2 F day (a + i), cor2 n t s2 d1 F day (a + i))
theorem k9 {n : Nat} {t s1 s2 d1 d2 : Int} {F : Nat → Int} {a b : Nat} {day : Int} {P : Int × Int → Prop} : AllP P (crL n t s1 s2 d1 d2 F a b day) ↔ ∀ k, a ≤ k → k ≤ b → P (cor1 n t s1 d2 F day k, cor2 n t s2 d1 F day k) := by
 constructor
 ·intro h k h1 h2
  refine h _ (List.mem_map.2 ⟨k - a, List.mem_range.2 (by omega), ?_⟩)
  rw [show a + (k - a) = k by omega]
 ·intro h x hx
  obtain ⟨i, hi, rfl⟩ := List.mem_map.1 hx
  have := List.mem_range.1 hi
  exact h (a + i) (by omega) (by omega)
theorem jN {N : Nat} {l : List (Int × Int)} {step : Int → Option (Int ⊕ (Unit ⊕ Unit))} {f : Int × Int → Option Bool} {P : Int × Int → Prop} [DecidablePred P] (hl : l.length ≤ 100) (hN : 1000 ≤ N) (hf : ∀ z, f z = some (decide (P z)))
  (hst : ∀ x, step x = (bif (decide (x < ((l).length : Int))) then (ix l x fun x20 => (bnd (f x20) fun v25 => (bif (!v25) then some (.inr (.inl ())) else (ck (rng (x + (1 : Int))) (some (.inl (x + (1 : Int)))))))) else some (.inr (.inr ())))) : bnd (iter step N (0 : Int)) (sel (fun w15 => some false) (fun w17 => some true)) = some (decide (AllP P l)) := by
 rcases um (step := step) (l := l) (p := P) (N := N) (bad := ()) (by omega) (by
   intro j z hz hp
   have := yI hz
   rw [hst, decide_eq_true (by omega), cond_true, yb rfl hz, hf, zn, decide_eq_true hp, Bool.not_true, cond_false, zp (by unfold rng; omega)]) (by
   intro j z hz hp
   have := yI hz
   rw [hst, decide_eq_true (by omega), cond_true, yb rfl hz, hf, zn, decide_eq_false hp]
   rfl) (by
   rw [hst, decide_eq_false (by omega), cond_false]) with ⟨hA, e⟩ | ⟨hA, e⟩
 ·rw [e, zn, decide_eq_true hA]; rfl
 ·rw [e, zn, decide_eq_false hA]; rfl
theorem q120 {N : Nat} {a b w : Int} {z : Int × Int} : sf120 N a b w z.1 z.2 = some (decide (z.2 ≤ w)) := rfl
theorem q122 {N : Nat} {a b w : Int} {z : Int × Int} (hw : 0 ≤ w ∧ w ≤ 1000) : sf122 N a b w z.1 z.2 = some (decide (-w ≤ z.1)) := by
 unfold sf122
 rw [zp (by unfold rng; omega)]
theorem q116 {N : Nat} {a b w : Int} {z : Int × Int} (hw : 0 ≤ w ∧ w ≤ 1000) : sf116 N a b w z.1 z.2 = some (decide (-w ≤ z.1 ∧ z.2 ≤ w)) := by
 unfold sf116
 rw [q120, zn]
 by_cases h : z.2 ≤ w
 ·rw [decide_eq_true h, cond_true, q122 hw, zn]
  refine congrArg some (decide_eq_decide.2 ⟨fun q => ⟨q, h⟩, fun q => q.1⟩)
 ·rw [decide_eq_false h, cond_false]
  exact congrArg some (decide_eq_false fun q => h q.2).symm
theorem q114 {N : Nat} {l : List (Int × Int)} {a b w : Int} (hl : l.length ≤ 100) (hN : 1000 ≤ N) : sf114 N l a b w = some (decide (AllP (fun z => z.2 ≤ w) l)) := jN hl hN (fun z => q120 (N := N) (a := a) (b := b)) fun x => rfl
theorem q114_2 {N : Nat} {l : List (Int × Int)} {a b w : Int} (hl : l.length ≤ 100) (hN : 1000 ≤ N) (hw : 0 ≤ w ∧ w ≤ 1000) : sf114_2 N l a b w = some (decide (AllP (fun z => -w ≤ z.1) l)) := jN hl hN (fun z => q122 (N := N) (a := a) (b := b) hw) fun x => rfl
theorem q114_3 {N : Nat} {l : List (Int × Int)} {a b w : Int} (hl : l.length ≤ 100) (hN : 1000 ≤ N) (hw : 0 ≤ w ∧ w ≤ 1000) : sf114_3 N l a b w = some (decide (AllP (fun z => -w ≤ z.1 ∧ z.2 ≤ w) l)) := jN hl hN (fun z => q116 (N := N) (a := a) (b := b) hw) fun x => rfl
def srch (f : Int → Option Bool) (x1 : Int × Int) : Option ((Int × Int) ⊕ Int) :=
 (bif (decide (x1.1 < x1.2)) then (ck (rng (x1.1 + x1.2)) ((ck (IntKind.wrap .u64 (x1.1 + x1.2) = (x1.1 + x1.2)) ((ck (0 ≤ (1 : Int)) ((ck (IntKind.wrap .i64 (Int.fdiv (x1.1 + x1.2) (2 ^ (Nat.min (Int.toNat (1 : Int)) (IntKind.bits .u64)))) = (Int.fdiv (x1.1 + x1.2) (2 ^ (Nat.min (Int.toNat (1 : Int)) (IntKind.bits .u64))))) ((bnd (f (Int.fdiv (x1.1 + x1.2) (2 ^ (Nat.min (Int.toNat (1 : Int)) (IntKind.bits .u64))))) fun v20 => (bif (!v20) then (ck (rng ((Int.fdiv (x1.1 + x1.2) (2 ^ (Nat.min (Int.toNat (1 : Int)) (IntKind.bits .u64)))) + (1 : Int))) (some (.inl (((Int.fdiv (x1.1 + x1.2) (2 ^ (Nat.min (Int.toNat (1 : Int)) (IntKind.bits .u64)))) + (1 : Int)), x1.2)))) else some (.inl (x1.1, (Int.fdiv (x1.1 + x1.2) (2 ^ (Nat.min (Int.toNat (1 : Int)) (IntKind.bits .u64)))))))))))))))) else some (.inr x1.1))
theorem wrap_u64 {x : Int} (h : 0 ≤ x ∧ x < 4611686018427387904) : IntKind.wrap .u64 x = x := by
 unfold IntKind.wrap
 simp only [IntKind.bits, IntKind.signed, Bool.false_and]
 rw [if_neg (by decide)]
 omega
theorem Xi {f : Int → Option Bool} {P : Nat → Prop} {N : Nat} (hf : ∀ d : Nat, d ≤ 10000 → ∃ b, f d = some b ∧ (b = true ↔ P d)) (mono : ∀ d e, d ≤ e → e ≤ 10000 → P d → P e) (hN : 20000 ≤ N) :
  ∃ k : Nat, iter (srch f) N ((0 : Int), (10001 : Int)) = some (k : Int) ∧ k ≤ 10001 ∧ (∀ d, d < k → ¬ P d) ∧ ∀ d, k ≤ d → d ≤ 10000 → P d := by
 have H := vF (step := srch f) (fun x => ∃ i j : Nat, x = ((i : Int), (j : Int)) ∧ i ≤ j ∧ j ≤ 10001 ∧ (∀ d, d < i → ¬ P d) ∧ ∀ d, j ≤ d → d ≤ 10000 → P d) (fun x => (x.2 - x.1).toNat) (fun y => ∃ k : Nat, y = k ∧ k ≤ 10001 ∧ (∀ d, d < k → ¬ P d) ∧ ∀ d, k ≤ d → d ≤ 10000 → P d) (by
  rintro _ ⟨i, j, rfl, h1, h2, h3, h4⟩
  unfold srch
  dsimp only
  by_cases c : i < j
  ·have e2 : ((2 : Int) ^ (Nat.min (Int.toNat (1 : Int)) (IntKind.bits .u64))) = 2 := by decide
   have ef : Int.fdiv ((i : Int) + (j : Int)) 2 = (((i + j) / 2 : Nat) : Int) := by
    rw [Int.fdiv_eq_ediv_of_nonneg _ (by decide)]; omega
   obtain ⟨m, hm⟩ : ∃ m, m = (i + j) / 2 := ⟨_, rfl⟩
   obtain ⟨b, eb, hb⟩ := hf m (by omega)
   rw [decide_eq_true (by omega), cond_true, zp (by unfold rng; omega), zp (wrap_u64 (by omega)), zp (by decide), e2, ef, ← hm, zp (ju ⟨by omega, by omega⟩), eb, zn]
   cases b with
   | true =>
    exact .inl ⟨_, rfl, ⟨i, m, rfl, by omega, by omega, h3, fun d q1 q2 => mono m d q1 q2 (hb.1 rfl)⟩, by dsimp only; omega⟩
   | false =>
    rw [Bool.not_false, cond_true, zp (by unfold rng; omega)]
    refine .inl ⟨_, rfl, ⟨m + 1, j, rfl, by omega, h2, fun d q1 q2 => ?_, h4⟩, by dsimp only; omega⟩
    have := hb.2 (mono d m (by omega) (by omega) q2)
    cases this
  ·rw [decide_eq_false (by omega), cond_false]
   exact .inr ⟨_, rfl, i, rfl, by omega, h3, fun d q1 q2 => h4 d (by omega) q2⟩) N ((0 : Int), (10001 : Int)) ⟨0, 10001, rfl, by omega, by omega, fun d q => by omega, fun d q1 q2 => by omega⟩ (by dsimp only; omega)
 obtain ⟨y, e, k, rfl, q⟩ := H
 exact ⟨k, e, q⟩
section
variable {N n : Nat} {t lo hi s1 s2 : Int} {L : List (Int × Int × Int × Int)} {Tb : List (Int × Int)} {p q d1 d2 : Int} {F M : Nat → Int} {day : Int} {v : List Int} {a b : Nat} {w : Int}
theorem Inst.q115 (I : Inst N n t lo hi Tb p q d1 d2 v L F s1 s2 M) (hab : a ≤ b) (hb : b ≤ n) (hd : 0 ≤ day ∧ day ≤ 10000) (hN : 1000 ≤ N) : sf115 N n t lo hi L Tb p q d1 d2 M a b w day = some (crL n t s1 s2 d1 d2 F a b day) := by
 have hn := I.ht.2.1
 have e : iter (sf115_L1 N n t lo hi L Tb p q d1 d2 M b day) N ((a : Int), ([] : List (Int × Int))) = some (crL n t s1 s2 d1 d2 F a b day) := by
  refine yA (fun i => (((a + i : Nat) : Int), (List.range i).map fun i => (cor1 n t s1 d2 F day (a + i), cor2 n t s2 d1 F day (a + i)))) (b + 1 - a) _ rfl (fun i hi' => ?_) ?_ (by omega)
  ·unfold sf115_L1
   dsimp only
   rw [decide_eq_true (by omega), cond_true, q69 I.ht I.gF I.SF I.hs I.hM hd I.hd (by omega), zn, zp (by simp; omega), zp (by unfold rng; omega), List.range_succ, List.map_append]
   rfl
  ·unfold sf115_L1
   dsimp only
   rw [decide_eq_false (by omega), cond_false]
   rfl
 unfold sf115
 rw [zp (by unfold rng; omega), zp (by unfold rng; omega), zp (by omega), show List.replicate (Int.toNat 0) ((0 : Int), (0 : Int)) = [] from rfl, e, zn]
theorem k8 : (crL n t s1 s2 d1 d2 F a b day).length = b + 1 - a := by unfold crL; simp
theorem Inst.q81 (I : Inst N n t lo hi Tb p q d1 d2 v L F s1 s2 M) (hab : a ≤ b) (hb : b ≤ n) (hw : 0 ≤ w ∧ w ≤ 1000) (hd : 0 ≤ day ∧ day ≤ 10000) (hN : 1000 ≤ N) : ∃ r : Bool, sf81 N n t lo hi L Tb p q d1 d2 M a b w day = some r ∧ (r = true ↔ HighP n t s1 d2 F a b w day ∧ LowP n t s2 d1 F a b w day) := by
 have hn := I.ht.2.1
 unfold sf81
 rw [I.q115 hab hb hd hN, zn, q114_3 (by rw [k8]; omega) hN hw, zn]
 refine ⟨_, rfl, ?_⟩
 rw [decide_eq_true_iff, k9]
 exact ⟨fun h => ⟨fun k h1 h2 => (h k h1 h2).1, fun k h1 h2 => (h k h1 h2).2⟩, fun h k h1 h2 => ⟨h.1 k h1 h2, h.2 k h1 h2⟩⟩
theorem Inst.q83 (I : Inst N n t lo hi Tb p q d1 d2 v L F s1 s2 M) (hab : a ≤ b) (hb : b ≤ n) (hw : 0 ≤ w ∧ w ≤ 1000) (hN : 20000 ≤ N) : ∃ f e : Nat, f ≤ 10001 ∧ e ≤ 10001 ∧ sf83 N n t lo hi L Tb p q d1 d2 M a b w = some ((f : Int), (e : Int) - 1, decide ((f : Int) < e)) ∧
  ∀ d : Nat, d ≤ 10000 → (LowP n t s2 d1 F a b w d ↔ f ≤ d) ∧ (HighP n t s1 d2 F a b w d ↔ d < e) := by
 have hn := I.ht.2.1
 obtain ⟨f, ef, f1, f2, f3⟩ := Xi (N := N) (f := fun d => sf119 N d n t lo hi L Tb p q d1 d2 M a b w) (P := fun d => LowP n t s2 d1 F a b w d) (fun d hd => by
   have hd' : 0 ≤ (d : Int) ∧ (d : Int) ≤ 10000 := by omega
   unfold sf119
   rw [I.q115 hab hb hd' (by omega), zn, q114 (by rw [k8]; omega) (by omega), zn]
   refine ⟨_, rfl, ?_⟩
   rw [decide_eq_true_iff, k9]
   exact Iff.rfl) (fun d e h1 h2 h3 => low_mono I.hd.1 (by omega) h3) hN
 obtain ⟨e, ee, e1, e2, e3⟩ := Xi (N := N) (f := fun d => sf121 N d n t lo hi L Tb p q d1 d2 M a b w) (P := fun d => ¬ HighP n t s1 d2 F a b w d) (fun d hd => by
   have hd' : 0 ≤ (d : Int) ∧ (d : Int) ≤ 10000 := by omega
   unfold sf121
   rw [I.q115 hab hb hd' (by omega), zn, q114_2 (by rw [k8]; omega) (by omega) hw, zn]
   refine ⟨_, rfl, ?_⟩
   rw [Bool.not_eq_true', decide_eq_false_iff_not, k9]
   exact Iff.rfl) (fun d e h1 h2 h3 q => h3 (Y8 (by have := I.hd; omega) (by omega) q)) hN
 refine ⟨f, e, f1, e1, ?_, fun d hd => ⟨⟨fun h => Nat.not_lt.1 fun q => f2 d q h, fun h => f3 d h hd⟩, ⟨fun h => Nat.not_le.1 fun q => e3 d q hd h, fun h => Classical.not_not.1 (e2 d h)⟩⟩⟩
 have g1 : sf118 N 10001 n t lo hi L Tb p q d1 d2 M a b w = some (f : Int) := by
  unfold sf118
  show bnd (iter (srch fun d => sf119 N d n t lo hi L Tb p q d1 d2 M a b w) N ((0 : Int), (10001 : Int))) _ = _
  rw [ef, zn]
 have g2 : sf118_2 N 10001 n t lo hi L Tb p q d1 d2 M a b w = some (e : Int) := by
  unfold sf118_2
  show bnd (iter (srch fun d => sf121 N d n t lo hi L Tb p q d1 d2 M a b w) N ((0 : Int), (10001 : Int))) _ = _
  rw [ee, zn]
 unfold sf83
 rw [g1, zn, g2, zn, zp (by unfold rng; omega)]
theorem Inst.q82 (I : Inst N n t lo hi Tb p q d1 d2 v L F s1 s2 M) (hab : a ≤ b) (hb : b ≤ n) (hw : 0 ≤ w ∧ w ≤ 1000) : sf82 N n t lo hi L Tb p q d1 d2 a b w = some ((n : Int), t, lo, hi, L, Tb, p, q, d1, d2, M, (a : Int), (b : Int), w, 0) := by
 have g : ∀ k : Nat, k ≤ n → sf76 N n t lo hi L Tb p q d1 d2 k = some true := fun k hk => by
  unfold sf76
  rw [show ∀ x, sf103 N x = some (0, x) from fun _ => rfl, zn, q110, zn]
  dsimp only
  rw [decide_eq_true (by omega)]
 unfold sf82
 rw [I.e65, zn]
 dsimp only
 rw [decide_eq_true rfl, Bool.not_true, cond_false]
 unfold sf117
 rw [g a (by omega), zn, cond_true, g b hb, zn, cond_true, decide_eq_true (by omega), cond_true, show ∀ x, sf103 N x = some (0, x) from fun _ => rfl, zn, q110, zn]
 dsimp only
 rw [decide_eq_true hw, zn]
 rfl
theorem Inst.q34 (I : Inst N n t lo hi Tb p q d1 d2 v L F s1 s2 M) (hab : a ≤ b) (hb : b ≤ n) (hw : 0 ≤ w ∧ w ≤ 1000) (hd : 0 ≤ day ∧ day ≤ 10000) (hN : 1000 ≤ N) : ∃ r : Bool, sf34 N n t lo hi L Tb p q d1 d2 a b w day = some (r, 0) ∧ (r = true ↔ HighP n t s1 d2 F a b w day ∧ LowP n t s2 d1 F a b w day) := by
 obtain ⟨r, e, hr⟩ := I.q81 hab hb hw hd hN
 refine ⟨r, ?_, hr⟩
 unfold sf34 sf80
 rw [I.q82 hab hb hw, zn]
 dsimp only
 rw [decide_eq_true rfl, Bool.not_true, cond_false, q75, zn, decide_eq_true hd, Bool.not_true, cond_false, zn]
 dsimp only
 rw [decide_eq_true rfl, Bool.not_true, cond_false, e, zn]
theorem Inst.q36 (I : Inst N n t lo hi Tb p q d1 d2 v L F s1 s2 M) (hab : a ≤ b) (hb : b ≤ n) (hw : 0 ≤ w ∧ w ≤ 1000) (hN : 20000 ≤ N) : ∃ f e : Nat, f ≤ 10001 ∧ e ≤ 10001 ∧ ((f < e ∧ sf36 N n t lo hi L Tb p q d1 d2 a b w = some ((f : Int), (e : Int) - 1, 0)) ∨ (e ≤ f ∧ sf36 N n t lo hi L Tb p q d1 d2 a b w = some (0, 0, 11))) ∧
  ∀ d : Nat, d ≤ 10000 → (LowP n t s2 d1 F a b w d ↔ f ≤ d) ∧ (HighP n t s1 d2 F a b w d ↔ d < e) := by
 obtain ⟨f, e, f1, e1, h, hp⟩ := I.q83 hab hb hw hN
 refine ⟨f, e, f1, e1, ?_, hp⟩
 unfold sf36
 rw [I.q82 hab hb hw, zn]
 dsimp only
 rw [decide_eq_true rfl, Bool.not_true, cond_false, h, zn]
 dsimp only
 by_cases c : f < e
 ·rw [decide_eq_true (by omega)]; exact .inl ⟨c, rfl⟩
 ·rw [decide_eq_false (by omega)]; exact .inr ⟨by omega, rfl⟩
theorem q57 {n a b : Int} : sf57 N n t lo hi L Tb p q d1 d2 a b w = some (decide (0 ≤ a ∧ a ≤ b ∧ b ≤ n ∧ 0 ≤ w ∧ w ≤ 1000)) := by
 unfold sf57
 rw [q25, zn]
 by_cases h : 0 ≤ a ∧ a ≤ b
 ·rw [decide_eq_true h, cond_true]
  by_cases h2 : b ≤ n
  ·rw [decide_eq_true h2, cond_true, q25, zn]
   refine congrArg some (decide_eq_decide.2 ⟨fun q => ⟨h.1, h.2, h2, q⟩, fun q => q.2.2.2⟩)
  ·rw [decide_eq_false h2, cond_false]
   exact congrArg some (decide_eq_false fun q => h2 q.2.2.1).symm
 ·rw [decide_eq_false h, cond_false]
  exact congrArg some (decide_eq_false fun q => h ⟨q.1, q.2.1⟩).symm
end
end Go.Hx.V

namespace Go.Hx.V
open Go.Hx
section
variable {N n : Nat} {t lo hi s1 s2 : Int} {L : List (Int × Int × Int × Int)} {Tb : List (Int × Int)} {p q d1 d2 : Int} {F M : Nat → Int} {day : Int} {v : List Int} {k : Nat} {s rr : Int}
end
end Go.Hx.V

namespace Go.Hx.V
open Go.Hx
section
variable {N n : Nat} {t lo hi s1 s2 : Int} {L : List (Int × Int × Int × Int)} {Tb : List (Int × Int)} {p q d1 d2 : Int} {F M : Nat → Int} {day : Int} {v : List Int} {a b : Nat} {w : Int} {f e : Nat}
theorem Inst.days_L2 (I : Inst N n t lo hi Tb p q d1 d2 v L F s1 s2 M) (hab : a ≤ b) (hb : b ≤ n) (hw : 0 ≤ w ∧ w ≤ 1000) (hf : f < e) (he : e ≤ 10001) (hday : 0 ≤ day)
  (hp : ∀ d : Nat, d ≤ 10000 → (LowP n t s2 d1 F a b w d ↔ f ≤ d) ∧ (HighP n t s1 d2 F a b w d ↔ d < e)) (hN : 1000 ≤ N) :
  iter (sf11_L2 N a b w day ((n : Int), t, lo, hi, L, Tb, p, q, d1, d2, v) ((f : Int), (e : Int) - 1, 0)) N (0 : Int) = some (.inr ()) := by
 have ton := tm (a := day) (b := 10000) hday (by decide)
 have tq := tm (a := Int.tmod day 10000) (b := (e : Int) - 1 - f + 1) ton.1 (by omega)
 obtain ⟨T, hT⟩ : ∃ T, Int.tmod (Int.tmod day 10000) ((e : Int) - 1 - f + 1) = T := ⟨_, rfl⟩
 rw [hT] at tq
 have st : ∀ (i : Nat) (X : Int), i < 5 → [(f : Int) - 1, f, f + T, (e : Int) - 1, (e : Int) - 1 + 1][i]? = some X → (0 ≤ X → X ≤ 10000 → ((f : Int) ≤ X ∧ X < e ↔ 0 < i ∧ i < 4)) → sf11_L2 N a b w day ((n : Int), t, lo, hi, L, Tb, p, q, d1, d2, v) ((f : Int), (e : Int) - 1, 0) (i : Int) = some (.inl (((i + 1 : Nat)) : Int)) := by
  intro i X hi hX hk
  have cki : rng ((i : Int) + 1) := by unfold rng; omega
  unfold sf11_L2
  dsimp only
  rw [decide_eq_true (by omega), cond_true, zp (by unfold rng; omega), zp (by unfold rng; omega), zp (by unfold rng; omega), zp (by omega), hT, zp (by unfold rng; omega), zp (by unfold rng; omega), yb rfl hX]
  by_cases c1 : X < 0
  ·rw [decide_eq_true c1, cond_true, zn, cond_true, zn, sL, zp cki]; rfl
  ·rw [decide_eq_false c1, cond_false]
   by_cases c2 : 10000 < X
   ·rw [decide_eq_true c2, zn, cond_true, zn, sL, zp cki]; rfl
   ·obtain ⟨d, rfl⟩ : ∃ d : Nat, X = d := ⟨X.toNat, by omega⟩
    obtain ⟨r, e34, hr⟩ := I.q34 (N := N) (a := a) (b := b) (w := w) (day := d) hab hb hw (by omega) hN
    have hk' := hk (by omega) (by omega)
    have hp' := hp d (by omega)
    rw [decide_eq_false c2, zn, cond_false, zn, sR, I.q21 hN, zn, show ∀ x y z, sf35 N x y z = some (x, y, z) from fun _ _ _ => rfl, zn]
    dsimp only
    rw [e34, zn]
    dsimp only
    rw [decide_eq_true rfl, Bool.not_true, cond_false]
    by_cases c3 : 0 < i
    ·rw [decide_eq_true (by omega), cond_true]
     have : r = decide ((i : Int) < 4) := by
      cases hrr : r with
      | true =>
       have g := hr.1 hrr
       have := hk'.1 ⟨by have := hp'.1.1 g.2; omega, by have := hp'.2.1 g.1; omega⟩
       rw [decide_eq_true (by omega)]
      | false =>
       refine (decide_eq_false fun q => ?_).symm
       have := hk'.2 ⟨c3, by omega⟩
       have := hr.2 ⟨hp'.2.2 (by omega), hp'.1.2 (by omega)⟩
       rw [hrr] at this; cases this
     rw [this, beq_self_eq_true, zn, Bool.not_true, cond_false, zp cki]; rfl
    ·rw [decide_eq_false (by omega), cond_false]
     have : r = false := by
      cases hrr : r with
      | false => rfl
      | true =>
       have g := hr.1 hrr
       have := hk'.1 ⟨by have := hp'.1.1 g.2; omega, by have := hp'.2.1 g.1; omega⟩
       omega
     rw [this, beq_self_eq_true, zn, Bool.not_true, cond_false, zp cki]; rfl
 refine yA (fun i => (i : Int)) 5 _ rfl (fun i hi' => ?_) ?_ (by omega)
 ·match i, hi' with
  | 0, h => exact st 0 _ h rfl (fun _ _ => by omega)
  | 1, h => exact st 1 _ h rfl (fun _ _ => by omega)
  | 2, h => exact st 2 _ h rfl (fun _ _ => by omega)
  | 3, h => exact st 3 _ h rfl (fun _ _ => by omega)
  | 4, h => exact st 4 _ h rfl (fun _ _ => by omega)
 ·unfold sf11_L2
  dsimp only
  rw [decide_eq_false (by omega), cond_false]
end
theorem law11 {N : Nat} {n t lo hi : Int} {L : List (Int × Int × Int × Int)} {Tb : List (Int × Int)} {p q d1 d2 day : Int} {W U : List Int} {a b w : Int} (hW : AllP W16 W) (hU : AllP W16 U) (hday : W16 day) (hN : 20000 ≤ N) : sf11 N n t lo hi L Tb p q d1 d2 W U a b w day = some true := by
 unfold sf11
 rcases q52 (N := N) (n := n) (t := t) (lo := lo) (hi := hi) (L := L) (Tb := Tb) (p := p) (q := q) (d1 := d1) (d2 := d2) (by omega) with ⟨hR, e⟩ | e
 ·rw [e, zn, Bool.not_true, cond_false, q57, zn]
  by_cases hu : 0 ≤ a ∧ a ≤ b ∧ b ≤ n ∧ 0 ≤ w ∧ w ≤ 1000
  ·have ht := hR.2.1
   obtain ⟨n, rfl⟩ : ∃ k : Nat, n = k := ⟨n.toNat, by have := ht.1; omega⟩
   obtain ⟨a, rfl⟩ : ∃ k : Nat, a = k := ⟨a.toNat, by omega⟩
   obtain ⟨b, rfl⟩ : ∃ k : Nat, b = k := ⟨b.toNat, by omega⟩
   obtain ⟨v, L', F, s1, s2, M, e53, I⟩ := inst (N := N) (L := L) hR hW hU (by omega)
   have ton := tmd (a := day) (b := 10000) hday.1 (by decide)
   have hn := ht.2.1
   have hn0 := ht.1
   have hs := I.hs
   have hdd := I.hd
   have hw := hu.2.2.2
   rw [decide_eq_true hu, Bool.not_true, zn, cond_false, zn, sR, e53, zn]
   dsimp only
   rw [zp (ju hday), zp (by decide), I.q21 (by omega)]
   simp only [zn]
   rw [I.q22 (by omega) (by omega)]
   simp only [zn]
   rw [zp (by unfold rng; omega), I.q22 (by omega) (by omega)]
   simp only [zn]
   rw [decide_eq_true trivial, Bool.not_true, cond_false, cond_false, uT, uT, decide_eq_true rfl, Bool.not_true, cond_false, zp (by unfold rng; omega), decide_eq_true (show ((n + 1 : Nat) : Int) = (n : Int) + 1 by omega), Bool.not_true, zn, cond_false, zn, sR]
   have eL1 : iter (sf11_L1 (hgtL n t s1 s2 d1 d2 F (Int.tmod day 10000), 0) (hgtL n t s1 s2 d1 d2 F (Int.tmod day 10000 + 1), 0)) N (0 : Int) = some (.inr ()) := by
    refine yA (fun k => (k : Int)) (n + 1) _ rfl (fun k hk => ?_) ?_ (by omega)
    ·have m1 := YG (d := d1) (x := Int.tmod day 10000) (y := Int.tmod day 10000 + 1) hdd.1 (by omega)
     have m2 := YF (d := d2) (x := Int.tmod day 10000) (y := Int.tmod day 10000 + 1) (by omega) (by omega)
     have f := fA_b I.ht I.gF I.SF hs.1 hs.2.1 hs.2.2 (k := k) (by omega)
     have r := r_b (d1 := d1) (d2 := d2) (day := Int.tmod day 10000) (by omega) hdd
     unfold sf11_L1
     dsimp only
     rw [uT, decide_eq_true (by omega), cond_true, yb rfl (ul (by omega)), yb rfl (ul (by omega)), decide_eq_false (by dsimp only; unfold bnd1; omega), cond_false, yb rfl (ul (by omega)), yb rfl (ul (by omega)), decide_eq_false (by dsimp only; unfold bnd2; omega), cond_false, yb rfl (ul (by omega)), yb rfl (ul (by omega)), decide_eq_false (by dsimp only; unfold bnd1 bnd2; omega), zn, cond_false, zp (by unfold rng; omega)]
     rfl
    ·unfold sf11_L1
     dsimp only
     rw [uT, decide_eq_false (by omega), cond_false]
   rw [eL1, zn, sR, show ∀ x y z, sf35 N x y z = some (x, y, z) from fun _ _ _ => rfl, zn]
   dsimp only
   obtain ⟨f, en, f1, e1, hdays, hp⟩ := I.q36 (N := N) (a := a) (b := b) (w := w) (by omega) (by omega) hw hN
   rcases hdays with ⟨hlt, e36⟩ | ⟨hge, e36⟩
   ·rw [e36, zn]
    dsimp only
    rw [decide_eq_true rfl, Bool.not_true, cond_false, decide_eq_false (by omega), cond_false, decide_eq_false (by omega), cond_false, decide_eq_false (by omega), zn, cond_false, zn, sR, I.days_L2 (by omega) (by omega) hw hlt e1 hday.1 hp (by omega), zn, sR]
   ·rw [e36, zn]
    dsimp only
    obtain ⟨r, e34, hr⟩ := I.q34 (N := N) (a := a) (b := b) (w := w) (day := Int.tmod day 10000) (by omega) (by omega) hw (by omega) (by omega)
    have hrf : r = false := by
     cases hrr : r with
     | false => rfl
     | true =>
      have g := hr.1 hrr
      obtain ⟨d, hd⟩ : ∃ d : Nat, Int.tmod day 10000 = d := ⟨(Int.tmod day 10000).toNat, by omega⟩
      rw [hd] at g
      have := (hp d (by omega)).1.1 g.2
      have := (hp d (by omega)).2.1 g.1
      omega
    rw [decide_eq_false (by decide), Bool.not_false, cond_true, zn]
    dsimp only
    rw [e34, zn, hrf]
    rfl
  ·rw [decide_eq_false hu]; rfl
 ·rw [e, zn]; rfl
end Go.Hx.V

namespace Go.Hx
noncomputable section
abbrev Kt := Tr HV → List Nat → Tr HBlk → Nat → Option (HV × HS)
abbrev Kv := HV → Tr HBlk → Nat → Option (HV × HS)
abbrev Ko := Nat → Tr HV → Tr HBlk → Nat → Kv → Option (HV × HS)
abbrev Kc := Nat → Option Nat → Kt → (Nat → Kt) → Kt → Kt
abbrev Kf := Nat → List HV → Tr HBlk → Nat → Kv → Option (HV × HS)
def Pa.tmp (p : Pa) (a : Tr HV) : HV := Option.rec (motive := fun _ => HV) .undef (fun v => v) (Tr.getP p a)
inductive Bx (α : Type) where
  | mk (f : α)
def Bx.run {α : Type} (b : Bx α) : α := Bx.rec (motive := fun _ => α) (fun f => f) b
def Bx.then {α β : Type} (b : Bx α) (g : α → Bx β) : Bx β := Bx.rec (motive := fun _ => Bx β) g b
def Pa.then {β : Type} (p : Pa) (g : Pa → Bx β) : Bx β := Pa.rec (motive := fun _ => Bx β) (g .z) (fun q _ => g (.a q)) (fun q _ => g (.b q)) (fun q _ => g (.c q)) (fun q _ => g (.d q)) p
def evK (x : Lo) : Bx (Tr HV → HV) :=
  match x with
  | .t n => .mk (Pa.tmp (pa n))
  | .c v => .mk (fun _ => v)
def evL (x : Lo) (a : Tr HV) : HV := (evK x).run a
def slowK (lp : Nat → Option zr) (nt : Nat) (o : LOp) : Ko := fun fl a h nx k =>
  match opH lp (exec lp 0) fl o ⟨nt, a, []⟩ ⟨h, nx⟩ with
  | some (v, σ) => k v σ.h σ.nx
  | none => none
def viaK (lp : Nat → Option zr) (fn : Nat → Bx Kf) (t : Nat) (name : String) (g : Nat) (args : List HV) : Nat → Tr HBlk → Nat → Kv → Option (HV × HS) := fun fl h nx k =>
  match viaOf lp g t name, args with
  | some off, .ptr (some (b, o)) :: rest => (fn g).run fl (.ptr (some (b, Nat.add o off)) :: rest) h nx k
  | _, _ => none
def callK (lp : Nat → Option zr) (fn : Nat → Bx Kf) (ro : Nat → Nat → List HV → Tr HBlk → Nat → Kv → Option (HV × HS)) (f : Tr HV → HV) (xs : List Lo) : Ko := fun fl a h nx k =>
  match f a with
  | .func g first captured => (fn g).run fl (first ++ xs.map (fun x => evL x a) ++ captured) h nx k
  | .yield l => ro fl l (xs.map fun x => evL x a) h nx k
  | .via t name g => viaK lp fn t name g (xs.map fun x => evL x a) fl h nx k
  | _ => none
def binK (g : IntKind → Int → Int → Option HV) (x y : HV) (h : Tr HBlk) (nx : Nat) (k : Kv) : Option (HV × HS) :=
  match x, y with
  | .int k1 m, .int k2 n => bif sameK k1 k2 then (match g k1 m n with | some v => k v h nx | none => none) else none
  | _, _ => none
def addrK (off : Nat) (x : HV) (h : Tr HBlk) (nx : Nat) (k : Kv) : Option (HV × HS) :=
  match x with
  | .ptr (some (b, o)) => k (.ptr (some (b, Nat.add o off))) h nx
  | _ => none
def idxK (len size : Nat) (x i : HV) (h : Tr HBlk) (nx : Nat) (k : Kv) : Option (HV × HS) :=
  match x, i with
  | .ptr (some (b, o)), .int _ (.ofNat i) => bif Nat.blt i len then k (.ptr (some (b, Nat.add o (Nat.mul i size)))) h nx else none
  | _, _ => none
def nilK (x : HV) (h : Tr HBlk) (nx : Nat) (k : Kv) : Option (HV × HS) :=
  match x with
  | .ptr (some p) => k (.ptr (some p)) h nx
  | .func f first captured => k (.func f first captured) h nx
  | _ => none
def nthK (i : Nat) : List HV → Option HV :=
  Nat.rec (motive := fun _ => List HV → Option HV) (fun l => List.rec (motive := fun _ => Option HV) none (fun v _ _ => some v) l) (fun _ ih l => List.rec (motive := fun _ => Option HV) none (fun _ t _ => ih t) l) i
def setR (i : Nat) (v : HV) : List HV → List HV :=
  Nat.rec (motive := fun _ => List HV → List HV) (fun l => List.rec (motive := fun _ => List HV) [] (fun _ t _ => v :: t) l) (fun _ ih l => List.rec (motive := fun _ => List HV) [] (fun x t _ => x :: ih t) l) i
def loadK (x : HV) (h : Tr HBlk) (nx : Nat) (k : Kv) : Option (HV × HS) :=
  match x with
  | .ptr (some (b, o)) =>
    match h.get b with
    | some (.cells cs _) =>
      match nthK o cs with
      | some v => k v h nx
      | none => none
    | _ => none
  | _ => none
def wrOk : BK → Bool
  | .ro => false
  | _ => true
def storeK (fl : Nat) (x v : HV) (h : Tr HBlk) (nx : Nat) (k : Kv) : Option (HV × HS) :=
  match x with
  | .ptr (some (b, o)) =>
    match h.get b with
    | some (.cells cs bk) =>
      bif Nat.ble fl b && v.one && wrOk bk then
        match nthK o cs with
        | some _ => k .undef (h.set b (some (.cells (setR o v cs) bk))) nx
        | none => none
      else none
    | _ => none
  | _ => none
def compOp (lp : Nat → Option zr) (fn : Nat → Bx Kf) (ro : Nat → Nat → List HV → Tr HBlk → Nat → Kv → Option (HV × HS)) (nt : Nat) (o : LOp) : Bx Ko :=
  match o with
  | .move x => (evK x).then fun e => .mk fun _ a h nx k => k (e a) h nx
  | .bin op x y => (evK x).then fun e => (evK y).then fun f => .mk fun _ a h nx k => binK (bif isShift op then shiftH op else intFast op) (e a) (f a) h nx k
  | .fieldAddr off x => (evK x).then fun e => .mk fun _ a h nx k => addrK off (e a) h nx k
  | .indexAddrA len size x i => (evK x).then fun e => (evK i).then fun f => .mk fun _ a h nx k => idxK len size (e a) (f a) h nx k
  | .nilCheck x => (evK x).then fun e => .mk fun _ a h nx k => nilK (e a) h nx k
  | .load false 1 x => (evK x).then fun e => .mk fun _ a h nx k => loadK (e a) h nx k
  | .store 1 x v => (evK x).then fun e => (evK v).then fun f => .mk fun fl a h nx k => bif (f a).one then storeK fl (e a) (f a) h nx k else slowK lp nt (.store 1 x v) fl a h nx k
  | .call f xs => (evK f).then fun e => .mk (callK lp fn ro e xs)
  | o => .mk (slowK lp nt o)
def putK (nt : Nat) (dst : Option Nat) : Bx (Tr HV → HV → Tr HV) :=
  match dst with
  | none => .mk fun a _ => a
  | some d => bif Nat.blt d nt then (pa d).then fun p => .mk (fun a v => Tr.setP (some v) p a) else .mk fun a _ => a
def isB (want : Bool) : HV → Bool
  | .bool b => b == want
  | _ => false
def guardK (g : Option (Nat × Bool)) (o : Bx Ko) : Bx Ko :=
  match g with
  | none => o
  | some (t, want) => (evK (.t t)).then fun e => o.then fun o => .mk fun fl a h nx k =>
      bif isB want (e a) then o fl a h nx k else k .undef h nx
def compOps (op : LOp → Bx Ko) (nt : Nat) : List zo → Bx (Nat → Kt → Kt)
  | [] => .mk fun _ k => k
  | o :: os => (guardK o.g (op o.op)).then fun f => (putK nt o.dst).then fun p => (compOps op nt os).then fun r => .mk fun fl k a ds h nx => f fl a h nx fun v h nx => r fl k (p a v) ds h nx
def drawK (op : LOp → Bx Ko) (nt s : Nat) : List zo → Bx (Nat → Nat → Nat → Tr HBlk → List (Nat × List (Nat × HBlk)) → Kt → Tr HV → List Nat → Nat → Option (HV × HS))
  | [] => .mk fun _ _ _ h0 done k a ds nx => k a ds (merge h0 none done) nx
  | o :: os => (guardK o.g (op o.op)).then fun f => (putK nt o.dst).then fun p => (drawK op nt s os).then fun r => (compOps op nt (o :: os)).then fun q => .mk fun fl n0 i h0 done k a ds nx =>
      bif Nat.blt i s then
        bif o.anc.contains i then
          f n0 a (merge h0 (some o.anc) done) nx fun v h nx' => bif Nat.ble nx nx' then r fl n0 (Nat.succ i) h0 ((i, newFrom h n0 (Nat.sub nx' n0)) :: dropAll o.anc done) k (p a v) ds nx' else none
        else
          f nx a (merge h0 (some o.anc) done) nx fun v h nx' => bif Nat.ble nx nx' then r fl n0 (Nat.succ i) h0 (bif Nat.beq nx nx' then done else (i, newFrom h nx (Nat.sub nx' nx)) :: done) k (p a v) ds nx' else none
      else q fl k a ds (merge h0 none done) nx
def loopK (b : Option HBlk) (k : LState → HExit → Nat → Tr HV → List Nat → zj → zj → Nat → Option (HV × HS)) : Option (HV × HS) :=
  match b with
  | some (.loop ⟨st, pe, nt, tm, ps, asg, bo, mk⟩) => k st pe nt tm ps asg bo mk
  | _ => none
def marksK (rd : Option Nat) (h : Tr HBlk) (nx : Nat) (k : Nat → List Nat → Tr HBlk → Nat → Option (HV × HS)) : Option (HV × HS) :=
  match rd with
  | none => k nx [nx] (h.set nx (some .marks)) (Nat.succ nx)
  | some l => loopK (h.get l) fun _ _ _ _ _ _ _ mk => k mk [] h nx
def notBusy : LState → Bool
  | .busy => false
  | _ => true
def isReady : LState → Bool
  | .ready => true
  | _ => false
def jumpK (e : HExit) (kn : Kt) (kx : Nat → Kt) (kr : Kt) : Kt :=
  match e with
  | .normal => kn
  | .exit i => kx i
  | .ret => kr
def rangeK (fn : Nat → Bx Kf) (nt : Nat) (e : Tr HV → HV) (ps : List Nat) (assign body : zj) : Kc := fun fl rd kn kx kr a ds h nx =>
  match e a with
  | .func g first captured =>
    marksK rd h nx fun mk ms h1 n1 =>
      (fn g).run fl (first ++ [.yield n1] ++ captured) (h1.set n1 (some (.loop ⟨.ready, .normal, nt, a, ps, assign, body, mk⟩))) (Nat.succ n1) fun _ h3 n3 =>
        loopK (h3.get n1) fun st pe nt' tm ps' asg bo mk' =>
          bif notBusy st && Nat.ble fl n1 then jumpK pe kn kx kr a (ms ++ ds) (h3.set n1 (some (.loop ⟨.exhausted, pe, nt', tm, ps', asg, bo, mk'⟩))) n3 else none
  | _ => none
def endK (l : Nat) (e : HExit) (k : Kv) (h : Tr HBlk) (nx : Nat) : Option (HV × HS) :=
  loopK (h.get l) fun _ _ nt tm ps asg bo mk =>
    match e with
    | .normal => k (.bool true) (h.set l (some (.loop ⟨.ready, .normal, nt, tm, ps, asg, bo, mk⟩))) nx
    | e => k (.bool false) (h.set l (some (.loop ⟨.done, e, nt, tm, ps, asg, bo, mk⟩))) nx
def roundK (co : Nat → zj → Bx Kc) : Nat → Nat → List HV → Tr HBlk → Nat → Kv → Option (HV × HS) := fun fl l args h nx k =>
  loopK (h.get l) fun _ _ nt tm ps asg bo _ =>
    match zipPut nt tm ps args with
    | some tm1 =>
      (co nt asg).run fl (some l)
        (fun a1 ds1 h1 n1 => loopK (h1.get l) fun st pe nt' tm' ps' asg' bo' mk' =>
          bif isReady st && Nat.ble fl l then
            (co nt bo).run fl (some l) (fun _ _ => endK l .normal k) (fun i _ _ => endK l (.exit i) k) (fun _ _ => endK l .ret k) a1 ds1 (h1.set l (some (.loop ⟨.busy, pe, nt', tm', ps', asg', bo', mk'⟩))) n1
          else none)
        (fun _ _ _ _ _ => none) (fun _ _ _ _ => none) tm1 [] h nx
    | none => none
def comp (op : LOp → Bx Ko) (fn : Nat → Bx Kf) (nt : Nat) : zj → Bx Kc
  | .skip => .mk fun _ _ kn _ _ => kn
  | .seq x y => (comp op fn nt x).then fun f => (comp op fn nt y).then fun g => .mk fun fl rd kn kx kr => f fl rd (g fl rd kn kx kr) kx kr
  | .cond c x y => (evK c).then fun e => (comp op fn nt x).then fun f => (comp op fn nt y).then fun g => .mk fun fl rd kn kx kr a ds h nx =>
      match e a with
      | .bool b => bif b then f fl rd kn kx kr a ds h nx else g fl rd kn kx kr a ds h nx
      | _ => none
  | .block id x => (comp op fn nt x).then fun f => .mk fun fl rd kn kx kr => f fl rd kn (fun i => bif Nat.beq i id then kn else kx i) kr
  | .loop x => (comp op fn nt x).then fun f => .mk fun fl rd _ kx kr => Nat.rec (motive := fun _ => Kt) (fun _ _ _ _ => none) (fun _ ih => f fl rd ih kx kr) 1000000
  | .scope x => comp op fn nt x
  | .exit id => .mk fun _ _ _ kx _ => kx id
  | .ret => .mk fun _ _ _ _ kr => kr
  | .reg ops => (compOps op nt ops).then fun f => .mk fun fl _ kn _ _ => f fl kn
  | .draw s ops => (drawK op nt s ops).then fun f => .mk fun fl _ kn _ _ a ds h nx => bif Nat.ble fl nx then f fl nx 0 h [] kn a ds nx else none
  | .rangeFunc f ps assign body => (evK f).then fun e => .mk (rangeK fn nt e ps assign body)
  | .bad => .mk fun _ _ _ _ _ _ _ _ _ => none
def leaveK (fl : Nat) (nt : Nat) (res : List LRes) (k : Kv) : Kt := fun a ds h nx =>
  match leaveH fl ⟨nt, a, ds⟩ res ⟨h, nx⟩ with
  | some (v, σ) => k v σ.h σ.nx
  | none => none
abbrev Kr := Nat → Nat → List HV → Tr HBlk → Nat → Kv → Option (HV × HS)
def gcK (h : Tr HBlk) (nx : Nat) (k : Kv) : Kv := fun v h' nx' => k v (keepD h' nx 5 [v] h) nx'
def specK (g : List HV → HS → Option (HV × HS)) : Kf := fun _ args h nx k =>
  match g args ⟨h, nx⟩ with
  | some (v, σ) => bif Nat.ble nx σ.nx then k v σ.h σ.nx else none
  | none => none
def enterK (lf : zr) (body : Kc) : Bx Kf :=
  bif lf.imp then .mk fun fl args h nx k => bif Nat.ble args.length lf.nt then body fl none (leaveK fl lf.nt lf.res k) (fun _ _ _ _ _ => none) (leaveK fl lf.nt lf.res k) (putAll .e 0 args) [] h nx else none
  else .mk fun _ args h nx k => bif Nat.ble args.length lf.nt then body nx none (leaveK nx lf.nt lf.res (gcK h nx k)) (fun _ _ _ _ _ => none) (leaveK nx lf.nt lf.res (gcK h nx k)) (putAll .e 0 args) [] h nx else none
def bothK (lp : Nat → Option zr) : Nat → (Nat → Bx Kf) × Kr
  | 0 => (fun _ => .mk fun _ _ _ _ _ => none, fun _ _ _ _ _ _ => none)
  | n + 1 =>
    (fun f =>
      match lp f with
      | none => .mk fun _ _ _ _ _ => none
      | some lf =>
        match lf.spec with
        | some g => .mk (specK g)
        | none => (comp (compOp lp (bothK lp n).1 (bothK lp n).2 lf.nt) (bothK lp n).1 lf.nt lf.body).then (enterK lf),
     roundK fun nt c => comp (compOp lp (bothK lp n).1 (bothK lp n).2 nt) (bothK lp n).1 nt c)
def fnK (lp : Nat → Option zr) (n : Nat) : Nat → Bx Kf := (bothK lp n).1
end
end Go.Hx

namespace Go.Hx
variable {lp : Nat → Option zr} {nt : Nat}
theorem yD {α : Type} (f : α) : (Bx.mk f).run = f := rfl
theorem ya {α β : Type} (b : Bx α) (g : α → Bx β) : b.then g = g b.run := by cases b; rfl
theorem pa_then {β : Type} (p : Pa) (g : Pa → Bx β) : p.then g = g p := by cases p <;> rfl
theorem tmp_eq (a : Tr HV) (ds : List Nat) (n : Nat) : (pa n).tmp a = (⟨nt, a, ds⟩ : HAct).tmp n := by
 show Option.rec (motive := fun _ => HV) HV.undef (fun v => v) (a.get n) = (a.get n).getD .undef
 cases a.get n <;> rfl
theorem zL (x : Lo) (a : Tr HV) (ds : List Nat) : (evK x).run a = (⟨nt, a, ds⟩ : HAct).ev x := by
 cases x with
 | t n => exact tmp_eq a ds n
 | c v => rfl
theorem evs_eq (xs : List Lo) (a : Tr HV) (ds : List Nat) : (xs.map fun x => evL x a) = xs.map (⟨nt, a, ds⟩ : HAct).ev := by
 apply List.map_congr_left
 intro x _
 exact zL x a ds
def KoOk (lp : Nat → Option zr) (nt : Nat) (G : Ko) (o : LOp) : Prop := ∀ fl a ds h nx (k : Kv) r, G fl a h nx k = some r → ∃ n v σ', opH lp (exec lp n) fl o ⟨nt, a, ds⟩ ⟨h, nx⟩ = some (v, σ') ∧ k v σ'.h σ'.nx = some r
def KosOk (lp : Nat → Option zr) (nt : Nat) (G : Nat → Kt → Kt) (os : List zo) : Prop := ∀ fl (k : Kt) a ds h nx r, G fl k a ds h nx = some r → ∃ n a' σ', runOps lp (exec lp n) fl os ⟨nt, a, ds⟩ ⟨h, nx⟩ = some (a', σ') ∧ a'.nt = nt ∧ k a'.tmps a'.defers σ'.h σ'.nx = some r
def contK (e : HExit) (kn : Kt) (kx : Nat → Kt) (kr : Kt) (a : HAct) (σ : HS) : Option (HV × HS) :=
 match e with
 | .normal => kn a.tmps a.defers σ.h σ.nx
 | .exit i => kx i a.tmps a.defers σ.h σ.nx
 | .ret => kr a.tmps a.defers σ.h σ.nx
def KcOk (lp : Nat → Option zr) (nt : Nat) (F : Kc) (c : zj) : Prop := ∀ fl rd kn kx kr a ds h nx r, F fl rd kn kx kr a ds h nx = some r → ∃ n e a' σ', exec lp n fl rd c ⟨nt, a, ds⟩ ⟨h, nx⟩ = some (e, a', σ') ∧ a'.nt = nt ∧ contK e kn kx kr a' σ' = some r
def KfOk (lp : Nat → Option zr) (F : Kf) (f : Nat) : Prop := ∀ fl args h nx (k : Kv) r, F fl args h nx k = some r → ∃ n v σ', callF lp (exec lp n) fl f args ⟨h, nx⟩ = some (v, σ') ∧ k v σ'.h σ'.nx = some r
def KrOk (lp : Nat → Option zr) (ro : Kr) : Prop := ∀ fl l args h nx (k : Kv) r, ro fl l args h nx k = some r → ∃ n v σ', roundH (exec lp n) fl l args ⟨h, nx⟩ = some (v, σ') ∧ k v σ'.h σ'.nx = some r
theorem slow_ok (o : LOp) : KoOk lp nt (slowK lp nt o) o := by
 intro fl a ds h nx k r hr
 unfold slowK at hr
 rw [Xt (a := ⟨nt, a, []⟩) (b := ⟨nt, a, ds⟩) ⟨h, nx⟩ (fun _ _ => rfl)] at hr
 split at hr
 ·rename_i v σ' ho; exact ⟨0, v, σ', ho, hr⟩
 ·cases hr
theorem call_ok {fn : Nat → Bx Kf} {ro : Kr} (hfn : ∀ f, KfOk lp (fn f).run f) (hro : KrOk lp ro) (f : Lo) (xs : List Lo) : KoOk lp nt (callK lp fn ro (evK f).run xs) (.call f xs) := by
 intro fl a ds h nx k r hr
 unfold callK at hr
 rw [zL (nt := nt) f a ds, evs_eq (nt := nt) xs a ds] at hr
 split at hr
 ·rename_i g first captured hf
  obtain ⟨n, v, σ', h1, h2⟩ := hfn g _ _ _ _ _ _ hr
  refine ⟨n, v, σ', ?_, h2⟩
  show callH lp _ fl _ _ _ = _
  unfold callH
  rw [hf]
  exact h1
 ·rename_i l hf
  obtain ⟨n, v, σ', h1, h2⟩ := hro _ _ _ _ _ _ _ hr
  refine ⟨n, v, σ', ?_, h2⟩
  show callH lp _ fl _ _ _ = _
  unfold callH
  rw [hf]
  exact h1
 ·rename_i t name g hf
  unfold viaK at hr
  split at hr
  ·rename_i off b o rest e1 e2
   obtain ⟨n, v, σ', h1, h2⟩ := hfn g _ _ _ _ _ _ hr
   refine ⟨n, v, σ', ?_, h2⟩
   show callH lp _ fl _ _ _ = _
   unfold callH
   rw [hf]
   show callV lp _ fl t name g _ _ = _
   unfold callV
   rw [e1, e2]
   exact h1
  ·cases hr
 ·cases hr
theorem Yc : ∀ (i : Nat) (l : List HV), nthK i l = l[i]?
 | 0, [] => rfl
 | 0, v :: l => rfl
 | i + 1, [] => rfl
 | i + 1, v :: l => (Yc i l).trans (by simp)
theorem XY (v : HV) : ∀ (i : Nat) (l : List HV), i < l.length → overwrite l i [v] = some (setR i v l)
 | _, [], h => by simp at h
 | 0, x :: l, _ => by cases l <;> rfl
 | i + 1, x :: l, h => by
  unfold overwrite
  rw [XY v i l (by simpa using h)]
  rfl
theorem op_ok {fn : Nat → Bx Kf} {ro : Kr} (hfn : ∀ f, KfOk lp (fn f).run f) (hro : KrOk lp ro) (o : LOp) : KoOk lp nt (compOp lp fn ro nt o).run o := by
 have slow := slow_ok (lp := lp) (nt := nt) o
 unfold compOp
 split
 case h_1 x =>
  rw [ya, yD]
  intro fl a ds h nx k r hr
  dsimp only at hr
  rw [zL (nt := nt) x a ds] at hr
  exact ⟨0, _, ⟨h, nx⟩, rfl, hr⟩
 case h_2 op x y =>
  rw [ya, ya, yD]
  intro fl a ds h nx k r hr
  dsimp only at hr
  rw [zL (nt := nt) x a ds, zL (nt := nt) y a ds] at hr
  unfold binK at hr
  split at hr
  ·rename_i k1 m k2 n e1 e2
   cases hk : sameK k1 k2 with
   | false => rw [hk] at hr; cases hr
   | true =>
    rw [hk] at hr
    simp only [cond_true] at hr
    split at hr
    ·rename_i v e3
     refine ⟨0, v, ⟨h, nx⟩, ?_, hr⟩
     show keep _ (binH op _ _) = _
     rw [e1, e2]
     unfold binH
     dsimp only
     cases hsh : isShift op with
     | true => rw [hsh] at e3; simp only [cond_true] at e3 ⊢; rw [e3]; rfl
     | false => rw [hsh] at e3; simp only [cond_false] at e3 ⊢; rw [hk, e3]; rfl
    ·cases hr
  ·cases hr
 case h_3 off x =>
  rw [ya, yD]
  intro fl a ds h nx k r hr
  dsimp only at hr
  rw [zL (nt := nt) x a ds] at hr
  unfold addrK at hr
  split at hr
  ·rename_i b o e1
   refine ⟨0, _, ⟨h, nx⟩, ?_, hr⟩
   show oFieldAddr off x _ _ = _
   unfold oFieldAddr
   rw [e1]
  ·cases hr
 case h_4 len size x i =>
  rw [ya, ya, yD]
  intro fl a ds h nx k r hr
  dsimp only at hr
  rw [zL (nt := nt) x a ds, zL (nt := nt) i a ds] at hr
  unfold idxK at hr
  split at hr
  ·rename_i b o kk j e1 e2
   cases hb : Nat.blt j len with
   | false => rw [hb] at hr; cases hr
   | true =>
    rw [hb] at hr
    refine ⟨0, _, ⟨h, nx⟩, ?_, hr⟩
    show oIndexAddrA len size x i _ _ = _
    unfold oIndexAddrA
    rw [e1, e2]
    simp only [natOf, stepTo, hb, cond_true]
  ·cases hr
 case h_5 x =>
  rw [ya, yD]
  intro fl a ds h nx k r hr
  dsimp only at hr
  rw [zL (nt := nt) x a ds] at hr
  unfold nilK at hr
  split at hr
  ·rename_i p e1
   refine ⟨0, _, ⟨h, nx⟩, ?_, hr⟩
   show oNilCheck x _ _ = _
   unfold oNilCheck
   rw [e1]
  ·rename_i f first captured e1
   refine ⟨0, _, ⟨h, nx⟩, ?_, hr⟩
   show oNilCheck x _ _ = _
   unfold oNilCheck
   rw [e1]
  ·cases hr
 case h_6 x =>
  rw [ya, yD]
  intro fl a ds h nx k r hr
  dsimp only at hr
  rw [zL (nt := nt) x a ds] at hr
  unfold loadK at hr
  split at hr
  ·rename_i b o e1
   split at hr
   ·rename_i cs bk e2
    rw [Yc] at hr
    split at hr
    ·rename_i v e3
     refine ⟨0, v, ⟨h, nx⟩, ?_, hr⟩
     show oLoad false 1 x _ _ = _
     unfold oLoad
     rw [e1]
     have hc : (⟨h, nx⟩ : HS).cells b = some cs := by unfold HS.cells; rw [e2]
     have hr2 : (⟨h, nx⟩ : HS).read (b, o) 1 = some [v] := by
      unfold HS.read
      simp only [hc, Option.bind_eq_bind, Option.bind_some]
      have hlt : o < cs.length := by
       rcases Nat.lt_or_ge o cs.length with h | h
       ·exact h
       ·rw [List.getElem?_eq_none h] at e3; cases e3
      rw [List.drop_eq_getElem_cons hlt]
      rw [List.getElem?_eq_getElem hlt] at e3
      cases e3
      simp [takeN]
     simp only [hr2, whole, keep]
    ·cases hr
   ·cases hr
  ·cases hr
 case h_7 x y =>
  rw [ya, ya, yD]
  intro fl a ds h nx k r hr
  dsimp only at hr
  rw [zL (nt := nt) x a ds, zL (nt := nt) y a ds] at hr
  revert hr
  cases h1 : ((⟨nt, a, ds⟩ : HAct).ev y).one with
  | false => exact fun hr => slow fl a ds h nx k r hr
  | true =>
  intro hr
  simp only [cond_true] at hr
  unfold storeK at hr
  split at hr
  ·rename_i b o e1
   split at hr
   ·rename_i cs bk e2
    revert hr
    cases hc : (Nat.ble fl b && ((⟨nt, a, ds⟩ : HAct).ev y).one && wrOk bk) with
    | false => intro hr; cases hr
    | true =>
     intro hr
     simp only [cond_true] at hr
     simp only [Bool.and_eq_true] at hc
     obtain ⟨⟨c1, c2⟩, c3⟩ := hc
     rw [Yc] at hr
     split at hr
     ·rename_i u e3
      have hlt : o < cs.length := by
       rcases Nat.lt_or_ge o cs.length with h | h
       ·exact h
       ·rw [List.getElem?_eq_none h] at e3; cases e3
      refine ⟨0, .undef, ⟨h.set b (some (.cells (setR o ((⟨nt, a, ds⟩ : HAct).ev y) cs) bk)), nx⟩, ?_, hr⟩
      have hcells : ((⟨nt, a, ds⟩ : HAct).ev y).cells = [(⟨nt, a, ds⟩ : HAct).ev y] := by
       generalize (⟨nt, a, ds⟩ : HAct).ev y = v at c2
       cases v <;> first | rfl | cases c2
      show oStore fl 1 x y _ _ = _
      unfold oStore
      rw [e1, hcells]
      have hw : (⟨h, nx⟩ : HS).write fl (b, o) [(⟨nt, a, ds⟩ : HAct).ev y] = some ⟨h.set b (some (.cells (setR o ((⟨nt, a, ds⟩ : HAct).ev y) cs) bk)), nx⟩ := by
       unfold HS.write
       simp only [e2]
       cases bk with
       | ro => cases c3
       | exact => simp only [c1, List.all_cons, c2, List.all_nil, Bool.and_true, cond_true, XY _ _ _ hlt, Option.map_some]; rfl
       | opn z => simp only [c1, List.all_cons, c2, List.all_nil, Bool.and_true, cond_true, XY _ _ _ hlt, Option.map_some]; rfl
      simp only [hw]
      rfl
     ·cases hr
   ·cases hr
  ·cases hr
 case h_8 f xs =>
  rw [ya, yD]
  exact call_ok hfn hro f xs
 case h_9 => exact slow
theorem guard_k {G : Bx Ko} {o : zo} (h : KoOk lp nt G.run o.op) : ∀ fl a ds hp nx (k : Kv) r, (guardK o.g G).run fl a hp nx k = some r →
  ∃ n v σ', (bif wantedH o.g ⟨nt, a, ds⟩ then opH lp (exec lp n) fl o.op ⟨nt, a, ds⟩ ⟨hp, nx⟩ else some (.undef, ⟨hp, nx⟩)) = some (v, σ') ∧ k v σ'.h σ'.nx = some r := by
 intro fl a ds hp nx k r hr
 unfold guardK at hr
 split at hr
 ·rename_i hg
  obtain ⟨n, v, σ', h1, h2⟩ := h fl a ds hp nx k r hr
  refine ⟨n, v, σ', ?_, h2⟩
  rw [hg]
  exact h1
 ·rename_i t want hg
  rw [ya, ya, yD] at hr
  rw [zL (nt := nt) (.t t) a ds] at hr
  have hw : wantedH o.g ⟨nt, a, ds⟩ = isB want ((⟨nt, a, ds⟩ : HAct).ev (.t t)) := by
   rw [hg]
   unfold wantedH isB
   dsimp only [HAct.ev]
   generalize (⟨nt, a, ds⟩ : HAct).tmp t = x
   cases x <;> rfl
  rw [hw]
  cases hb : isB want ((⟨nt, a, ds⟩ : HAct).ev (.t t)) with
  | true =>
   rw [hb] at hr
   exact h fl a ds hp nx k r hr
  | false =>
   rw [hb] at hr
   exact ⟨0, .undef, ⟨hp, nx⟩, rfl, hr⟩
theorem put_k (dst : Option Nat) (a : Tr HV) (ds : List Nat) (v : HV) : (⟨nt, a, ds⟩ : HAct).put dst v = ⟨nt, (putK nt dst).run a v, ds⟩ := by
 unfold HAct.put putK
 cases dst with
 | none => rfl
 | some d =>
  dsimp only
  cases Nat.blt d nt with
  | false => rfl
  | true => rw [cond_true, cond_true, pa_then]; rfl
theorem XV {G : Bx Ko} {o : zo} (h : KoOk lp nt G.run o.op) : ∀ fl a ds hp nx (k : Kv) r, (guardK o.g G).run fl a hp nx k = some r →
  ∃ n v σ', stepOp lp (exec lp n) fl o ⟨nt, a, ds⟩ ⟨hp, nx⟩ = some (⟨nt, (putK nt o.dst).run a v, ds⟩, σ') ∧ k v σ'.h σ'.nx = some r := by
 intro fl a ds hp nx k r hr
 obtain ⟨n, v, σ', h1, h2⟩ := guard_k h fl a ds hp nx k r hr
 refine ⟨n, v, σ', ?_, h2⟩
 unfold stepOp
 cases hw : wantedH o.g ⟨nt, a, ds⟩ with
 | true => rw [hw] at h1; simp only [cond_true] at h1 ⊢; rw [h1]; simp only [put_k]
 | false =>
  rw [hw] at h1
  cases h1
  simp only [cond_false, put_k]
theorem ops_k {op : LOp → Bx Ko} (hop : ∀ o, KoOk lp nt (op o).run o) : ∀ os, KosOk lp nt (compOps op nt os).run os
 | [] => fun fl k a ds h nx r hr => ⟨0, _, _, rfl, rfl, hr⟩
 | o :: os => by
  intro fl k a ds h nx r hr
  unfold compOps at hr
  rw [ya, ya, ya, yD] at hr
  obtain ⟨n, v, σ1, h1, h2⟩ := XV (hop o.op) fl a ds h nx _ r hr
  obtain ⟨m, a', σ', h3, h4, h5⟩ := ops_k hop os fl k _ ds _ _ r h2
  refine ⟨max n m, a', σ', ?_, h4, h5⟩
  unfold runOps
  rw [yC (z7 (Nat.le_max_left n m)) h1]
  exact yL (z7 (Nat.le_max_right n m)) h3
theorem Yn {op : LOp → Bx Ko} (hop : ∀ o, KoOk lp nt (op o).run o) {s : Nat} : ∀ os fl n0 i h0 done (k : Kt) a ds nx r, fl ≤ n0 → n0 ≤ nx → (drawK op nt s os).run fl n0 i h0 done k a ds nx = some r →
  ∃ n a' σ', drawOps lp (exec lp n) fl s n0 h0 os i done ⟨nt, a, ds⟩ nx = some (a', σ') ∧ a'.nt = nt ∧ k a'.tmps a'.defers σ'.h σ'.nx = some r
 | [], fl, n0, i, h0, done, k, a, ds, nx, r, _, _, hr => ⟨0, _, _, rfl, rfl, hr⟩
 | o :: os, fl, n0, i, h0, done, k, a, ds, nx, r, hfl, hn0, hr => by
  unfold drawK at hr
  rw [ya, ya, ya, ya, yD] at hr
  cases hc : Nat.blt i s with
  | false =>
   rw [hc] at hr
   obtain ⟨n, a', σ', h1, h2, h3⟩ := ops_k hop (o :: os) fl k a ds _ nx r hr
   refine ⟨n, a', σ', ?_, h2, h3⟩
   unfold drawOps
   rw [hc]
   exact h1
  | true =>
   rw [hc] at hr
   simp only [cond_true] at hr
   cases hw : o.anc.contains i with
   | true =>
    rw [hw] at hr
    simp only [cond_true] at hr
    obtain ⟨n, v, σ1, h1, h2⟩ := XV (hop o.op) n0 a ds _ nx _ r hr
    revert h2
    cases hb : Nat.ble nx σ1.nx with
    | false => intro h2; cases h2
    | true =>
     intro h2
     simp only [cond_true] at h2
     have hle := Nat.le_of_ble_eq_true hb
     obtain ⟨m, a', σ', h3, h4, h5⟩ := Yn hop os fl n0 (Nat.succ i) h0 _ k _ ds _ r hfl (Nat.le_trans hn0 hle) h2
     refine ⟨max n m, a', σ', ?_, h4, h5⟩
     have hmx : Nat.max fl n0 = n0 := Nat.max_eq_right hfl
     unfold drawOps
     rw [hc, hw]
     simp only [cond_true, hmx]
     rw [yC (z7 (Nat.le_max_left n m)) h1]
     simp only [hb, Bool.not_true, cond_false]
     exact yB (z7 (Nat.le_max_right n m)) h3
   | false =>
    rw [hw] at hr
    simp only [cond_false] at hr
    obtain ⟨n, v, σ1, h1, h2⟩ := XV (hop o.op) nx a ds _ nx _ r hr
    revert h2
    cases hb : Nat.ble nx σ1.nx with
    | false => intro h2; cases h2
    | true =>
     intro h2
     simp only [cond_true] at h2
     have hle := Nat.le_of_ble_eq_true hb
     obtain ⟨m, a', σ', h3, h4, h5⟩ := Yn hop os fl n0 (Nat.succ i) h0 _ k _ ds _ r hfl (Nat.le_trans hn0 hle) h2
     refine ⟨max n m, a', σ', ?_, h4, h5⟩
     have hmx : Nat.max fl nx = nx := Nat.max_eq_right (by omega)
     unfold drawOps
     rw [hc, hw]
     simp only [cond_true, cond_false, hmx]
     rw [yC (z7 (Nat.le_max_left n m)) h1]
     simp only [hb, Bool.not_true, cond_false]
     exact yB (z7 (Nat.le_max_right n m)) h3
theorem Yz {n : Nat} {fl : Nat} {rd : Option Nat} {x y : zj} {a a1 : HAct} {σ σ1 : HS} {q : HExit × HAct × HS} {m : Nat} (h1 : exec lp n fl rd x a σ = some (.normal, a1, σ1)) (h2 : exec lp m fl rd y a1 σ1 = some q) : xSeq (exec lp (max n m)) fl rd x y a σ = some q := by
 unfold xSeq
 rw [z7 (Nat.le_max_left n m) _ _ _ _ _ _ h1]
 exact z7 (Nat.le_max_right n m) _ _ _ _ _ _ h2
theorem jW {b : Option HBlk} {k : LState → HExit → Nat → Tr HV → List Nat → zj → zj → Nat → Option (HV × HS)} {r : HV × HS} (hr : loopK b k = some r) : ∃ q : HLoop, b = some (.loop q) ∧ k q.state q.pending q.nt q.tmps q.params q.assign q.body q.marks = some r := by
 unfold loopK at hr
 split at hr
 ·exact ⟨_, rfl, hr⟩
 ·cases hr
theorem marks_k {rd : Option Nat} {h : Tr HBlk} {nx : Nat} {k : Nat → List Nat → Tr HBlk → Nat → Option (HV × HS)} {r : HV × HS} (hr : marksK rd h nx k = some r) : ∃ mk ms h1 n1, marksOf rd ⟨h, nx⟩ = some (mk, ms, ⟨h1, n1⟩) ∧ k mk ms h1 n1 = some r := by
 unfold marksK at hr
 cases rd with
 | none => exact ⟨_, _, _, _, rfl, hr⟩
 | some l =>
  obtain ⟨q, hq, hk⟩ := jW hr
  refine ⟨_, _, _, _, ?_, hk⟩
  unfold marksOf
  simp only [hq]
theorem jump_k (e : HExit) (kn : Kt) (kx : Nat → Kt) (kr : Kt) (a : HAct) (σ : HS) : jumpK e kn kx kr a.tmps a.defers σ.h σ.nx = contK e kn kx kr a σ := by cases e <;> rfl
theorem range_k {fn : Nat → Bx Kf} (hfn : ∀ f, KfOk lp (fn f).run f) (f : Lo) (ps : List Nat) (assign body : zj) : KcOk lp nt (rangeK fn nt (evK f).run ps assign body) (.rangeFunc f ps assign body) := by
 intro fl rd kn kx kr a ds h nx r hr
 unfold rangeK at hr
 rw [zL (nt := nt) f a ds] at hr
 split at hr
 ·rename_i g first captured hf
  obtain ⟨mk, ms, h1, n1, hm, hr⟩ := marks_k hr
  obtain ⟨n, v, σ3, hc, hr⟩ := hfn g _ _ _ _ _ _ hr
  obtain ⟨q, hq, hr⟩ := jW hr
  revert hr
  cases hb : (notBusy q.state && Nat.ble fl n1) with
  | false => intro hr; cases hr
  | true =>
   intro hr
   simp only [cond_true] at hr
   simp only [Bool.and_eq_true] at hb
   refine ⟨n + 1, q.pending, ⟨nt, a, ms ++ ds⟩, σ3.upd n1 (some (.loop { q with state := .exhausted })), ?_, rfl, ?_⟩
   ·show xRange lp (exec lp n) fl rd f ps assign body _ _ = _
    unfold xRange
    rw [hf, hm]
    dsimp only
    have hc' : callF lp (exec lp n) fl g (first ++ [.yield n1] ++ captured) ((⟨h1, n1⟩ : HS).new (.loop ⟨.ready, .normal, nt, a, ps, assign, body, mk⟩)) = some (v, σ3) := hc
    rw [hc']
    dsimp only
    unfold endLoopH
    rw [hq]
    dsimp only
    have hnb := hb.1
    cases hst : q.state <;> rw [hst] at hnb <;> first | (exact absurd hnb (by decide)) | (dsimp only; rw [hb.2]; rfl)
   ·rw [← jump_k]; exact hr
 ·cases hr
theorem end_k {l : Nat} {e : HExit} {k : Kv} {h : Tr HBlk} {nx : Nat} {r : HV × HS} (hr : endK l e k h nx = some r) : ∃ v σ', endRoundH l e ⟨h, nx⟩ = some (v, σ') ∧ k v σ'.h σ'.nx = some r := by
 unfold endK at hr
 obtain ⟨q, hq, hr⟩ := jW hr
 cases e with
 | normal =>
  refine ⟨.bool true, (⟨h, nx⟩ : HS).upd l (some (.loop { q with state := .ready, pending := .normal })), ?_, hr⟩
  unfold endRoundH
  simp only [hq]
 | exit id =>
  refine ⟨.bool false, (⟨h, nx⟩ : HS).upd l (some (.loop { q with state := .done, pending := .exit id })), ?_, hr⟩
  unfold endRoundH
  simp only [hq]
 | ret =>
  refine ⟨.bool false, (⟨h, nx⟩ : HS).upd l (some (.loop { q with state := .done, pending := .ret })), ?_, hr⟩
  unfold endRoundH
  simp only [hq]
theorem round_k {co : Nat → zj → Bx Kc} (hco : ∀ nt c, KcOk lp nt (co nt c).run c) : KrOk lp (roundK co) := by
 intro fl l args h nx k r hr
 unfold roundK at hr
 obtain ⟨q, hq, hr⟩ := jW hr
 split at hr
 ·rename_i tm1 hz
  obtain ⟨n, e, a1, σ1, h1, h2, h3⟩ := hco _ _ _ _ _ _ _ _ _ _ _ _ hr
  cases e with
  | normal =>
   dsimp only [contK] at h3
   obtain ⟨q1, hq1, h3⟩ := jW h3
   revert h3
   cases hb : (isReady q1.state && Nat.ble fl l) with
   | false => intro h3; cases h3
   | true =>
    intro h3
    simp only [cond_true] at h3
    simp only [Bool.and_eq_true] at hb
    obtain ⟨m, e, a2, σ2, h4, h5, h6⟩ := hco _ _ _ _ _ _ _ _ _ _ _ _ h3
    have ea : (⟨q.nt, a1.tmps, a1.defers⟩ : HAct) = a1 := by rw [← h2]
    rw [ea] at h4
    have hbegin : beginRoundH fl l σ1 = some ⟨σ1.h.set l (some (.loop { q1 with state := .busy })), σ1.nx⟩ := by
     unfold beginRoundH
     rw [hq1]
     dsimp only
     have hrd := hb.1
     cases hst : q1.state <;> rw [hst] at hrd <;> first | (exact absurd hrd (by decide)) | (dsimp only; rw [hb.2]; rfl)
    have hend : ∃ v σ', endRoundH l e σ2 = some (v, σ') ∧ k v σ'.h σ'.nx = some r := by
     cases e <;> exact end_k h6
    obtain ⟨v, σ', g1, g2⟩ := hend
    refine ⟨max n m, v, σ', ?_, g2⟩
    unfold roundH
    rw [hq]
    dsimp only
    rw [hz]
    dsimp only
    rw [z7 (Nat.le_max_left n m) _ _ _ _ _ _ h1]
    dsimp only
    rw [hbegin]
    dsimp only
    rw [z7 (Nat.le_max_right n m) _ _ _ _ _ _ h4]
    exact g1
  | exit id => cases h3
  | ret => cases h3
 ·cases hr
theorem ua {op : LOp → Bx Ko} {fn : Nat → Bx Kf} (hop : ∀ o, KoOk lp nt (op o).run o) (hfn : ∀ f, KfOk lp (fn f).run f) : ∀ c, KcOk lp nt (comp op fn nt c).run c
 | .skip => fun fl rd kn kx kr a ds h nx r hr => ⟨1, .normal, _, _, rfl, rfl, hr⟩
 | .seq x y => by
  intro fl rd kn kx kr a ds h nx r hr
  unfold comp at hr
  rw [ya, ya, yD] at hr
  obtain ⟨n, e, a1, σ1, h1, h2, h3⟩ := ua hop hfn x fl rd _ kx kr a ds h nx r hr
  cases e with
  | normal =>
   dsimp only [contK] at h3
   obtain ⟨m, e, a', σ', h4, h5, h6⟩ := ua hop hfn y fl rd kn kx kr a1.tmps a1.defers σ1.h σ1.nx r h3
   have ea : (⟨nt, a1.tmps, a1.defers⟩ : HAct) = a1 := by rw [← h2]
   rw [ea] at h4
   exact ⟨max n m + 1, e, a', σ', Yz h1 h4, h5, h6⟩
  | exit id => exact ⟨n + 1, .exit id, a1, σ1, by show xSeq _ _ _ _ _ _ _ = _; unfold xSeq; rw [h1], h2, h3⟩
  | ret => exact ⟨n + 1, .ret, a1, σ1, by show xSeq _ _ _ _ _ _ _ = _; unfold xSeq; rw [h1], h2, h3⟩
 | .cond c x y => by
  intro fl rd kn kx kr a ds h nx r hr
  unfold comp at hr
  rw [ya, ya, ya, yD] at hr
  rw [zL (nt := nt) c a ds] at hr
  split at hr
  ·rename_i b hb
   cases b with
   | true =>
    obtain ⟨n, e, a', σ', h1, h2, h3⟩ := ua hop hfn x fl rd kn kx kr a ds h nx r hr
    refine ⟨n + 1, e, a', σ', ?_, h2, h3⟩
    show xCond _ _ _ _ _ _ _ _ = _
    unfold xCond
    rw [hb]; exact h1
   | false =>
    obtain ⟨n, e, a', σ', h1, h2, h3⟩ := ua hop hfn y fl rd kn kx kr a ds h nx r hr
    refine ⟨n + 1, e, a', σ', ?_, h2, h3⟩
    show xCond _ _ _ _ _ _ _ _ = _
    unfold xCond
    rw [hb]; exact h1
  ·cases hr
 | .block id x => by
  intro fl rd kn kx kr a ds h nx r hr
  unfold comp at hr
  rw [ya, yD] at hr
  obtain ⟨n, e, a', σ', h1, h2, h3⟩ := ua hop hfn x fl rd kn _ kr a ds h nx r hr
  cases e with
  | normal => exact ⟨n + 1, .normal, a', σ', by show xBlock _ _ _ _ _ _ _ = _; unfold xBlock; rw [h1], h2, h3⟩
  | ret => exact ⟨n + 1, .ret, a', σ', by show xBlock _ _ _ _ _ _ _ = _; unfold xBlock; rw [h1], h2, h3⟩
  | exit i =>
   dsimp only [contK] at h3
   refine ⟨n + 1, bif Nat.beq i id then .normal else .exit i, a', σ', by show xBlock _ _ _ _ _ _ _ = _; unfold xBlock; rw [h1], h2, ?_⟩
   revert h3
   cases Nat.beq i id <;> exact fun h => h
 | .loop x => by
  intro fl rd kn kx kr a ds h nx r hr
  unfold comp at hr
  rw [ya, yD] at hr
  have ihx := ua hop hfn x
  revert hr
  generalize 1000000 = m
  induction m generalizing a ds h nx with
  | zero => intro hr; cases hr
  | succ m ih =>
   intro hr
   obtain ⟨n, e, a1, σ1, h1, h2, h3⟩ := ihx fl rd _ kx kr a ds h nx r hr
   cases e with
   | normal =>
    dsimp only [contK] at h3
    obtain ⟨k, e, a', σ', h4, h5, h6⟩ := ih a1.tmps a1.defers σ1.h σ1.nx h3
    have ea : (⟨nt, a1.tmps, a1.defers⟩ : HAct) = a1 := by rw [← h2]
    rw [ea] at h4
    exact ⟨max n k + 1, e, a', σ', Yz h1 h4, h5, h6⟩
   | exit id => exact ⟨n + 1, .exit id, a1, σ1, by show xSeq _ _ _ _ _ _ _ = _; unfold xSeq; rw [h1], h2, h3⟩
   | ret => exact ⟨n + 1, .ret, a1, σ1, by show xSeq _ _ _ _ _ _ _ = _; unfold xSeq; rw [h1], h2, h3⟩
 | .scope x => by
  intro fl rd kn kx kr a ds h nx r hr
  obtain ⟨n, e, a', σ', h1, h2, h3⟩ := ua hop hfn x fl rd kn kx kr a ds h nx r hr
  exact ⟨n + 1, e, a', σ', h1, h2, h3⟩
 | .exit id => fun fl rd kn kx kr a ds h nx r hr => ⟨1, .exit id, _, _, rfl, rfl, hr⟩
 | .ret => fun fl rd kn kx kr a ds h nx r hr => ⟨1, .ret, _, _, rfl, rfl, hr⟩
 | .reg ops => by
  intro fl rd kn kx kr a ds h nx r hr
  unfold comp at hr
  rw [ya, yD] at hr
  obtain ⟨n, a', σ', h1, h2, h3⟩ := ops_k hop ops fl kn a ds h nx r hr
  refine ⟨n + 1, .normal, a', σ', ?_, h2, h3⟩
  show xNormal _ = _
  rw [h1]; rfl
 | .draw s ops => by
  intro fl rd kn kx kr a ds h nx r hr
  unfold comp at hr
  rw [ya, yD] at hr
  cases hb : Nat.ble fl nx with
  | false => rw [hb] at hr; cases hr
  | true =>
   rw [hb] at hr
   obtain ⟨n, a', σ', h1, h2, h3⟩ := Yn hop ops fl nx 0 h [] kn a ds nx r (Nat.le_of_ble_eq_true hb) (Nat.le_refl _) hr
   refine ⟨n + 1, .normal, a', σ', ?_, h2, h3⟩
   show xDraw lp (exec lp n) fl s ops _ _ = _
   unfold xDraw
   rw [hb]
   simp only [cond_true, h1]
   rfl
 | .rangeFunc f ps assign body => by
  unfold comp
  rw [ya, yD]
  exact range_k hfn f ps assign body
 | .bad => fun fl rd kn kx kr a ds h nx r hr => by cases hr
theorem YN {fl : Nat} {res : List LRes} {k : Kv} {a : HAct} {σ : HS} {r : HV × HS} (hn : a.nt = nt) (hr : leaveK fl nt res k a.tmps a.defers σ.h σ.nx = some r) : ∃ v σ', leaveH fl a res σ = some (v, σ') ∧ k v σ'.h σ'.nx = some r := by
 unfold leaveK at hr
 have ea : (⟨nt, a.tmps, a.defers⟩ : HAct) = a := by rw [← hn]
 rw [ea] at hr
 split at hr
 ·rename_i v σ' h1; exact ⟨v, σ', h1, hr⟩
 ·cases hr
theorem both_k : ∀ n, (∀ f, KfOk lp ((bothK lp n).1 f).run f) ∧ KrOk lp (bothK lp n).2
 | 0 => ⟨fun f fl args h nx k r hr => (by cases hr), fun fl l args h nx k r hr => (by cases hr)⟩
 | n + 1 => by
  obtain ⟨hfn, hro⟩ := both_k n
  have hco : ∀ nt c, KcOk lp nt (comp (compOp lp (bothK lp n).1 (bothK lp n).2 nt) (bothK lp n).1 nt c).run c := fun nt c => ua (fun o => op_ok hfn hro o) hfn c
  refine ⟨fun f fl args h nx k r hr => ?_, round_k hco⟩
  unfold bothK at hr
  dsimp only at hr
  split at hr
  ·cases hr
  ·rename_i lf hlf
   split at hr
   ·rename_i g hg
    rw [yD] at hr
    unfold specK at hr
    split at hr
    ·rename_i v σ h1
     cases hb : Nat.ble nx σ.nx with
     | false => rw [hb] at hr; cases hr
     | true =>
      rw [hb] at hr
      refine ⟨0, v, σ, ?_, hr⟩
      unfold callF
      rw [hlf]
      simp only [hg]
      unfold specH
      rw [h1]
      simp only [hb, cond_true]
    ·cases hr
   rename_i hsp
   rw [ya] at hr
   have run : ∀ (fl0 : Nat) (k0 : Kv), (bif Nat.ble args.length lf.nt then (comp (compOp lp (bothK lp n).1 (bothK lp n).2 lf.nt) (bothK lp n).1 lf.nt lf.body).run fl0 none (leaveK fl0 lf.nt lf.res k0) (fun _ _ _ _ _ => none) (leaveK fl0 lf.nt lf.res k0) (putAll .e 0 args) [] h nx else none) = some r →
     ∃ m v σ', callB (exec lp m) fl0 lf args ⟨h, nx⟩ = some (v, σ') ∧ k0 v σ'.h σ'.nx = some r := by
    intro fl0 k0 hr
    cases hb : Nat.ble args.length lf.nt with
    | false => rw [hb] at hr; cases hr
    | true =>
     rw [hb] at hr
     simp only [cond_true] at hr
     have hmx : Nat.max lf.nt args.length = lf.nt := Nat.max_eq_left (Nat.le_of_ble_eq_true hb)
     obtain ⟨m, e, a', σ', h1, h2, h3⟩ := hco lf.nt lf.body fl0 none _ _ _ _ _ _ _ r hr
     cases e with
     | normal =>
      obtain ⟨v, σ'', g1, g2⟩ := YN h2 h3
      refine ⟨m, v, σ'', ?_, g2⟩
      unfold callB
      rw [hmx, h1]
      exact g1
     | exit id => cases h3
     | ret =>
      obtain ⟨v, σ'', g1, g2⟩ := YN h2 h3
      refine ⟨m, v, σ'', ?_, g2⟩
      unfold callB
      rw [hmx, h1]
      exact g1
   unfold enterK at hr
   cases hi : lf.imp with
   | true =>
    rw [hi] at hr
    simp only [cond_true] at hr
    rw [yD] at hr
    obtain ⟨m, v, σ', g1, g2⟩ := run fl k hr
    refine ⟨m, v, σ', ?_, g2⟩
    unfold callF
    rw [hlf]
    simp only [hsp, hi, cond_true]
    exact g1
   | false =>
    rw [hi] at hr
    simp only [cond_false] at hr
    rw [yD] at hr
    obtain ⟨m, v, σ', g1, g2⟩ := run nx (gcK h nx k) hr
    refine ⟨m, v, gcH ⟨h, nx⟩ σ' v, ?_, g2⟩
    unfold callF
    rw [hlf]
    simp only [hsp, hi, cond_false, g1]
theorem fn_k (n f : Nat) : KfOk lp ((fnK lp n f).run) f := (both_k n).1 f
theorem c_of_k {n f : Nat} {args : List HV} {h : Tr HBlk} {nx : Nat} {Q : HV → HS → Prop} {k : Kv} {r : HV × HS} (hr : (fnK lp n f).run 0 args h nx k = some r) (hk : ∀ v h nx, k v h nx = some r → Q v ⟨h, nx⟩) : C lp 0 f args ⟨h, nx⟩ Q := by
 obtain ⟨m, v, σ', h1, h2⟩ := fn_k n f 0 args h nx k r hr
 exact ⟨m, v, σ', h1, hk _ _ _ h2⟩
end Go.Hx

namespace Go.Hx
theorem mixed : (Go.Proofs.Tryz.prog).follows .mixedOrders = true := by kernel_rfl
noncomputable def endK0 : Kv := fun v _ _ => some (v, ⟨.e, 0⟩)
theorem Zb {lp : Nat → Option zr} {n f : Nat} (hr : (fnK lp n f).run 0 [] .e 0 endK0 = some (.bool true, ⟨.e, 0⟩)) : C lp 0 f [] ⟨.e, 0⟩ (fun v _ => v = .bool true) :=
 c_of_k hr fun v h nx hk => by unfold endK0 at hk; cases hk; rfl
theorem closed19 : C LP 0 19 [] ⟨.e, 0⟩ (fun v _ => v = .bool true) := Zb (n := 40) (by kernel_rfl)
end Go.Hx

namespace Go.Hx
open Go.RowKit
variable {P : Program}
theorem yo {w : World} {b0 : Nat} {t : TypeId} {fs : Array Field} {ts : List TypeId} {cs : Array Value} (ht : P.underlying t = some (.struct fs)) (hts : P.cellTypes P.depth t = some ts)
  (hv : Value.okWide P w .any b0 t (.agg cs)) {i : Nat} {v : Value} {u : TypeId} (hi : cs[i]? = some v) (hu : ts[i]? = some u) : Cell.okWide P w .any b0 u v := by
 unfold Value.okWide at hv
 simp only [ht] at hv
 obtain ⟨cs', e, _, ts', h1, _, h3⟩ := hv
 cases e
 rw [hts] at h1; cases h1
 obtain ⟨u', h4, h5⟩ := h3 i v hi
 have hlt : i < ts.length := by
  rcases Nat.lt_or_ge i ts.length with h | h
  ·exact h
  ·rw [List.getElem?_eq_none h] at hu; cases hu
 rw [Nat.mod_eq_of_lt hlt, hu] at h4
 cases h4; exact h5
theorem uJ {w : World} {b0 : Nat} {t e : TypeId} {v : Value} (ht : P.underlying t = some (.slice e)) (h : Cell.okWide P w .any b0 t v) : Value.okWide P w .any b0 t v := by
 unfold Value.okWide
 simp only [ht]; exact h
theorem j9 {H : Type} {enc : TypeId × Value → H} {w : World} {base : Nat} {spare : Nat → Bool} {held : Bool} {t : TypeId} {fs : Array Field} {cs : Array Value} {dd : DataW H} {p : List MemPlace} (ht : P.underlying t = some (.struct fs))
  (h : DataW.Trod enc P w base spare held t (.agg cs) dd p) {j : Nat} {f : Field} {v : Value} (hj : fs[j]? = some f) (h1 : 1 = P.cellsOf f.type) (hv : cs[f.offset]? = some v) (hc : v.cells = #[v]) : ∃ d' p', DataW.Trod enc P w base spare held f.type v d' p' := by
 obtain ⟨fuel, hf⟩ := h
 obtain ⟨xs, n, _, _, hlen, hxl, hx⟩ := DataW.trod_struct ht hf
 have h3 := hx j f hj
 have hjl : j < xs.length := by
  have : j < fs.size := by
   rcases Nat.lt_or_ge j fs.size with h | h
   ·exact h
   ·rw [Array.getElem?_eq_none h] at hj; cases hj
  omega
 rw [List.getElem?_eq_getElem hjl, ← h1] at h3
 have e : ((Value.agg cs).cells.toList.drop f.offset).take 1 = [v] := by
  have : cs.toList[f.offset]? = some v := by rw [Array.getElem?_toList]; exact hv
  show (cs.toList.drop f.offset).take 1 = [v]
  have hlt : f.offset < cs.toList.length := by
   rcases Nat.lt_or_ge f.offset cs.toList.length with h | h
   ·exact h
   ·rw [List.getElem?_eq_none h] at this; cases this
  rw [List.drop_eq_getElem_cons hlt]
  rw [List.getElem?_eq_getElem hlt] at this
  cases this
  rfl
 rw [e] at h3
 exact ⟨xs[j].1, xs[j].2, n, by rw [hc]; exact h3⟩
end Go.Hx

namespace Go.Hx
open Go.RowKit Go.ChangeShapes Go.WideShapes Go.ChangeAt
theorem XX : ∀ args σ v σ', spWakes args σ = some (v, σ') → σ' = σ ∧ args.all flat = true ∧ flatV v = true ∧ C LP 0 19 args ⟨.e, 0⟩ (fun v' _ => v' = v) := by
 intro args σ v σ' h
 cases args with
 | nil => cases h; exact ⟨rfl, rfl, rfl, closed19⟩
 | cons a l => cases h
theorem lw_ok : LpOk Go.Proofs.Tryz.prog LW := withS_ok YM (XW mixed YM XX)
theorem wfk {k : IntKind} {n : Int} (h : (Lit.int k n).wf = true) : k.min ≤ n ∧ n ≤ k.max := by
 simp only [Lit.wf, Bool.and_eq_true, decide_eq_true_eq] at h
 exact h
def e2 (x : Int × Int) : List HV := [i64 x.1, i64 x.2]
def e3 (x : Int × Int × Int) : List HV := [i64 x.1, i64 x.2.1, i64 x.2.2]
def eK (k : IntKind) (x : Int) : List HV := [.int k x]
theorem dec2 : ∀ us : Nat → Value, (∀ j k, [Leaf.i .i64, .i .i64][j]? = some k → LeafV k (us j)) → ∃ x : Int × Int, ∀ j u, (e2 x)[j]? = some u → ∀ ρ, VR ρ u (us j) := by
 intro us h
 obtain ⟨a, e0⟩ := y6 (h 0 _ rfl)
 obtain ⟨b, e1⟩ := y6 (h 1 _ rfl)
 refine ⟨(a, b), fun j u hj ρ => ?_⟩
 match j, hj with
 | 0, hj => cases hj; rw [e0]; exact .int _ _
 | 1, hj => cases hj; rw [e1]; exact .int _ _
 | j + 2, hj => simp [e2] at hj
theorem rel2 (F : V.PH) (x : Int × Int) : V.rP V.rI V.rI F x (e2 x) := ⟨[_], [_], rfl, rfl, rfl⟩
def e4 (x : Int × Int × Int × Int) : List HV := [i64 x.1, i64 x.2.1, i64 x.2.2.1, i64 x.2.2.2]
theorem dec4 : ∀ us : Nat → Value, (∀ j k, [Leaf.i .i64, .i .i64, .i .i64, .i .i64][j]? = some k → LeafV k (us j)) → ∃ x : Int × Int × Int × Int, ∀ j u, (e4 x)[j]? = some u → ∀ ρ, VR ρ u (us j) := by
 intro us h
 obtain ⟨a, e0⟩ := y6 (h 0 _ rfl)
 obtain ⟨b, e1⟩ := y6 (h 1 _ rfl)
 obtain ⟨c, e2⟩ := y6 (h 2 _ rfl)
 obtain ⟨d, e3⟩ := y6 (h 3 _ rfl)
 refine ⟨(a, b, c, d), fun j u hj ρ => ?_⟩
 match j, hj with
 | 0, hj => cases hj; rw [e0]; exact .int _ _
 | 1, hj => cases hj; rw [e1]; exact .int _ _
 | 2, hj => cases hj; rw [e2]; exact .int _ _
 | 3, hj => cases hj; rw [e3]; exact .int _ _
 | j + 4, hj => simp [e4] at hj
theorem rel4 (F : V.PH) (x : Int × Int × Int × Int) : V.rP V.rI (V.rP V.rI (V.rP V.rI V.rI)) F x (e4 x) := ⟨[_], [_, _, _], rfl, rfl, ⟨[_], [_, _], rfl, rfl, ⟨[_], [_], rfl, rfl, rfl⟩⟩⟩
theorem relK (k : IntKind) (F : V.PH) (x : Int) : V.rK k F x (eK k x) := rfl
def AL {α : Type} (enc : α → List HV) (sz : Nat) (W : World) (v : Value) (Z : α → Prop) : Prop :=
 ∃ (o : Option Slot) (mk : Nat → HV) (l : List α), ArgL enc sz W v o mk l ∧ (∀ k p n c, mk k = .slice p n c → n ≤ c) ∧ ∀ x ∈ l, Z x
theorem row_of {α : Type} {rel : V.Rel α} {enc : α → List HV} {sz : Nat} {ss : List (Option Slot)} {k : Nat} {o : Option Slot} {l : List α} {p : Option (Nat × Nat)} {c : Nat} (hrel : ∀ F x, rel F x (enc x)) (hk : k < ss.length) (ho : ss.getD k none = o) (hc : l.length ≤ c)
  (hr : ∀ (h : Tr HBlk) (nx : Nat), k < nx → h.get k = (o.map fun s => .cells s.cs .ro) → Row enc sz h nx p l) : V.RowF rel sz (V.all (lay ss)) p c l := by
 refine ⟨hc, fun hne => ?_⟩
 obtain ⟨b, off, cs, q, h1, h2, h3, h4⟩ := hr (lay ss) ss.length hk (by rw [uR, ho]) hne
 exact ⟨b, off, cs, q, h1, h3, fun i x hx => ⟨_, h4 i x hx, hrel _ x⟩⟩
theorem kq {P : Program} {H : Type} {enc : TypeId × Value → H} {w : World} {base : Nat} {held : Bool} {t e : TypeId} {a : Option Addr} {len cap : Nat} {dd : DataW H} {p : List MemPlace} (ht : P.underlying t = some (.slice e)) (h : DataW.Trod enc P w base (fun _ => true) held t (.slice a len cap) dd p) : len ≤ cap := by
 obtain ⟨fuel, hf⟩ := h
 rcases Deep.open_slice ht hf with ⟨hcs, _⟩ | ⟨a, len', cap', m, n, D, Pl, hcs, _, hlc, hm, hmm, _, hx⟩
 ·simp [Value.cells] at hcs
  omega
 ·simp [Value.cells] at hcs
  obtain ⟨rfl, rfl, rfl⟩ := hcs
  exact hlc
theorem arg_al {P : Program} {H : Type} {enc0 : TypeId × Value → H} {w : World} {base : Nat} {held : Bool} {α : Type} [Inhabited α] {enc : α → List HV} {t e : TypeId} {d : Nat} {ks : List Leaf} {v : Value} {dd : DataW H} {p : List MemPlace} {b0 : Nat} (ht : P.underlying t = some (.slice e)) (hk : leaves P d e = some ks) (hl : ks.length = P.cellsOf e)
  (hv : Value.okWide P w .any b0 t v) (h : DataW.Trod enc0 P w base (fun _ => true) held t v dd p) (he : ∀ x, (enc x).length = ks.length)
  (hdec : ∀ us : Nat → Value, (∀ j k, ks[j]? = some k → LeafV k (us j)) → ∃ x : α, ∀ j u, (enc x)[j]? = some u → ∀ ρ, VR ρ u (us j)) : AL enc ks.length w v (fun _ => True) := by
 rcases kz ht hk hl hv h with rfl | ⟨blk, off, len, cap, C, el, z, rfl, hw, hx⟩
 ·exact ⟨none, fun _ => .slice none 0 0, [], ⟨fun s e => (by cases e), fun k ρ _ => .slice0, fun k => ⟨none, 0, rfl, fun h nx _ _ hne => absurd rfl hne⟩⟩, fun k p n c e => by cases e; exact Nat.le_refl _, fun _ _ => trivial⟩
 ·have each : ∀ i, i < len → ∃ x : α, ∀ j u, (enc x)[j]? = some u → ∃ c, C[off + (i * ks.length + j)]? = some c ∧ ∀ ρ, VR ρ u c := by
   intro i hi
   obtain ⟨x, hx1⟩ := hdec (fun j => (C[off + (i * ks.length + j)]?).getD .nilFunc) (fun j k hj => by
    obtain ⟨u, h1, h2⟩ := hx i hi j k hj
    rw [h1]; exact h2)
   refine ⟨x, fun j u hj => ?_⟩
   have hjl : j < ks.length := by
    rw [← he x]
    rcases Nat.lt_or_ge j (enc x).length with h | h
    ·exact h
    ·rw [List.getElem?_eq_none h] at hj; cases hj
   obtain ⟨c, h1, _⟩ := hx i hi j _ (List.getElem?_eq_getElem hjl)
   refine ⟨c, h1, fun ρ => ?_⟩
   have := hx1 j u hj ρ
   rwa [h1] at this
  obtain ⟨f, hf⟩ := Deep.choose_lt each
  refine ⟨some ⟨((List.range len).map f).flatMap enc, ⟨blk, off, 0⟩⟩, fun k => .slice (some (k, 0)) len cap, (List.range len).map f, ⟨fun s e => ?_, fun k ρ hr => ?_, fun k => ⟨some (k, 0), cap, by simp, fun h nx hk hg => ?_⟩⟩, fun k p n c e => by cases e; exact kq ht h, fun _ _ => trivial⟩
  ·cases e
   refine ⟨C, el, z, hw, fun i u hu => ?_⟩
   obtain ⟨i', j, x, rfl, h2, h3⟩ := kY he _ i u hu
   have hi' : i' < len := by
    rcases Nat.lt_or_ge i' len with h | h
    ·exact h
    ·rw [List.getElem?_eq_none (by simp; omega)] at h2; cases h2
   rw [List.getElem?_map, List.getElem?_range hi'] at h2
   cases h2
   exact hf i' hi' j u h3
  ·exact VR.slice (r := ⟨blk, off, 0⟩) (o := 0) hr
  ·exact kF (c := cap) he hk (by rw [hg]; rfl)
theorem arg_alK {k : IntKind} {H : Type} {enc0 : TypeId × Value → H} {P : Program} {w : World} {base : Nat} {held : Bool} {t e : TypeId} {d : Nat} {v : Value} {dd : DataW H} {p : List MemPlace} {b0 : Nat} (ht : P.underlying t = some (.slice e)) (he : P.underlying e = some (.int k)) (hk : leaves P d e = some [.i k]) (hl : 1 = P.cellsOf e)
  (hv : Value.okWide P w .any b0 t v) (h : DataW.Trod enc0 P w base (fun _ => true) held t v dd p) : AL (eK k) 1 w v (fun x => k.min ≤ x ∧ x ≤ k.max) := by
 rcases kz ht hk hl hv h with rfl | ⟨blk, off, len, cap, C, el, z, rfl, hw, hx⟩
 ·exact ⟨none, fun _ => .slice none 0 0, [], ⟨fun s e => (by cases e), fun k ρ _ => .slice0, fun k => ⟨none, 0, rfl, fun h nx _ _ hne => absurd rfl hne⟩⟩, fun k p n c e => by cases e; exact Nat.le_refl _, fun x hx => by cases hx⟩
 ·have hcap := kq ht h
  obtain ⟨fuel, hf⟩ := h
  rcases open_ints ht he hl.symm hf with ⟨hcs, _⟩ | ⟨a, len', cap', zs, hcs, _, hlc, hm, hzl, _, hcell, hwf⟩
  ·simp [Value.cells] at hcs
  ·simp [Value.cells] at hcs
   obtain ⟨rfl, rfl, rfl⟩ := hcs
   simp only [if_true] at hzl
   have hlen : (zs.take len).length = len := by rw [List.length_take]; omega
   have key : ∀ i, w.cell? (Addr.add ⟨blk, off, none⟩ i) = C[off + i]? := fun i => by
    unfold Addr.add World.cell?
    by_cases h0 : i = 0
    ·rw [if_pos h0, h0]
     simp only [hw, Nat.add_zero]
     rfl
    ·rw [if_neg h0]
     simp only [hw]
     rfl
   have at_ : ∀ (i : Nat) (x : Int), (zs.take len)[i]? = some x → C[off + i]? = some (.int k x) := fun i x hi => by
    have hil : i < len := by
     rcases Nat.lt_or_ge i len with h | h
     ·exact h
     ·rw [List.getElem?_eq_none (by rw [hlen]; exact h)] at hi; cases hi
    rw [List.getElem?_take, if_pos hil] at hi
    have := hcell i (by omega)
    rw [key, List.getD_eq_getElem?_getD, hi] at this
    exact this
   refine ⟨some ⟨(zs.take len).flatMap (eK k), ⟨blk, off, 0⟩⟩, fun k => .slice (some (k, 0)) len cap, zs.take len, ⟨fun s e => ?_, fun k ρ hr => ?_, fun q => ⟨some (q, 0), cap, by rw [hlen], fun h nx hq hg => ?_⟩⟩, fun k p n c e => by cases e; exact hcap, fun x hx => wfk (hwf x (List.mem_of_mem_take hx))⟩
   ·cases e
    refine ⟨C, el, z, hw, fun i u hu => ?_⟩
    obtain ⟨i', j, x, rfl, h2, h3⟩ := kY (enc := eK k) (sz := 1) (fun _ => rfl) _ i u hu
    cases j with
    | zero =>
     cases h3
     refine ⟨.int k x, ?_, fun ρ => .int _ _⟩
     rw [Nat.mul_one, Nat.add_zero]
     exact at_ i' x h2
    | succ j => simp [eK] at h3
   ·exact VR.slice (r := ⟨blk, off, 0⟩) (o := 0) hr
   ·exact kF (c := cap) (fun _ => rfl) hq (by rw [hg]; rfl)
end Go.Hx

namespace Go.Hx
open Go.RowKit Go.ChangeShapes Go.WideShapes Go.ChangeAt
open Go.Proofs
set_option maxRecDepth 100000
theorem leaves118 : leaves Tryz.prog 20 118 = some [.i .i64, .i .i64, .i .i64, .i .i64] := by kernel_rfl
theorem leaves121 : leaves Tryz.prog 20 121 = some [.i .i64, .i .i64] := by kernel_rfl
theorem leaves68 : leaves Tryz.prog 20 68 = some [.i .i64, .i .i64, .i .i64] := by kernel_rfl
theorem leaves100 : leaves Tryz.prog 20 100 = some [.i .u16] := by kernel_rfl
theorem cells118 : 4 = Tryz.prog.cellsOf 118 := by kernel_rfl
theorem cells121 : 2 = Tryz.prog.cellsOf 121 := by kernel_rfl
theorem cells68 : 3 = Tryz.prog.cellsOf 68 := by kernel_rfl
theorem cells100 : 1 = Tryz.prog.cellsOf 100 := by kernel_rfl
theorem cells31 : Tryz.prog.cellsOf 31 = 10 := by kernel_rfl
theorem cells26 : 1 = Tryz.prog.cellsOf 26 := by kernel_rfl
theorem cells27 : 1 = Tryz.prog.cellsOf 27 := by kernel_rfl
theorem types31 : Tryz.prog.cellTypes Tryz.prog.depth 31 = some [3, 3, 3, 3, 26, 27, 3, 3, 3, 3] := by kernel_rfl
def InstA (W : World) (v : Value) : Prop := ∃ (a b c d p q e f : Int) (vl vt : Value), v = .agg #[.int .i64 a, .int .i64 b, .int .i64 c, .int .i64 d, vl, vt, .int .i64 p, .int .i64 q, .int .i64 e, .int .i64 f] ∧ AL e4 4 W vl (fun _ => True) ∧ AL e2 2 W vt (fun _ => True)
def Q3 (v : Value) : Prop := ∃ a b c : Int, v = .agg [.int .i64 a, .int .i64 b, .int .i64 c].toArray
theorem yN {P : Program} {w : World} {b0 : Nat} {t : TypeId} {k : IntKind} {v : Value} (ht : P.underlying t = some (.int k)) (h : Cell.okWide P w .any b0 t v) : Value.okWide P w .any b0 t v := by
 unfold Value.okWide
 simp only [ht]; exact h
theorem ten {C : Array Value} (h : C.size = 10) : ∃ a b c d e f g i j k, C = #[a, b, c, d, e, f, g, i, j, k] := by
 obtain ⟨l⟩ := C
 match l, h with
 | [a, b, c, d, e, f, g, i, j, k], _ => exact ⟨a, b, c, d, e, f, g, i, j, k, rfl⟩
section
variable {H : Type} {enc : TypeId × Value → H} {w : World} {base : Nat} {held : Bool} {v : Value} {dd : DataW H} {p : List MemPlace} {b0 : Nat}
theorem arg_inst (hv : Value.okWide Tryz.prog w .any b0 31 v) (h : DataW.Trod enc Tryz.prog w base (fun _ => true) held 31 v dd p) : InstA w v := by
 obtain ⟨C, rfl, hs⟩ := okWide_struct Tryz.underlying31 hv
 obtain ⟨a, b, c, d, e, f, g, i, j, k, rfl⟩ := ten (hs.trans cells31)
 obtain ⟨a, rfl⟩ := okWide_int Tryz.underlying3 (yN Tryz.underlying3 (yo Tryz.underlying31 types31 hv (i := 0) rfl rfl))
 obtain ⟨b, rfl⟩ := okWide_int Tryz.underlying3 (yN Tryz.underlying3 (yo Tryz.underlying31 types31 hv (i := 1) rfl rfl))
 obtain ⟨c, rfl⟩ := okWide_int Tryz.underlying3 (yN Tryz.underlying3 (yo Tryz.underlying31 types31 hv (i := 2) rfl rfl))
 obtain ⟨d, rfl⟩ := okWide_int Tryz.underlying3 (yN Tryz.underlying3 (yo Tryz.underlying31 types31 hv (i := 3) rfl rfl))
 obtain ⟨g, rfl⟩ := okWide_int Tryz.underlying3 (yN Tryz.underlying3 (yo Tryz.underlying31 types31 hv (i := 6) rfl rfl))
 obtain ⟨i, rfl⟩ := okWide_int Tryz.underlying3 (yN Tryz.underlying3 (yo Tryz.underlying31 types31 hv (i := 7) rfl rfl))
 obtain ⟨j, rfl⟩ := okWide_int Tryz.underlying3 (yN Tryz.underlying3 (yo Tryz.underlying31 types31 hv (i := 8) rfl rfl))
 obtain ⟨k, rfl⟩ := okWide_int Tryz.underlying3 (yN Tryz.underlying3 (yo Tryz.underlying31 types31 hv (i := 9) rfl rfl))
 have ke : Value.okWide Tryz.prog w .any b0 26 e := uJ Tryz.underlying26 (yo Tryz.underlying31 types31 hv (i := 4) rfl rfl)
 have kf : Value.okWide Tryz.prog w .any b0 27 f := uJ Tryz.underlying27 (yo Tryz.underlying31 types31 hv (i := 5) rfl rfl)
 obtain ⟨xb, lb, cb, eb⟩ := okWide_slice Tryz.underlying26 ke
 obtain ⟨xc, lc, cc, ec⟩ := okWide_slice Tryz.underlying27 kf
 obtain ⟨d1, p1, t1⟩ := j9 Tryz.underlying31 h (j := 1) (v := e) rfl cells26 rfl (by rw [eb]; rfl)
 obtain ⟨d2, p2, t2⟩ := j9 Tryz.underlying31 h (j := 2) (v := f) rfl cells27 rfl (by rw [ec]; rfl)
 exact ⟨a, b, c, d, g, i, j, k, e, f, rfl, arg_al (enc := e4) Tryz.underlying26 leaves118 cells118 ke t1 (fun _ => rfl) dec4, arg_al (enc := e2) Tryz.underlying27 leaves121 cells121 kf t2 (fun _ => rfl) dec2⟩
theorem arg_use (hv : Value.okWide Tryz.prog w .any b0 68 v) (h : DataW.Trod enc Tryz.prog w base (fun _ => true) held 68 v dd p) : Q3 v := by
 obtain ⟨C, rfl, hC⟩ := Yt Tryz.underlying68 leaves68 cells68 hv h
 obtain ⟨u0, C, rfl, h0, hC⟩ := kZ hC
 obtain ⟨u1, C, rfl, h1, hC⟩ := kZ hC
 obtain ⟨u2, C, rfl, h2, hC⟩ := kZ hC
 obtain rfl := f2_nil hC
 obtain ⟨a, rfl⟩ := y6 h0
 obtain ⟨b, rfl⟩ := y6 h1
 obtain ⟨c, rfl⟩ := y6 h2
 exact ⟨a, b, c, rfl⟩
theorem arg_words (hv : Value.okWide Tryz.prog w .any b0 99 v) (h : DataW.Trod enc Tryz.prog w base (fun _ => true) held 99 v dd p) : AL (eK .u16) 1 w v (fun x => IntKind.u16.min ≤ x ∧ x ≤ IntKind.u16.max) :=
 arg_alK Tryz.underlying99 Tryz.underlying100 leaves100 cells100 hv h
end
theorem w16 {l : List Int} (h : ∀ x ∈ l, IntKind.u16.min ≤ x ∧ x ≤ IntKind.u16.max) : ∀ x ∈ l, 0 ≤ x ∧ x < 65536 := fun x hx => by
 have := h x hx
 have e1 : IntKind.u16.min = 0 := rfl
 have e2 : IntKind.u16.max = 65535 := rfl
 omega
end Go.Hx

