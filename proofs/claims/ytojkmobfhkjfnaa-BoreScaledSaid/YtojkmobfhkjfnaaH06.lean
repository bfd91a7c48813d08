import Derived.Test.YtojkmobfhkjfnaaH05
import Derived.Test.YtojkmobfhkjfnaaH02
set_option linter.all false
namespace Go.Hx
set_option linter.unusedSimpArgs false
set_option linter.unusedVariables false
set_option maxRecDepth 20000
set_option maxHeartbeats 4000000
attribute [local irreducible] W R C thenH inBlockH
/-- How high a mark can be above another one, by the cells alone, as far as it has been written. -/
def uM (n : Nat) (a b : Int) (L H : Nat) : Mx := fun i j => if (min i j < L ∨ min i j = L ∧ max i j < H) ∧ max i j ≤ n then ((j : Int) - i) * (if i ≤ j then b else a) else 0
theorem u_next {n : Nat} {a b : Int} {L H : Nat} (h1 : L ≤ H) (h2 : H ≤ n) : mset (mset (uM n a b L H) L H (((H : Int) - L) * b)) H L (((L : Int) - H) * a) = uM n a b L (H + 1) := by
  funext i j
  unfold mset uM
  by_cases e1 : i = H ∧ j = L
  · obtain ⟨rfl, rfl⟩ := e1
    rw [if_pos ⟨rfl, rfl⟩, if_pos (by omega)]
    by_cases e : i = j
    · subst e; simp
    · rw [if_neg (by omega)]
  · rw [if_neg e1]
    by_cases e2 : i = L ∧ j = H
    · obtain ⟨rfl, rfl⟩ := e2
      rw [if_pos ⟨rfl, rfl⟩, if_pos (by omega), if_pos h1]
    · rw [if_neg e2]
      generalize ((j : Int) - i) * (if i ≤ j then b else a) = z
      by_cases h3 : (min i j < L ∨ min i j = L ∧ max i j < H) ∧ max i j ≤ n
      · rw [if_pos h3, if_pos (by omega)]
      · rw [if_neg h3, if_neg (by omega)]
theorem u_row {n : Nat} {a b : Int} {L : Nat} : uM n a b L (n + 1) = uM n a b (L + 1) (L + 1) := by
  funext i j
  unfold uM
  generalize ((j : Int) - i) * (if i ≤ j then b else a) = z
  by_cases h3 : (min i j < L ∨ min i j = L ∧ max i j < n + 1) ∧ max i j ≤ n
  · rw [if_pos h3, if_pos (by omega)]
  · rw [if_neg h3, if_neg (by omega)]
/-- By the cells alone. -/
def u0 (n : Nat) (a b : Int) : Mx := fun i j => if i ≤ n ∧ j ≤ n then ((j : Int) - i) * (if i ≤ j then b else a) else 0
theorem u_end {n : Nat} {a b : Int} : uM n a b (n + 1) (n + 1) = u0 n a b := by
  funext i j
  unfold uM u0
  generalize ((j : Int) - i) * (if i ≤ j then b else a) = z
  by_cases h3 : i ≤ n ∧ j ≤ n
  · rw [if_pos h3, if_pos (by omega)]
  · rw [if_neg h3, if_neg (by omega)]
section
variable {fl tb bk : Nat} {t : Tb} {n : Nat}
theorem mulb {i j n : Nat} {b : Int} (hi : i ≤ n) (hj : j ≤ n) (hn : n ≤ 10) (hb : -1000000 ≤ b ∧ b ≤ 1000000) : -20000000 ≤ ((j : Int) - i) * b ∧ ((j : Int) - i) * b ≤ 20000000 := by
  have h1 : -10 ≤ (j : Int) - i ∧ (j : Int) - i ≤ 10 := by omega
  generalize (j : Int) - i = d at h1
  obtain ⟨h1, h2⟩ := h1
  have : d = -10 ∨ d = -9 ∨ d = -8 ∨ d = -7 ∨ d = -6 ∨ d = -5 ∨ d = -4 ∨ d = -3 ∨ d = -2 ∨ d = -1 ∨ d = 0 ∨ d = 1 ∨ d = 2 ∨ d = 3 ∨ d = 4 ∨ d = 5 ∨ d = 6 ∨ d = 7 ∨ d = 8 ∨ d = 9 ∨ d = 10 := by omega
  rcases this with e | e | e | e | e | e | e | e | e | e | e | e | e | e | e | e | e | e | e | e | e <;> subst e <;> omega
/- 97 -/
theorem loop97w0 {lp : Nat → Option LFunc} {Q : HExit → HAct → HS → Prop} {h : Tr HBlk} {nx : Nat} (hn : n ≤ 10) (htc : t.c = n) (ha : -1000000 ≤ t.a ∧ t.a ≤ 1000000) (hb : -1000000 ≤ t.b ∧ t.b ≤ 1000000) (hne : tb ≠ bk) (hfl : fl ≤ bk) {L : Nat} (hL : L ≤ n)
    (htb : h.get tb = some (.cells t.cells .exact)) (hd : D h nx) (hbk : bk < nx) :
    ∀ (k H : Nat) (a : HAct) (g : Tr HBlk), k + H = n + 1 → L ≤ H → D g nx → g.get tb = some (.cells t.cells .exact) → g.get bk = some (.cells (bcells t (uM n t.a t.b L H)) .exact) →
      a.nt = 57 → a.defers = [] → a.tmp 1 = .ptr (some (tb, 0)) → a.tmp 2 = .ptr (some (tb + 1, 0)) → a.tmp 3 = .ptr (some (bk, 0)) → a.tmp 4 = i64 L → a.tmp 5 = i64 H →
      (∀ a' g', a'.nt = 57 → a'.defers = [] → a'.tmp 1 = .ptr (some (tb, 0)) → a'.tmp 2 = .ptr (some (tb + 1, 0)) → a'.tmp 3 = .ptr (some (bk, 0)) → a'.tmp 4 = i64 L → Ch bk g nx g' nx → g'.get bk = some (.cells (bcells t (uM n t.a t.b (L + 1) (L + 1))) .exact) → Q .normal a' ⟨g', nx⟩) →
      W lp fl none (.loop L97w0) (inBlockH 2 Q) a ⟨g, nx⟩
  | 0, H, a, g, hk, hLH, hdg, hgt, hget, hnt, hds, h1, h2, h3, h4, h5, hq => by
    have ec : t.cells[0 + 0]? = some (i64 n) := by rw [← htc]; rfl
    refine w_it (show L97w0 = _ by unfold L97w0; exact rfl) ?_
    repeat' first
     | refine r_nil ?_
     | refine th_n ?_
     | refine th_r ?_
     | refine th_e ?_
     | refine ib_n ?_
     | refine ib_r ?_
     | refine ib_e ?_
     | refine ib_x (by decide) ?_
     | refine w_exit ?_
     | refine w_seq ?_
     | refine w_reg ?_
     | refine w_ret ?_
     | refine w_skip ?_
     | refine w_block ?_
     | refine w_t (by simp (disch:=first|decide|(simp only[zF,zG,hnt, h1, h2, h3, h4, h5];decide)) only [zA,zB,zC,zD,zE,zF,zG,zH,zI,zJ,zK,HV.cells,hnt, h1, h2, h3, h4, h5]; first|done|exact rfl) ?_
     | refine w_f (by simp (disch:=first|decide|(simp only[zF,zG,hnt, h1, h2, h3, h4, h5];decide)) only [zA,zB,zC,zD,zE,zF,zG,zH,zI,zJ,zK,HV.cells,hnt, h1, h2, h3, h4, h5]; first|done|exact rfl) ?_
     | refine r_move (by simp (disch:=first|decide|(simp only[zF,zG,hnt, h1, h2, h3, h4, h5];decide)) only [zA,zB,zC,zD,zE,zF,zG,zH,zI,zJ,zK,HV.cells,hnt, h1, h2, h3, h4, h5]; try exact rfl) ?_
     | refine r_fa (by simp (disch:=first|decide|(simp only[zF,zG,hnt, h1, h2, h3, h4, h5];decide)) only [zA,zB,zC,zD,zE,zF,zG,zH,zI,zJ,zK,HV.cells,hnt, h1, h2, h3, h4, h5]; try exact rfl) ?_
     | refine r_ld1 (by simp (disch:=first|decide|(simp only[zF,zG,hnt, h1, h2, h3, h4, h5];decide)) only [zA,zB,zC,zD,zE,zF,zG,zH,zI,zJ,zK,HV.cells,hnt, h1, h2, h3, h4, h5]; try exact rfl) (by first|assumption|(simp (disch:=omega) only [get_same,get_other,hnt, h1, h2, h3, h4, h5]; first|done|exact rfl)) (by first|assumption|rfl|(simp only [zI,zJ,HV.cells,hnt, h1, h2, h3, h4, h5]; exact rfl)) ?_
     | refine r_ldn (by simp (disch:=first|decide|(simp only[zF,zG,hnt, h1, h2, h3, h4, h5];decide)) only [zA,zB,zC,zD,zE,zF,zG,zH,zI,zJ,zK,HV.cells,hnt, h1, h2, h3, h4, h5]; try exact rfl) (by first|assumption|(simp (disch:=omega) only [get_same,get_other,hnt, h1, h2, h3, h4, h5]; first|done|exact rfl)) (by first|assumption|rfl|(simp only [zI,zJ,HV.cells,hnt, h1, h2, h3, h4, h5]; exact rfl)) ?_
     | refine r_box (by simp (disch:=first|decide|(simp only[zF,zG,hnt, h1, h2, h3, h4, h5];decide)) only [zA,zB,zC,zD,zE,zF,zG,zH,zI,zJ,zK,HV.cells,hnt, h1, h2, h3, h4, h5]; try exact rfl) ?_
     | refine r_alloc ?_
     | refine r_st (cs' := _) (by simp (disch:=first|decide|(simp only[zF,zG,hnt, h1, h2, h3, h4, h5];decide)) only [zA,zB,zC,zD,zE,zF,zG,zH,zI,zJ,zK,HV.cells,hnt, h1, h2, h3, h4, h5]; try exact rfl) (by simp (disch:=first|decide|(simp only[zF,zG,hnt, h1, h2, h3, h4, h5];decide)) only [zA,zB,zC,zD,zE,zF,zG,zH,zI,zJ,zK,HV.cells,hnt, h1, h2, h3, h4, h5]; try exact rfl) (by first|assumption|(simp (disch:=omega) only [get_same,get_other,hnt, h1, h2, h3, h4, h5]; first|done|exact rfl)) (by exact True.intro) (by rfl) (by rfl) (by first|assumption|rfl|(simp only [zI,zJ,HV.cells,hnt, h1, h2, h3, h4, h5]; exact rfl)) (by omega) ?_
     | refine r_add (by simp (disch:=first|decide|(simp only[zF,zG,hnt, h1, h2, h3, h4, h5];decide)) only [zA,zB,zC,zD,zE,zF,zG,zH,zI,zJ,zK,HV.cells,hnt, h1, h2, h3, h4, h5]; try exact rfl) (by simp (disch:=first|decide|(simp only[zF,zG,hnt, h1, h2, h3, h4, h5];decide)) only [zA,zB,zC,zD,zE,zF,zG,zH,zI,zJ,zK,HV.cells,hnt, h1, h2, h3, h4, h5]; try exact rfl) (by omega) (by omega) ?_
     | refine r_sub (by simp (disch:=first|decide|(simp only[zF,zG,hnt, h1, h2, h3, h4, h5];decide)) only [zA,zB,zC,zD,zE,zF,zG,zH,zI,zJ,zK,HV.cells,hnt, h1, h2, h3, h4, h5]; try exact rfl) (by simp (disch:=first|decide|(simp only[zF,zG,hnt, h1, h2, h3, h4, h5];decide)) only [zA,zB,zC,zD,zE,zF,zG,zH,zI,zJ,zK,HV.cells,hnt, h1, h2, h3, h4, h5]; try exact rfl) (by omega) (by omega) ?_
     | refine r_mul (by simp (disch:=first|decide|(simp only[zF,zG,hnt, h1, h2, h3, h4, h5];decide)) only [zA,zB,zC,zD,zE,zF,zG,zH,zI,zJ,zK,HV.cells,hnt, h1, h2, h3, h4, h5]; try exact rfl) (by simp (disch:=first|decide|(simp only[zF,zG,hnt, h1, h2, h3, h4, h5];decide)) only [zA,zB,zC,zD,zE,zF,zG,zH,zI,zJ,zK,HV.cells,hnt, h1, h2, h3, h4, h5]; try exact rfl) (by omega) (by omega) ?_
     | refine r_neg (by simp (disch:=first|decide|(simp only[zF,zG,hnt, h1, h2, h3, h4, h5];decide)) only [zA,zB,zC,zD,zE,zF,zG,zH,zI,zJ,zK,HV.cells,hnt, h1, h2, h3, h4, h5]; try exact rfl) (by omega) (by omega) ?_
     | refine r_leq (by simp (disch:=first|decide|(simp only[zF,zG,hnt, h1, h2, h3, h4, h5];decide)) only [zA,zB,zC,zD,zE,zF,zG,zH,zI,zJ,zK,HV.cells,hnt, h1, h2, h3, h4, h5]; try exact rfl) (by simp (disch:=first|decide|(simp only[zF,zG,hnt, h1, h2, h3, h4, h5];decide)) only [zA,zB,zC,zD,zE,zF,zG,zH,zI,zJ,zK,HV.cells,hnt, h1, h2, h3, h4, h5]; try exact rfl) (fun hc => ?_) (fun hc => ?_) <;> (try (exfalso; omega))
     | refine r_ixa (by simp (disch:=first|decide|(simp only[zF,zG,hnt, h1, h2, h3, h4, h5];decide)) only [zA,zB,zC,zD,zE,zF,zG,zH,zI,zJ,zK,HV.cells,hnt, h1, h2, h3, h4, h5]; try exact rfl) (by simp (disch:=first|decide|(simp only[zF,zG,hnt, h1, h2, h3, h4, h5];decide)) only [zA,zB,zC,zD,zE,zF,zG,zH,zI,zJ,zK,HV.cells,hnt, h1, h2, h3, h4, h5]; try exact rfl) (by omega) ?_
     | refine r_build (by simp (disch:=first|decide|(simp only[zF,zG,hnt, h1, h2, h3, h4, h5];decide)) only [evParts,List.map_cons,List.map_nil,List.nil_append,List.cons_append,List.append_nil,zA,zB,zC,zD,zE,zF,zG,zH,zI,zJ,zK,HV.cells,hnt, h1, h2, h3, h4, h5]; try exact rfl) ?_
     | refine w_draw (by omega) (by repeat' first|assumption|refine D.upd ?_ (by omega)|exact D.mono (by assumption) (by omega)) ?_
     | refine d_nil ?_
     | refine d_rest rfl ?_
     | refine d_bs rfl ?_
     | refine d_box rfl ?_
     | refine d_alloc rfl ?_
     | refine d_one rfl ?_
     | refine d_next (by omega) ?_
     | refine d_laid ?_
    have hj : H = n + 1 := by omega
    subst hj
    rw [u_row] at hget
    refine hq _ g ?_ ?_ ?_ ?_ ?_ ?_ (Ch.refl hdg) hget
    all_goals first|(simp only [zL,zM,zF,zG,hnt, hds, h1, h2, h3, h4];done)|(simp (disch:=first|decide|(simp only[zF,zG,hnt, hds, h1, h2, h3, h4];decide)) only [zA,zB,zC,zD,zE,zF,zG,zH,zI,zJ,zK,HV.cells,hnt, hds, h1, h2, h3, h4];first|done|exact rfl)|assumption
  | k + 1, H, a, g, hk, hLH, hdg, hgt, hget, hnt, hds, h1, h2, h3, h4, h5, hq => by
    have hH : H ≤ n := by omega
    have ec : t.cells[0 + 0]? = some (i64 n) := by rw [← htc]; rfl
    have ea : t.cells[0 + 2 + 0]? = some (i64 t.a) := rfl
    have eb : t.cells[0 + 2 + 1]? = some (i64 t.b) := rfl
    have b1 := mulb (i := L) (j := H) hL hH hn hb
    have b2 := mulb (i := H) (j := L) hH hL hn ha
    have w1 := bc_set t (uM n t.a t.b L H) (i := L) (j := H) (by omega) (by omega) (((H : Int) - L) * t.b)
    have w2 := bc_set t (mset (uM n t.a t.b L H) L H (((H : Int) - L) * t.b)) (i := H) (j := L) (by omega) (by omega) (((L : Int) - H) * t.a)
    refine w_it (show L97w0 = _ by unfold L97w0; exact rfl) ?_
    repeat' first
     | refine r_nil ?_
     | refine th_n ?_
     | refine th_r ?_
     | refine th_e ?_
     | refine ib_n ?_
     | refine ib_r ?_
     | refine ib_e ?_
     | refine ib_x (by decide) ?_
     | refine w_exit ?_
     | refine w_seq ?_
     | refine w_reg ?_
     | refine w_ret ?_
     | refine w_skip ?_
     | refine w_block ?_
     | refine w_t (by simp (disch:=first|decide|(simp only[zF,zG,hnt, h1, h2, h3, h4, h5, hgt, hget];decide)) only [zA,zB,zC,zD,zE,zF,zG,zH,zI,zJ,zK,HV.cells,hnt, h1, h2, h3, h4, h5, hgt, hget]; first|done|exact rfl) ?_
     | refine w_f (by simp (disch:=first|decide|(simp only[zF,zG,hnt, h1, h2, h3, h4, h5, hgt, hget];decide)) only [zA,zB,zC,zD,zE,zF,zG,zH,zI,zJ,zK,HV.cells,hnt, h1, h2, h3, h4, h5, hgt, hget]; first|done|exact rfl) ?_
     | refine r_move (by simp (disch:=first|decide|(simp only[zF,zG,hnt, h1, h2, h3, h4, h5, hgt, hget];decide)) only [zA,zB,zC,zD,zE,zF,zG,zH,zI,zJ,zK,HV.cells,hnt, h1, h2, h3, h4, h5, hgt, hget]; try exact rfl) ?_
     | refine r_fa (by simp (disch:=first|decide|(simp only[zF,zG,hnt, h1, h2, h3, h4, h5, hgt, hget];decide)) only [zA,zB,zC,zD,zE,zF,zG,zH,zI,zJ,zK,HV.cells,hnt, h1, h2, h3, h4, h5, hgt, hget]; try exact rfl) ?_
     | refine r_ld1 (by simp (disch:=first|decide|(simp only[zF,zG,hnt, h1, h2, h3, h4, h5, hgt, hget];decide)) only [zA,zB,zC,zD,zE,zF,zG,zH,zI,zJ,zK,HV.cells,hnt, h1, h2, h3, h4, h5, hgt, hget]; try exact rfl) (by first|assumption|(simp (disch:=omega) only [get_same,get_other,hnt, h1, h2, h3, h4, h5, hgt, hget]; first|done|exact rfl)) (by first|assumption|rfl|(simp only [zI,zJ,HV.cells,hnt, h1, h2, h3, h4, h5, hgt, hget]; exact rfl)) ?_
     | refine r_ldn (by simp (disch:=first|decide|(simp only[zF,zG,hnt, h1, h2, h3, h4, h5, hgt, hget];decide)) only [zA,zB,zC,zD,zE,zF,zG,zH,zI,zJ,zK,HV.cells,hnt, h1, h2, h3, h4, h5, hgt, hget]; try exact rfl) (by first|assumption|(simp (disch:=omega) only [get_same,get_other,hnt, h1, h2, h3, h4, h5, hgt, hget]; first|done|exact rfl)) (by first|assumption|rfl|(simp only [zI,zJ,HV.cells,hnt, h1, h2, h3, h4, h5, hgt, hget]; exact rfl)) ?_
     | refine r_box (by simp (disch:=first|decide|(simp only[zF,zG,hnt, h1, h2, h3, h4, h5, hgt, hget];decide)) only [zA,zB,zC,zD,zE,zF,zG,zH,zI,zJ,zK,HV.cells,hnt, h1, h2, h3, h4, h5, hgt, hget]; try exact rfl) ?_
     | refine r_alloc ?_
     | refine r_st (cs' := _) (by simp (disch:=first|decide|(simp only[zF,zG,hnt, h1, h2, h3, h4, h5, hgt, hget];decide)) only [zA,zB,zC,zD,zE,zF,zG,zH,zI,zJ,zK,HV.cells,hnt, h1, h2, h3, h4, h5, hgt, hget]; try exact rfl) (by simp (disch:=first|decide|(simp only[zF,zG,hnt, h1, h2, h3, h4, h5, hgt, hget];decide)) only [zA,zB,zC,zD,zE,zF,zG,zH,zI,zJ,zK,HV.cells,hnt, h1, h2, h3, h4, h5, hgt, hget]; try exact rfl) (by first|assumption|(simp (disch:=omega) only [get_same,get_other,hnt, h1, h2, h3, h4, h5, hgt, hget]; first|done|exact rfl)) (by exact True.intro) (by rfl) (by rfl) (by first|assumption|rfl|(simp only [zI,zJ,HV.cells,hnt, h1, h2, h3, h4, h5, hgt, hget]; exact rfl)) (by omega) ?_
     | refine r_add (by simp (disch:=first|decide|(simp only[zF,zG,hnt, h1, h2, h3, h4, h5, hgt, hget];decide)) only [zA,zB,zC,zD,zE,zF,zG,zH,zI,zJ,zK,HV.cells,hnt, h1, h2, h3, h4, h5, hgt, hget]; try exact rfl) (by simp (disch:=first|decide|(simp only[zF,zG,hnt, h1, h2, h3, h4, h5, hgt, hget];decide)) only [zA,zB,zC,zD,zE,zF,zG,zH,zI,zJ,zK,HV.cells,hnt, h1, h2, h3, h4, h5, hgt, hget]; try exact rfl) (by omega) (by omega) ?_
     | refine r_sub (by simp (disch:=first|decide|(simp only[zF,zG,hnt, h1, h2, h3, h4, h5, hgt, hget];decide)) only [zA,zB,zC,zD,zE,zF,zG,zH,zI,zJ,zK,HV.cells,hnt, h1, h2, h3, h4, h5, hgt, hget]; try exact rfl) (by simp (disch:=first|decide|(simp only[zF,zG,hnt, h1, h2, h3, h4, h5, hgt, hget];decide)) only [zA,zB,zC,zD,zE,zF,zG,zH,zI,zJ,zK,HV.cells,hnt, h1, h2, h3, h4, h5, hgt, hget]; try exact rfl) (by omega) (by omega) ?_
     | refine r_mul (by simp (disch:=first|decide|(simp only[zF,zG,hnt, h1, h2, h3, h4, h5, hgt, hget];decide)) only [zA,zB,zC,zD,zE,zF,zG,zH,zI,zJ,zK,HV.cells,hnt, h1, h2, h3, h4, h5, hgt, hget]; try exact rfl) (by simp (disch:=first|decide|(simp only[zF,zG,hnt, h1, h2, h3, h4, h5, hgt, hget];decide)) only [zA,zB,zC,zD,zE,zF,zG,zH,zI,zJ,zK,HV.cells,hnt, h1, h2, h3, h4, h5, hgt, hget]; try exact rfl) (by omega) (by omega) ?_
     | refine r_neg (by simp (disch:=first|decide|(simp only[zF,zG,hnt, h1, h2, h3, h4, h5, hgt, hget];decide)) only [zA,zB,zC,zD,zE,zF,zG,zH,zI,zJ,zK,HV.cells,hnt, h1, h2, h3, h4, h5, hgt, hget]; try exact rfl) (by omega) (by omega) ?_
     | refine r_leq (by simp (disch:=first|decide|(simp only[zF,zG,hnt, h1, h2, h3, h4, h5, hgt, hget];decide)) only [zA,zB,zC,zD,zE,zF,zG,zH,zI,zJ,zK,HV.cells,hnt, h1, h2, h3, h4, h5, hgt, hget]; try exact rfl) (by simp (disch:=first|decide|(simp only[zF,zG,hnt, h1, h2, h3, h4, h5, hgt, hget];decide)) only [zA,zB,zC,zD,zE,zF,zG,zH,zI,zJ,zK,HV.cells,hnt, h1, h2, h3, h4, h5, hgt, hget]; try exact rfl) (fun hc => ?_) (fun hc => ?_) <;> (try (exfalso; omega))
     | refine r_ixa (by simp (disch:=first|decide|(simp only[zF,zG,hnt, h1, h2, h3, h4, h5, hgt, hget];decide)) only [zA,zB,zC,zD,zE,zF,zG,zH,zI,zJ,zK,HV.cells,hnt, h1, h2, h3, h4, h5, hgt, hget]; try exact rfl) (by simp (disch:=first|decide|(simp only[zF,zG,hnt, h1, h2, h3, h4, h5, hgt, hget];decide)) only [zA,zB,zC,zD,zE,zF,zG,zH,zI,zJ,zK,HV.cells,hnt, h1, h2, h3, h4, h5, hgt, hget]; try exact rfl) (by omega) ?_
     | refine r_build (by simp (disch:=first|decide|(simp only[zF,zG,hnt, h1, h2, h3, h4, h5, hgt, hget];decide)) only [evParts,List.map_cons,List.map_nil,List.nil_append,List.cons_append,List.append_nil,zA,zB,zC,zD,zE,zF,zG,zH,zI,zJ,zK,HV.cells,hnt, h1, h2, h3, h4, h5, hgt, hget]; try exact rfl) ?_
     | refine w_draw (by omega) (by repeat' first|assumption|refine D.upd ?_ (by omega)|exact D.mono (by assumption) (by omega)) ?_
     | refine d_nil ?_
     | refine d_rest rfl ?_
     | refine d_bs rfl ?_
     | refine d_box rfl ?_
     | refine d_alloc rfl ?_
     | refine d_one rfl ?_
     | refine d_next (by omega) ?_
     | refine d_laid ?_
    refine loop97w0 hn htc ha hb hne hfl hL htb hd hbk k (H + 1) _ _ (by omega) (by omega) ?_ ?_ ?_ ?_ ?_ ?_ ?_ ?_ ?_ ?_ (fun a' g' g1 g2 g3 g4 g5 g6 g7 g8 => hq a' g' g1 g2 g3 g4 g5 g6 (Ch.trans ?_ g7) g8)
    all_goals try first|(simp only [zL,zM,zF,zG,hnt, hds, h1, h2, h3, h4, h5];done)|(simp (disch:=first|decide|(simp only[zF,zG,hnt, hds, h1, h2, h3, h4, h5];decide)) only [zA,zB,zC,zD,zE,zF,zG,zH,zI,zJ,zK,HV.cells,hnt, hds, h1, h2, h3, h4, h5];first|done|exact rfl)|assumption
    · exact (by repeat' first|assumption|refine D.upd ?_ (by omega)|exact D.mono (by assumption) (by omega))
    · rw [get_other _ _ hne, get_other _ _ hne]; exact hgt
    · rw [get_same, ← u_next hLH hH]
    · exact ⟨Nat.le_refl _, (by repeat' first|assumption|refine D.upd ?_ (by omega)|exact D.mono (by assumption) (by omega)), fun b hb hne => by rw [get_other _ _ hne, get_other _ _ hne]⟩
theorem loop97w1 {lp : Nat → Option LFunc} {Q : HExit → HAct → HS → Prop} {h : Tr HBlk} {nx : Nat} (hn : n ≤ 10) (htc : t.c = n) (ha : -1000000 ≤ t.a ∧ t.a ≤ 1000000) (hb : -1000000 ≤ t.b ∧ t.b ≤ 1000000) (hne : tb ≠ bk) (hfl : fl ≤ bk)
    (htb : h.get tb = some (.cells t.cells .exact)) (hd : D h nx) (hbk : bk < nx) (htn : tb < nx) :
    ∀ (k L : Nat) (a : HAct) (g : Tr HBlk), k + L = n + 1 → D g nx → g.get tb = some (.cells t.cells .exact) → g.get bk = some (.cells (bcells t (uM n t.a t.b L L)) .exact) →
      a.nt = 57 → a.defers = [] → a.tmp 1 = .ptr (some (tb, 0)) → a.tmp 2 = .ptr (some (tb + 1, 0)) → a.tmp 3 = .ptr (some (bk, 0)) → a.tmp 4 = i64 L →
      (∀ a' g', a'.nt = 57 → a'.defers = [] → a'.tmp 1 = .ptr (some (tb, 0)) → a'.tmp 2 = .ptr (some (tb + 1, 0)) → a'.tmp 3 = .ptr (some (bk, 0)) → Ch bk g nx g' nx → g'.get bk = some (.cells (bcells t (u0 n t.a t.b)) .exact) → Q .normal a' ⟨g', nx⟩) →
      W lp fl none (.loop L97w1) (inBlockH 0 Q) a ⟨g, nx⟩
  | 0, L, a, g, hk, hdg, hgt, hget, hnt, hds, h1, h2, h3, h4, hq => by
    have ec : t.cells[0 + 0]? = some (i64 n) := by rw [← htc]; rfl
    refine w_it (show L97w1 = _ by unfold L97w1; exact rfl) ?_
    repeat' first
     | refine r_nil ?_
     | refine th_n ?_
     | refine th_r ?_
     | refine th_e ?_
     | refine ib_n ?_
     | refine ib_r ?_
     | refine ib_e ?_
     | refine ib_x (by decide) ?_
     | refine w_exit ?_
     | refine w_seq ?_
     | refine w_reg ?_
     | refine w_ret ?_
     | refine w_skip ?_
     | refine w_block ?_
     | refine w_t (by simp (disch:=first|decide|(simp only[zF,zG,hnt, h1, h2, h3, h4];decide)) only [zA,zB,zC,zD,zE,zF,zG,zH,zI,zJ,zK,HV.cells,hnt, h1, h2, h3, h4]; first|done|exact rfl) ?_
     | refine w_f (by simp (disch:=first|decide|(simp only[zF,zG,hnt, h1, h2, h3, h4];decide)) only [zA,zB,zC,zD,zE,zF,zG,zH,zI,zJ,zK,HV.cells,hnt, h1, h2, h3, h4]; first|done|exact rfl) ?_
     | refine r_move (by simp (disch:=first|decide|(simp only[zF,zG,hnt, h1, h2, h3, h4];decide)) only [zA,zB,zC,zD,zE,zF,zG,zH,zI,zJ,zK,HV.cells,hnt, h1, h2, h3, h4]; try exact rfl) ?_
     | refine r_fa (by simp (disch:=first|decide|(simp only[zF,zG,hnt, h1, h2, h3, h4];decide)) only [zA,zB,zC,zD,zE,zF,zG,zH,zI,zJ,zK,HV.cells,hnt, h1, h2, h3, h4]; try exact rfl) ?_
     | refine r_ld1 (by simp (disch:=first|decide|(simp only[zF,zG,hnt, h1, h2, h3, h4];decide)) only [zA,zB,zC,zD,zE,zF,zG,zH,zI,zJ,zK,HV.cells,hnt, h1, h2, h3, h4]; try exact rfl) (by first|assumption|(simp (disch:=omega) only [get_same,get_other,hnt, h1, h2, h3, h4]; first|done|exact rfl)) (by first|assumption|rfl|(simp only [zI,zJ,HV.cells,hnt, h1, h2, h3, h4]; exact rfl)) ?_
     | refine r_ldn (by simp (disch:=first|decide|(simp only[zF,zG,hnt, h1, h2, h3, h4];decide)) only [zA,zB,zC,zD,zE,zF,zG,zH,zI,zJ,zK,HV.cells,hnt, h1, h2, h3, h4]; try exact rfl) (by first|assumption|(simp (disch:=omega) only [get_same,get_other,hnt, h1, h2, h3, h4]; first|done|exact rfl)) (by first|assumption|rfl|(simp only [zI,zJ,HV.cells,hnt, h1, h2, h3, h4]; exact rfl)) ?_
     | refine r_box (by simp (disch:=first|decide|(simp only[zF,zG,hnt, h1, h2, h3, h4];decide)) only [zA,zB,zC,zD,zE,zF,zG,zH,zI,zJ,zK,HV.cells,hnt, h1, h2, h3, h4]; try exact rfl) ?_
     | refine r_alloc ?_
     | refine r_st (cs' := _) (by simp (disch:=first|decide|(simp only[zF,zG,hnt, h1, h2, h3, h4];decide)) only [zA,zB,zC,zD,zE,zF,zG,zH,zI,zJ,zK,HV.cells,hnt, h1, h2, h3, h4]; try exact rfl) (by simp (disch:=first|decide|(simp only[zF,zG,hnt, h1, h2, h3, h4];decide)) only [zA,zB,zC,zD,zE,zF,zG,zH,zI,zJ,zK,HV.cells,hnt, h1, h2, h3, h4]; try exact rfl) (by first|assumption|(simp (disch:=omega) only [get_same,get_other,hnt, h1, h2, h3, h4]; first|done|exact rfl)) (by exact True.intro) (by rfl) (by rfl) (by first|assumption|rfl|(simp only [zI,zJ,HV.cells,hnt, h1, h2, h3, h4]; exact rfl)) (by omega) ?_
     | refine r_add (by simp (disch:=first|decide|(simp only[zF,zG,hnt, h1, h2, h3, h4];decide)) only [zA,zB,zC,zD,zE,zF,zG,zH,zI,zJ,zK,HV.cells,hnt, h1, h2, h3, h4]; try exact rfl) (by simp (disch:=first|decide|(simp only[zF,zG,hnt, h1, h2, h3, h4];decide)) only [zA,zB,zC,zD,zE,zF,zG,zH,zI,zJ,zK,HV.cells,hnt, h1, h2, h3, h4]; try exact rfl) (by omega) (by omega) ?_
     | refine r_sub (by simp (disch:=first|decide|(simp only[zF,zG,hnt, h1, h2, h3, h4];decide)) only [zA,zB,zC,zD,zE,zF,zG,zH,zI,zJ,zK,HV.cells,hnt, h1, h2, h3, h4]; try exact rfl) (by simp (disch:=first|decide|(simp only[zF,zG,hnt, h1, h2, h3, h4];decide)) only [zA,zB,zC,zD,zE,zF,zG,zH,zI,zJ,zK,HV.cells,hnt, h1, h2, h3, h4]; try exact rfl) (by omega) (by omega) ?_
     | refine r_mul (by simp (disch:=first|decide|(simp only[zF,zG,hnt, h1, h2, h3, h4];decide)) only [zA,zB,zC,zD,zE,zF,zG,zH,zI,zJ,zK,HV.cells,hnt, h1, h2, h3, h4]; try exact rfl) (by simp (disch:=first|decide|(simp only[zF,zG,hnt, h1, h2, h3, h4];decide)) only [zA,zB,zC,zD,zE,zF,zG,zH,zI,zJ,zK,HV.cells,hnt, h1, h2, h3, h4]; try exact rfl) (by omega) (by omega) ?_
     | refine r_neg (by simp (disch:=first|decide|(simp only[zF,zG,hnt, h1, h2, h3, h4];decide)) only [zA,zB,zC,zD,zE,zF,zG,zH,zI,zJ,zK,HV.cells,hnt, h1, h2, h3, h4]; try exact rfl) (by omega) (by omega) ?_
     | refine r_leq (by simp (disch:=first|decide|(simp only[zF,zG,hnt, h1, h2, h3, h4];decide)) only [zA,zB,zC,zD,zE,zF,zG,zH,zI,zJ,zK,HV.cells,hnt, h1, h2, h3, h4]; try exact rfl) (by simp (disch:=first|decide|(simp only[zF,zG,hnt, h1, h2, h3, h4];decide)) only [zA,zB,zC,zD,zE,zF,zG,zH,zI,zJ,zK,HV.cells,hnt, h1, h2, h3, h4]; try exact rfl) (fun hc => ?_) (fun hc => ?_) <;> (try (exfalso; omega))
     | refine r_ixa (by simp (disch:=first|decide|(simp only[zF,zG,hnt, h1, h2, h3, h4];decide)) only [zA,zB,zC,zD,zE,zF,zG,zH,zI,zJ,zK,HV.cells,hnt, h1, h2, h3, h4]; try exact rfl) (by simp (disch:=first|decide|(simp only[zF,zG,hnt, h1, h2, h3, h4];decide)) only [zA,zB,zC,zD,zE,zF,zG,zH,zI,zJ,zK,HV.cells,hnt, h1, h2, h3, h4]; try exact rfl) (by omega) ?_
     | refine r_build (by simp (disch:=first|decide|(simp only[zF,zG,hnt, h1, h2, h3, h4];decide)) only [evParts,List.map_cons,List.map_nil,List.nil_append,List.cons_append,List.append_nil,zA,zB,zC,zD,zE,zF,zG,zH,zI,zJ,zK,HV.cells,hnt, h1, h2, h3, h4]; try exact rfl) ?_
     | refine w_draw (by omega) (by repeat' first|assumption|refine D.upd ?_ (by omega)|exact D.mono (by assumption) (by omega)) ?_
     | refine d_nil ?_
     | refine d_rest rfl ?_
     | refine d_bs rfl ?_
     | refine d_box rfl ?_
     | refine d_alloc rfl ?_
     | refine d_one rfl ?_
     | refine d_next (by omega) ?_
     | refine d_laid ?_
    have hj : L = n + 1 := by omega
    subst hj
    rw [u_end] at hget
    refine hq _ g ?_ ?_ ?_ ?_ ?_ (Ch.refl hdg) hget
    all_goals first|(simp only [zL,zM,zF,zG,hnt, hds, h1, h2, h3];done)|(simp (disch:=first|decide|(simp only[zF,zG,hnt, hds, h1, h2, h3];decide)) only [zA,zB,zC,zD,zE,zF,zG,zH,zI,zJ,zK,HV.cells,hnt, hds, h1, h2, h3];first|done|exact rfl)|assumption
  | k + 1, L, a, g, hk, hdg, hgt, hget, hnt, hds, h1, h2, h3, h4, hq => by
    have hL : L ≤ n := by omega
    have ec : t.cells[0 + 0]? = some (i64 n) := by rw [← htc]; rfl
    refine w_it (show L97w1 = _ by unfold L97w1; exact rfl) ?_
    repeat' first
     | refine r_nil ?_
     | refine th_n ?_
     | refine th_r ?_
     | refine th_e ?_
     | refine ib_n ?_
     | refine ib_r ?_
     | refine ib_e ?_
     | refine ib_x (by decide) ?_
     | refine w_exit ?_
     | refine w_seq ?_
     | refine w_reg ?_
     | refine w_ret ?_
     | refine w_skip ?_
     | refine w_block ?_
     | refine w_t (by simp (disch:=first|decide|(simp only[zF,zG,hnt, h1, h2, h3, h4];decide)) only [zA,zB,zC,zD,zE,zF,zG,zH,zI,zJ,zK,HV.cells,hnt, h1, h2, h3, h4]; first|done|exact rfl) ?_
     | refine w_f (by simp (disch:=first|decide|(simp only[zF,zG,hnt, h1, h2, h3, h4];decide)) only [zA,zB,zC,zD,zE,zF,zG,zH,zI,zJ,zK,HV.cells,hnt, h1, h2, h3, h4]; first|done|exact rfl) ?_
     | refine r_move (by simp (disch:=first|decide|(simp only[zF,zG,hnt, h1, h2, h3, h4];decide)) only [zA,zB,zC,zD,zE,zF,zG,zH,zI,zJ,zK,HV.cells,hnt, h1, h2, h3, h4]; try exact rfl) ?_
     | refine r_fa (by simp (disch:=first|decide|(simp only[zF,zG,hnt, h1, h2, h3, h4];decide)) only [zA,zB,zC,zD,zE,zF,zG,zH,zI,zJ,zK,HV.cells,hnt, h1, h2, h3, h4]; try exact rfl) ?_
     | refine r_ld1 (by simp (disch:=first|decide|(simp only[zF,zG,hnt, h1, h2, h3, h4];decide)) only [zA,zB,zC,zD,zE,zF,zG,zH,zI,zJ,zK,HV.cells,hnt, h1, h2, h3, h4]; try exact rfl) (by first|assumption|(simp (disch:=omega) only [get_same,get_other,hnt, h1, h2, h3, h4]; first|done|exact rfl)) (by first|assumption|rfl|(simp only [zI,zJ,HV.cells,hnt, h1, h2, h3, h4]; exact rfl)) ?_
     | refine r_ldn (by simp (disch:=first|decide|(simp only[zF,zG,hnt, h1, h2, h3, h4];decide)) only [zA,zB,zC,zD,zE,zF,zG,zH,zI,zJ,zK,HV.cells,hnt, h1, h2, h3, h4]; try exact rfl) (by first|assumption|(simp (disch:=omega) only [get_same,get_other,hnt, h1, h2, h3, h4]; first|done|exact rfl)) (by first|assumption|rfl|(simp only [zI,zJ,HV.cells,hnt, h1, h2, h3, h4]; exact rfl)) ?_
     | refine r_box (by simp (disch:=first|decide|(simp only[zF,zG,hnt, h1, h2, h3, h4];decide)) only [zA,zB,zC,zD,zE,zF,zG,zH,zI,zJ,zK,HV.cells,hnt, h1, h2, h3, h4]; try exact rfl) ?_
     | refine r_alloc ?_
     | refine r_st (cs' := _) (by simp (disch:=first|decide|(simp only[zF,zG,hnt, h1, h2, h3, h4];decide)) only [zA,zB,zC,zD,zE,zF,zG,zH,zI,zJ,zK,HV.cells,hnt, h1, h2, h3, h4]; try exact rfl) (by simp (disch:=first|decide|(simp only[zF,zG,hnt, h1, h2, h3, h4];decide)) only [zA,zB,zC,zD,zE,zF,zG,zH,zI,zJ,zK,HV.cells,hnt, h1, h2, h3, h4]; try exact rfl) (by first|assumption|(simp (disch:=omega) only [get_same,get_other,hnt, h1, h2, h3, h4]; first|done|exact rfl)) (by exact True.intro) (by rfl) (by rfl) (by first|assumption|rfl|(simp only [zI,zJ,HV.cells,hnt, h1, h2, h3, h4]; exact rfl)) (by omega) ?_
     | refine r_add (by simp (disch:=first|decide|(simp only[zF,zG,hnt, h1, h2, h3, h4];decide)) only [zA,zB,zC,zD,zE,zF,zG,zH,zI,zJ,zK,HV.cells,hnt, h1, h2, h3, h4]; try exact rfl) (by simp (disch:=first|decide|(simp only[zF,zG,hnt, h1, h2, h3, h4];decide)) only [zA,zB,zC,zD,zE,zF,zG,zH,zI,zJ,zK,HV.cells,hnt, h1, h2, h3, h4]; try exact rfl) (by omega) (by omega) ?_
     | refine r_sub (by simp (disch:=first|decide|(simp only[zF,zG,hnt, h1, h2, h3, h4];decide)) only [zA,zB,zC,zD,zE,zF,zG,zH,zI,zJ,zK,HV.cells,hnt, h1, h2, h3, h4]; try exact rfl) (by simp (disch:=first|decide|(simp only[zF,zG,hnt, h1, h2, h3, h4];decide)) only [zA,zB,zC,zD,zE,zF,zG,zH,zI,zJ,zK,HV.cells,hnt, h1, h2, h3, h4]; try exact rfl) (by omega) (by omega) ?_
     | refine r_mul (by simp (disch:=first|decide|(simp only[zF,zG,hnt, h1, h2, h3, h4];decide)) only [zA,zB,zC,zD,zE,zF,zG,zH,zI,zJ,zK,HV.cells,hnt, h1, h2, h3, h4]; try exact rfl) (by simp (disch:=first|decide|(simp only[zF,zG,hnt, h1, h2, h3, h4];decide)) only [zA,zB,zC,zD,zE,zF,zG,zH,zI,zJ,zK,HV.cells,hnt, h1, h2, h3, h4]; try exact rfl) (by omega) (by omega) ?_
     | refine r_neg (by simp (disch:=first|decide|(simp only[zF,zG,hnt, h1, h2, h3, h4];decide)) only [zA,zB,zC,zD,zE,zF,zG,zH,zI,zJ,zK,HV.cells,hnt, h1, h2, h3, h4]; try exact rfl) (by omega) (by omega) ?_
     | refine r_leq (by simp (disch:=first|decide|(simp only[zF,zG,hnt, h1, h2, h3, h4];decide)) only [zA,zB,zC,zD,zE,zF,zG,zH,zI,zJ,zK,HV.cells,hnt, h1, h2, h3, h4]; try exact rfl) (by simp (disch:=first|decide|(simp only[zF,zG,hnt, h1, h2, h3, h4];decide)) only [zA,zB,zC,zD,zE,zF,zG,zH,zI,zJ,zK,HV.cells,hnt, h1, h2, h3, h4]; try exact rfl) (fun hc => ?_) (fun hc => ?_) <;> (try (exfalso; omega))
     | refine r_ixa (by simp (disch:=first|decide|(simp only[zF,zG,hnt, h1, h2, h3, h4];decide)) only [zA,zB,zC,zD,zE,zF,zG,zH,zI,zJ,zK,HV.cells,hnt, h1, h2, h3, h4]; try exact rfl) (by simp (disch:=first|decide|(simp only[zF,zG,hnt, h1, h2, h3, h4];decide)) only [zA,zB,zC,zD,zE,zF,zG,zH,zI,zJ,zK,HV.cells,hnt, h1, h2, h3, h4]; try exact rfl) (by omega) ?_
     | refine r_build (by simp (disch:=first|decide|(simp only[zF,zG,hnt, h1, h2, h3, h4];decide)) only [evParts,List.map_cons,List.map_nil,List.nil_append,List.cons_append,List.append_nil,zA,zB,zC,zD,zE,zF,zG,zH,zI,zJ,zK,HV.cells,hnt, h1, h2, h3, h4]; try exact rfl) ?_
     | refine w_draw (by omega) (by repeat' first|assumption|refine D.upd ?_ (by omega)|exact D.mono (by assumption) (by omega)) ?_
     | refine d_nil ?_
     | refine d_rest rfl ?_
     | refine d_bs rfl ?_
     | refine d_box rfl ?_
     | refine d_alloc rfl ?_
     | refine d_one rfl ?_
     | refine d_next (by omega) ?_
     | refine d_laid ?_
    refine loop97w0 hn htc ha hb hne hfl hL htb hd hbk (n + 1 - L) L _ _ (by omega) (by omega) hdg hgt hget ?_ ?_ ?_ ?_ ?_ ?_ ?_ (fun a' g' g1 g2 g3 g4 g5 g6 g7 g8 => ?_)
    all_goals try first|(simp only [zL,zM,zF,zG,hnt, hds, h1, h2, h3, h4];done)|(simp (disch:=first|decide|(simp only[zF,zG,hnt, hds, h1, h2, h3, h4];decide)) only [zA,zB,zC,zD,zE,zF,zG,zH,zI,zJ,zK,HV.cells,hnt, hds, h1, h2, h3, h4];first|done|exact rfl)|assumption
    repeat' first
     | refine r_nil ?_
     | refine th_n ?_
     | refine th_r ?_
     | refine th_e ?_
     | refine ib_n ?_
     | refine ib_r ?_
     | refine ib_e ?_
     | refine ib_x (by decide) ?_
     | refine w_exit ?_
     | refine w_seq ?_
     | refine w_reg ?_
     | refine w_ret ?_
     | refine w_skip ?_
     | refine w_block ?_
     | refine w_t (by simp (disch:=first|decide|(simp only[zF,zG,g1, g3, g4, g5, g6];decide)) only [zA,zB,zC,zD,zE,zF,zG,zH,zI,zJ,zK,HV.cells,g1, g3, g4, g5, g6]; first|done|exact rfl) ?_
     | refine w_f (by simp (disch:=first|decide|(simp only[zF,zG,g1, g3, g4, g5, g6];decide)) only [zA,zB,zC,zD,zE,zF,zG,zH,zI,zJ,zK,HV.cells,g1, g3, g4, g5, g6]; first|done|exact rfl) ?_
     | refine r_move (by simp (disch:=first|decide|(simp only[zF,zG,g1, g3, g4, g5, g6];decide)) only [zA,zB,zC,zD,zE,zF,zG,zH,zI,zJ,zK,HV.cells,g1, g3, g4, g5, g6]; try exact rfl) ?_
     | refine r_fa (by simp (disch:=first|decide|(simp only[zF,zG,g1, g3, g4, g5, g6];decide)) only [zA,zB,zC,zD,zE,zF,zG,zH,zI,zJ,zK,HV.cells,g1, g3, g4, g5, g6]; try exact rfl) ?_
     | refine r_ld1 (by simp (disch:=first|decide|(simp only[zF,zG,g1, g3, g4, g5, g6];decide)) only [zA,zB,zC,zD,zE,zF,zG,zH,zI,zJ,zK,HV.cells,g1, g3, g4, g5, g6]; try exact rfl) (by first|assumption|(simp (disch:=omega) only [get_same,get_other,g1, g3, g4, g5, g6]; first|done|exact rfl)) (by first|assumption|rfl|(simp only [zI,zJ,HV.cells,g1, g3, g4, g5, g6]; exact rfl)) ?_
     | refine r_ldn (by simp (disch:=first|decide|(simp only[zF,zG,g1, g3, g4, g5, g6];decide)) only [zA,zB,zC,zD,zE,zF,zG,zH,zI,zJ,zK,HV.cells,g1, g3, g4, g5, g6]; try exact rfl) (by first|assumption|(simp (disch:=omega) only [get_same,get_other,g1, g3, g4, g5, g6]; first|done|exact rfl)) (by first|assumption|rfl|(simp only [zI,zJ,HV.cells,g1, g3, g4, g5, g6]; exact rfl)) ?_
     | refine r_box (by simp (disch:=first|decide|(simp only[zF,zG,g1, g3, g4, g5, g6];decide)) only [zA,zB,zC,zD,zE,zF,zG,zH,zI,zJ,zK,HV.cells,g1, g3, g4, g5, g6]; try exact rfl) ?_
     | refine r_alloc ?_
     | refine r_st (cs' := _) (by simp (disch:=first|decide|(simp only[zF,zG,g1, g3, g4, g5, g6];decide)) only [zA,zB,zC,zD,zE,zF,zG,zH,zI,zJ,zK,HV.cells,g1, g3, g4, g5, g6]; try exact rfl) (by simp (disch:=first|decide|(simp only[zF,zG,g1, g3, g4, g5, g6];decide)) only [zA,zB,zC,zD,zE,zF,zG,zH,zI,zJ,zK,HV.cells,g1, g3, g4, g5, g6]; try exact rfl) (by first|assumption|(simp (disch:=omega) only [get_same,get_other,g1, g3, g4, g5, g6]; first|done|exact rfl)) (by exact True.intro) (by rfl) (by rfl) (by first|assumption|rfl|(simp only [zI,zJ,HV.cells,g1, g3, g4, g5, g6]; exact rfl)) (by omega) ?_
     | refine r_add (by simp (disch:=first|decide|(simp only[zF,zG,g1, g3, g4, g5, g6];decide)) only [zA,zB,zC,zD,zE,zF,zG,zH,zI,zJ,zK,HV.cells,g1, g3, g4, g5, g6]; try exact rfl) (by simp (disch:=first|decide|(simp only[zF,zG,g1, g3, g4, g5, g6];decide)) only [zA,zB,zC,zD,zE,zF,zG,zH,zI,zJ,zK,HV.cells,g1, g3, g4, g5, g6]; try exact rfl) (by omega) (by omega) ?_
     | refine r_sub (by simp (disch:=first|decide|(simp only[zF,zG,g1, g3, g4, g5, g6];decide)) only [zA,zB,zC,zD,zE,zF,zG,zH,zI,zJ,zK,HV.cells,g1, g3, g4, g5, g6]; try exact rfl) (by simp (disch:=first|decide|(simp only[zF,zG,g1, g3, g4, g5, g6];decide)) only [zA,zB,zC,zD,zE,zF,zG,zH,zI,zJ,zK,HV.cells,g1, g3, g4, g5, g6]; try exact rfl) (by omega) (by omega) ?_
     | refine r_mul (by simp (disch:=first|decide|(simp only[zF,zG,g1, g3, g4, g5, g6];decide)) only [zA,zB,zC,zD,zE,zF,zG,zH,zI,zJ,zK,HV.cells,g1, g3, g4, g5, g6]; try exact rfl) (by simp (disch:=first|decide|(simp only[zF,zG,g1, g3, g4, g5, g6];decide)) only [zA,zB,zC,zD,zE,zF,zG,zH,zI,zJ,zK,HV.cells,g1, g3, g4, g5, g6]; try exact rfl) (by omega) (by omega) ?_
     | refine r_neg (by simp (disch:=first|decide|(simp only[zF,zG,g1, g3, g4, g5, g6];decide)) only [zA,zB,zC,zD,zE,zF,zG,zH,zI,zJ,zK,HV.cells,g1, g3, g4, g5, g6]; try exact rfl) (by omega) (by omega) ?_
     | refine r_leq (by simp (disch:=first|decide|(simp only[zF,zG,g1, g3, g4, g5, g6];decide)) only [zA,zB,zC,zD,zE,zF,zG,zH,zI,zJ,zK,HV.cells,g1, g3, g4, g5, g6]; try exact rfl) (by simp (disch:=first|decide|(simp only[zF,zG,g1, g3, g4, g5, g6];decide)) only [zA,zB,zC,zD,zE,zF,zG,zH,zI,zJ,zK,HV.cells,g1, g3, g4, g5, g6]; try exact rfl) (fun hc => ?_) (fun hc => ?_) <;> (try (exfalso; omega))
     | refine r_ixa (by simp (disch:=first|decide|(simp only[zF,zG,g1, g3, g4, g5, g6];decide)) only [zA,zB,zC,zD,zE,zF,zG,zH,zI,zJ,zK,HV.cells,g1, g3, g4, g5, g6]; try exact rfl) (by simp (disch:=first|decide|(simp only[zF,zG,g1, g3, g4, g5, g6];decide)) only [zA,zB,zC,zD,zE,zF,zG,zH,zI,zJ,zK,HV.cells,g1, g3, g4, g5, g6]; try exact rfl) (by omega) ?_
     | refine r_build (by simp (disch:=first|decide|(simp only[zF,zG,g1, g3, g4, g5, g6];decide)) only [evParts,List.map_cons,List.map_nil,List.nil_append,List.cons_append,List.append_nil,zA,zB,zC,zD,zE,zF,zG,zH,zI,zJ,zK,HV.cells,g1, g3, g4, g5, g6]; try exact rfl) ?_
     | refine w_draw (by omega) (by repeat' first|assumption|refine D.upd ?_ (by omega)|exact D.mono (by assumption) (by omega)) ?_
     | refine d_nil ?_
     | refine d_rest rfl ?_
     | refine d_bs rfl ?_
     | refine d_box rfl ?_
     | refine d_alloc rfl ?_
     | refine d_one rfl ?_
     | refine d_next (by omega) ?_
     | refine d_laid ?_
    refine loop97w1 hn htc ha hb hne hfl htb hd hbk htn k (L + 1) _ _ (by omega) g7.d ?_ g8 ?_ ?_ ?_ ?_ ?_ ?_ (fun a2 g2' e1 e2 e3 e4 e5 e6 e7 => hq a2 g2' e1 e2 e3 e4 e5 (Ch.trans g7 e6) e7)
    all_goals try first|(simp only [zL,zM,zF,zG,g1, g2, g3, g4, g5, g6];done)|(simp (disch:=first|decide|(simp only[zF,zG,g1, g2, g3, g4, g5, g6];decide)) only [zA,zB,zC,zD,zE,zF,zG,zH,zI,zJ,zK,HV.cells,g1, g2, g3, g4, g5, g6];first|done|exact rfl)|assumption
    rw [g7.same _ htn hne]; exact hgt
end
theorem fill_u (t : Tb) (n : Nat) : fillH (Zr 125) [(0, 4, .agg t.cells)] = some (bcells t (uM n t.a t.b 0 0)) := by
  have e : bcells t (uM n t.a t.b 0 0) = t.cells ++ Zr 121 := by
    unfold bcells Zr
    refine congrArg (t.cells ++ ·) ?_
    apply List.ext_getElem?
    intro k
    rw [List.getElem?_map, List.getElem?_replicate]
    by_cases hk : k < 121
    · rw [if_pos hk, List.getElem?_range hk, Option.map_some]
      unfold uM
      rw [if_neg (by omega)]
    · rw [if_neg hk, List.getElem?_eq_none (by simp; omega)]; rfl
  rw [e]
  rfl
/-- What 'unread' hands back. -/
def unrM (n : Nat) (t : Tb) : Mx :=
  let M1 := if 0 ≤ t.t + u0 n t.a t.b n 0 then limM n 0 n t.t (u0 n t.a t.b) else u0 n t.a t.b
  if 0 ≤ -t.t + M1 0 n then limM n n 0 (-t.t) M1 else M1
theorem u0_bds {n : Nat} {a b : Int} (hn : n ≤ 10) (ha : -1000000 ≤ a ∧ a ≤ 1000000) (hb : -1000000 ≤ b ∧ b ≤ 1000000) : BdS (u0 n a b) := fun i j => by
  unfold u0
  split
  · rename_i h
    split
    · have := mulb (i := i) (j := j) h.1 h.2 hn hb; omega
    · have := mulb (i := i) (j := j) h.1 h.2 hn ha; omega
  · omega
theorem c_unread {lp : Nat → Option LFunc} (h97 : lp 97 = some L97) (h100 : lp 100 = some L100) (h88 : lp 88 = some L88) {fl : Nat} {t : Tb} {n : Nat} (hn : n ≤ 10) (htc : t.c = n) (ha : -1000000 ≤ t.a ∧ t.a ≤ 1000000) (hb : -1000000 ≤ t.b ∧ t.b ≤ 1000000) (ht : -1000000 ≤ t.t ∧ t.t ≤ 1000000) {h : Tr HBlk} {nx : Nat} (hd : D h nx) :
    C lp fl 97 [.agg t.cells] ⟨h, nx⟩ (Sc (· = .agg (bcells t (unrM n t))) ⟨h, nx⟩) := by
  have tk : takeN 4 (t.cells.drop 0) = some t.cells := rfl
  have ec : t.cells[0 + 0]? = some (i64 n) := by rw [← htc]; rfl
  have et : t.cells[0 + 1]? = some (i64 t.t) := rfl
  have fi : fillH (Zr 125) [(0, 4, .agg t.cells)] = some (bcells t (uM n t.a t.b 0 0)) := fill_u t n
  have ow := ow_bc t (uM n t.a t.b 0 0)
  refine c_in h97 rfl rfl rfl ?_
  dsimp only [L97]
  repeat' first
   | refine r_nil ?_
   | refine th_n ?_
   | refine th_r ?_
   | refine th_e ?_
   | refine ib_n ?_
   | refine ib_r ?_
   | refine ib_e ?_
   | refine ib_x (by decide) ?_
   | refine w_exit ?_
   | refine w_seq ?_
   | refine w_reg ?_
   | refine w_ret ?_
   | refine w_skip ?_
   | refine w_block ?_
   | refine w_t (by simp (disch:=first|decide|(simp only[zF,zG,fi];decide)) only [zA,zB,zC,zD,zE,zF,zG,zH,zI,zJ,zK,HV.cells,fi]; first|done|exact rfl) ?_
   | refine w_f (by simp (disch:=first|decide|(simp only[zF,zG,fi];decide)) only [zA,zB,zC,zD,zE,zF,zG,zH,zI,zJ,zK,HV.cells,fi]; first|done|exact rfl) ?_
   | refine r_move (by simp (disch:=first|decide|(simp only[zF,zG,fi];decide)) only [zA,zB,zC,zD,zE,zF,zG,zH,zI,zJ,zK,HV.cells,fi]; try exact rfl) ?_
   | refine r_fa (by simp (disch:=first|decide|(simp only[zF,zG,fi];decide)) only [zA,zB,zC,zD,zE,zF,zG,zH,zI,zJ,zK,HV.cells,fi]; try exact rfl) ?_
   | refine r_ld1 (by simp (disch:=first|decide|(simp only[zF,zG,fi];decide)) only [zA,zB,zC,zD,zE,zF,zG,zH,zI,zJ,zK,HV.cells,fi]; try exact rfl) (by first|assumption|(simp (disch:=omega) only [get_same,get_other,fi]; first|done|exact rfl)) (by first|assumption|rfl|(simp only [zI,zJ,HV.cells,fi]; exact rfl)) ?_
   | refine r_ldn (by simp (disch:=first|decide|(simp only[zF,zG,fi];decide)) only [zA,zB,zC,zD,zE,zF,zG,zH,zI,zJ,zK,HV.cells,fi]; try exact rfl) (by first|assumption|(simp (disch:=omega) only [get_same,get_other,fi]; first|done|exact rfl)) (by first|assumption|rfl|(simp only [zI,zJ,HV.cells,fi]; exact rfl)) ?_
   | refine r_box (by simp (disch:=first|decide|(simp only[zF,zG,fi];decide)) only [zA,zB,zC,zD,zE,zF,zG,zH,zI,zJ,zK,HV.cells,fi]; try exact rfl) ?_
   | refine r_alloc ?_
   | refine r_st (cs' := _) (by simp (disch:=first|decide|(simp only[zF,zG,fi];decide)) only [zA,zB,zC,zD,zE,zF,zG,zH,zI,zJ,zK,HV.cells,fi]; try exact rfl) (by simp (disch:=first|decide|(simp only[zF,zG,fi];decide)) only [zA,zB,zC,zD,zE,zF,zG,zH,zI,zJ,zK,HV.cells,fi]; try exact rfl) (by first|assumption|(simp (disch:=omega) only [get_same,get_other,fi]; first|done|exact rfl)) (by exact True.intro) (by rfl) (by rfl) (by first|assumption|rfl|(simp only [zI,zJ,HV.cells,fi]; exact rfl)) (by omega) ?_
   | refine r_add (by simp (disch:=first|decide|(simp only[zF,zG,fi];decide)) only [zA,zB,zC,zD,zE,zF,zG,zH,zI,zJ,zK,HV.cells,fi]; try exact rfl) (by simp (disch:=first|decide|(simp only[zF,zG,fi];decide)) only [zA,zB,zC,zD,zE,zF,zG,zH,zI,zJ,zK,HV.cells,fi]; try exact rfl) (by omega) (by omega) ?_
   | refine r_sub (by simp (disch:=first|decide|(simp only[zF,zG,fi];decide)) only [zA,zB,zC,zD,zE,zF,zG,zH,zI,zJ,zK,HV.cells,fi]; try exact rfl) (by simp (disch:=first|decide|(simp only[zF,zG,fi];decide)) only [zA,zB,zC,zD,zE,zF,zG,zH,zI,zJ,zK,HV.cells,fi]; try exact rfl) (by omega) (by omega) ?_
   | refine r_mul (by simp (disch:=first|decide|(simp only[zF,zG,fi];decide)) only [zA,zB,zC,zD,zE,zF,zG,zH,zI,zJ,zK,HV.cells,fi]; try exact rfl) (by simp (disch:=first|decide|(simp only[zF,zG,fi];decide)) only [zA,zB,zC,zD,zE,zF,zG,zH,zI,zJ,zK,HV.cells,fi]; try exact rfl) (by omega) (by omega) ?_
   | refine r_neg (by simp (disch:=first|decide|(simp only[zF,zG,fi];decide)) only [zA,zB,zC,zD,zE,zF,zG,zH,zI,zJ,zK,HV.cells,fi]; try exact rfl) (by omega) (by omega) ?_
   | refine r_leq (by simp (disch:=first|decide|(simp only[zF,zG,fi];decide)) only [zA,zB,zC,zD,zE,zF,zG,zH,zI,zJ,zK,HV.cells,fi]; try exact rfl) (by simp (disch:=first|decide|(simp only[zF,zG,fi];decide)) only [zA,zB,zC,zD,zE,zF,zG,zH,zI,zJ,zK,HV.cells,fi]; try exact rfl) (fun hc => ?_) (fun hc => ?_) <;> (try (exfalso; omega))
   | refine r_ixa (by simp (disch:=first|decide|(simp only[zF,zG,fi];decide)) only [zA,zB,zC,zD,zE,zF,zG,zH,zI,zJ,zK,HV.cells,fi]; try exact rfl) (by simp (disch:=first|decide|(simp only[zF,zG,fi];decide)) only [zA,zB,zC,zD,zE,zF,zG,zH,zI,zJ,zK,HV.cells,fi]; try exact rfl) (by omega) ?_
   | refine r_build (by simp (disch:=first|decide|(simp only[zF,zG,fi];decide)) only [evParts,List.map_cons,List.map_nil,List.nil_append,List.cons_append,List.append_nil,zA,zB,zC,zD,zE,zF,zG,zH,zI,zJ,zK,HV.cells,fi]; try exact rfl) ?_
   | refine w_draw (by omega) (by repeat' first|assumption|refine D.upd ?_ (by omega)|exact D.mono (by assumption) (by omega)) ?_
   | refine d_nil ?_
   | refine d_rest rfl ?_
   | refine d_bs rfl ?_
   | refine d_box rfl ?_
   | refine d_alloc rfl ?_
   | refine d_one rfl ?_
   | refine d_next (by omega) ?_
   | refine d_laid ?_
  refine loop97w1 (nx := nx + 1 + 1 + 1) (tb := nx) (bk := nx + 1 + 1) hn htc ha hb (by omega) (by omega) (h := ((h.set nx (some (.cells t.cells .exact))).set (nx + 1) (some (.cells (Zr 125) .exact))).set (nx + 1 + 1) (some (.cells (bcells t (uM n t.a t.b 0 0)) .exact))) (by first|assumption|(simp (disch:=omega) only [get_same,get_other]; first|done|exact rfl)) (by repeat' first|assumption|refine D.upd ?_ (by omega)|exact D.mono (by assumption) (by omega)) (by omega) (by omega) (n + 1) 0 _ _ (by omega) (by repeat' first|assumption|refine D.upd ?_ (by omega)|exact D.mono (by assumption) (by omega)) (by first|assumption|(simp (disch:=omega) only [get_same,get_other]; first|done|exact rfl)) (by first|assumption|(simp (disch:=omega) only [get_same,get_other]; first|done|exact rfl)) ?_ ?_ ?_ ?_ ?_ ?_ (fun a' g' g1 g2 g3 g4 g5 g6 g7 => ?_)
  all_goals try first|(simp only [zL,zM,zF,zG];done)|(simp (disch:=first|decide|(simp only[zF,zG];decide)) only [zA,zB,zC,zD,zE,zF,zG,zH,zI,zJ,zK,HV.cells];first|done|exact rfl)|assumption
  have s1 : g'.get nx = some (.cells t.cells .exact) := by rw [g6.same _ (by omega) (by omega)]; exact (by first|assumption|(simp (disch:=omega) only [get_same,get_other]; first|done|exact rfl))
  have s2 : g'.get (nx + 1) = some (.cells (Zr 125) .exact) := by rw [g6.same _ (by omega) (by omega)]; exact (by first|assumption|(simp (disch:=omega) only [get_same,get_other]; first|done|exact rfl))
  have hd1 := g6.d
  have hB := u0_bds (n := n) hn ha hb
  repeat' first
   | refine r_nil ?_
   | refine th_n ?_
   | refine th_r ?_
   | refine th_e ?_
   | refine ib_n ?_
   | refine ib_r ?_
   | refine ib_e ?_
   | refine ib_x (by decide) ?_
   | refine w_exit ?_
   | refine w_seq ?_
   | refine w_reg ?_
   | refine w_ret ?_
   | refine w_skip ?_
   | refine w_block ?_
   | refine w_t (by simp (disch:=first|decide|(simp only[zF,zG,g1, g3, g4, g5, s1, s2, g7];decide)) only [zA,zB,zC,zD,zE,zF,zG,zH,zI,zJ,zK,HV.cells,g1, g3, g4, g5, s1, s2, g7]; first|done|exact rfl) ?_
   | refine w_f (by simp (disch:=first|decide|(simp only[zF,zG,g1, g3, g4, g5, s1, s2, g7];decide)) only [zA,zB,zC,zD,zE,zF,zG,zH,zI,zJ,zK,HV.cells,g1, g3, g4, g5, s1, s2, g7]; first|done|exact rfl) ?_
   | refine r_move (by simp (disch:=first|decide|(simp only[zF,zG,g1, g3, g4, g5, s1, s2, g7];decide)) only [zA,zB,zC,zD,zE,zF,zG,zH,zI,zJ,zK,HV.cells,g1, g3, g4, g5, s1, s2, g7]; try exact rfl) ?_
   | refine r_fa (by simp (disch:=first|decide|(simp only[zF,zG,g1, g3, g4, g5, s1, s2, g7];decide)) only [zA,zB,zC,zD,zE,zF,zG,zH,zI,zJ,zK,HV.cells,g1, g3, g4, g5, s1, s2, g7]; try exact rfl) ?_
   | refine r_ld1 (by simp (disch:=first|decide|(simp only[zF,zG,g1, g3, g4, g5, s1, s2, g7];decide)) only [zA,zB,zC,zD,zE,zF,zG,zH,zI,zJ,zK,HV.cells,g1, g3, g4, g5, s1, s2, g7]; try exact rfl) (by first|assumption|(simp (disch:=omega) only [get_same,get_other,g1, g3, g4, g5, s1, s2, g7]; first|done|exact rfl)) (by first|assumption|rfl|(simp only [zI,zJ,HV.cells,g1, g3, g4, g5, s1, s2, g7]; exact rfl)) ?_
   | refine r_ldn (by simp (disch:=first|decide|(simp only[zF,zG,g1, g3, g4, g5, s1, s2, g7];decide)) only [zA,zB,zC,zD,zE,zF,zG,zH,zI,zJ,zK,HV.cells,g1, g3, g4, g5, s1, s2, g7]; try exact rfl) (by first|assumption|(simp (disch:=omega) only [get_same,get_other,g1, g3, g4, g5, s1, s2, g7]; first|done|exact rfl)) (by first|assumption|rfl|(simp only [zI,zJ,HV.cells,g1, g3, g4, g5, s1, s2, g7]; exact rfl)) ?_
   | refine r_box (by simp (disch:=first|decide|(simp only[zF,zG,g1, g3, g4, g5, s1, s2, g7];decide)) only [zA,zB,zC,zD,zE,zF,zG,zH,zI,zJ,zK,HV.cells,g1, g3, g4, g5, s1, s2, g7]; try exact rfl) ?_
   | refine r_alloc ?_
   | refine r_st (cs' := _) (by simp (disch:=first|decide|(simp only[zF,zG,g1, g3, g4, g5, s1, s2, g7];decide)) only [zA,zB,zC,zD,zE,zF,zG,zH,zI,zJ,zK,HV.cells,g1, g3, g4, g5, s1, s2, g7]; try exact rfl) (by simp (disch:=first|decide|(simp only[zF,zG,g1, g3, g4, g5, s1, s2, g7];decide)) only [zA,zB,zC,zD,zE,zF,zG,zH,zI,zJ,zK,HV.cells,g1, g3, g4, g5, s1, s2, g7]; try exact rfl) (by first|assumption|(simp (disch:=omega) only [get_same,get_other,g1, g3, g4, g5, s1, s2, g7]; first|done|exact rfl)) (by exact True.intro) (by rfl) (by rfl) (by first|assumption|rfl|(simp only [zI,zJ,HV.cells,g1, g3, g4, g5, s1, s2, g7]; exact rfl)) (by omega) ?_
   | refine r_add (by simp (disch:=first|decide|(simp only[zF,zG,g1, g3, g4, g5, s1, s2, g7];decide)) only [zA,zB,zC,zD,zE,zF,zG,zH,zI,zJ,zK,HV.cells,g1, g3, g4, g5, s1, s2, g7]; try exact rfl) (by simp (disch:=first|decide|(simp only[zF,zG,g1, g3, g4, g5, s1, s2, g7];decide)) only [zA,zB,zC,zD,zE,zF,zG,zH,zI,zJ,zK,HV.cells,g1, g3, g4, g5, s1, s2, g7]; try exact rfl) (by omega) (by omega) ?_
   | refine r_sub (by simp (disch:=first|decide|(simp only[zF,zG,g1, g3, g4, g5, s1, s2, g7];decide)) only [zA,zB,zC,zD,zE,zF,zG,zH,zI,zJ,zK,HV.cells,g1, g3, g4, g5, s1, s2, g7]; try exact rfl) (by simp (disch:=first|decide|(simp only[zF,zG,g1, g3, g4, g5, s1, s2, g7];decide)) only [zA,zB,zC,zD,zE,zF,zG,zH,zI,zJ,zK,HV.cells,g1, g3, g4, g5, s1, s2, g7]; try exact rfl) (by omega) (by omega) ?_
   | refine r_mul (by simp (disch:=first|decide|(simp only[zF,zG,g1, g3, g4, g5, s1, s2, g7];decide)) only [zA,zB,zC,zD,zE,zF,zG,zH,zI,zJ,zK,HV.cells,g1, g3, g4, g5, s1, s2, g7]; try exact rfl) (by simp (disch:=first|decide|(simp only[zF,zG,g1, g3, g4, g5, s1, s2, g7];decide)) only [zA,zB,zC,zD,zE,zF,zG,zH,zI,zJ,zK,HV.cells,g1, g3, g4, g5, s1, s2, g7]; try exact rfl) (by omega) (by omega) ?_
   | refine r_neg (by simp (disch:=first|decide|(simp only[zF,zG,g1, g3, g4, g5, s1, s2, g7];decide)) only [zA,zB,zC,zD,zE,zF,zG,zH,zI,zJ,zK,HV.cells,g1, g3, g4, g5, s1, s2, g7]; try exact rfl) (by omega) (by omega) ?_
   | refine r_leq (by simp (disch:=first|decide|(simp only[zF,zG,g1, g3, g4, g5, s1, s2, g7];decide)) only [zA,zB,zC,zD,zE,zF,zG,zH,zI,zJ,zK,HV.cells,g1, g3, g4, g5, s1, s2, g7]; try exact rfl) (by simp (disch:=first|decide|(simp only[zF,zG,g1, g3, g4, g5, s1, s2, g7];decide)) only [zA,zB,zC,zD,zE,zF,zG,zH,zI,zJ,zK,HV.cells,g1, g3, g4, g5, s1, s2, g7]; try exact rfl) (fun hc => ?_) (fun hc => ?_) <;> (try (exfalso; omega))
   | refine r_ixa (by simp (disch:=first|decide|(simp only[zF,zG,g1, g3, g4, g5, s1, s2, g7];decide)) only [zA,zB,zC,zD,zE,zF,zG,zH,zI,zJ,zK,HV.cells,g1, g3, g4, g5, s1, s2, g7]; try exact rfl) (by simp (disch:=first|decide|(simp only[zF,zG,g1, g3, g4, g5, s1, s2, g7];decide)) only [zA,zB,zC,zD,zE,zF,zG,zH,zI,zJ,zK,HV.cells,g1, g3, g4, g5, s1, s2, g7]; try exact rfl) (by omega) ?_
   | refine r_build (by simp (disch:=first|decide|(simp only[zF,zG,g1, g3, g4, g5, s1, s2, g7];decide)) only [evParts,List.map_cons,List.map_nil,List.nil_append,List.cons_append,List.append_nil,zA,zB,zC,zD,zE,zF,zG,zH,zI,zJ,zK,HV.cells,g1, g3, g4, g5, s1, s2, g7]; try exact rfl) ?_
   | refine w_draw (by omega) (by repeat' first|assumption|refine D.upd ?_ (by omega)|exact D.mono (by assumption) (by omega)) ?_
   | refine d_nil ?_
   | refine d_rest rfl ?_
   | refine d_bs rfl ?_
   | refine d_box rfl ?_
   | refine d_alloc rfl ?_
   | refine d_one rfl ?_
   | refine d_next (by omega) ?_
   | refine d_laid ?_
  refine r_callc (by simp (disch:=first|decide|(simp only[zF,zG,g1, g3, g4, g5];decide)) only [zA,zB,zC,zD,zE,zF,zG,zH,zI,zJ,zK,HV.cells,g1, g3, g4, g5]; try exact rfl) (by simp (disch:=first|decide|(simp only[zF,zG,g1, g3, g4, g5];decide)) only [List.map_cons,List.map_nil,List.nil_append,List.cons_append,List.append_nil,zA,zB,zC,zD,zE,zF,zG,zH,zI,zJ,zK,HV.cells,g1, g3, g4, g5]; try exact rfl) (c_limit h100 h88 (n := n) (f := 0) (g := n) (M := u0 n t.a t.b) hn (by omega) (by omega) htc hB.bd (by omega) (by omega) (by omega) hd1 (by first|assumption|(simp (disch:=omega) only [get_same,get_other]; first|done|exact rfl))) ?_
  rintro v σ' ⟨rfl, h2, n2, rfl, hch, hg1⟩
  have hle := hch.le
  have s3 : h2.get nx = some (.cells t.cells .exact) := by rw [hch.same _ (by omega) (by omega)]; exact s1
  have s4 : h2.get (nx + 1) = some (.cells (Zr 125) .exact) := by rw [hch.same _ (by omega) (by omega)]; exact s2
  have hd2 := hch.d
  have hB1 : Bd (if 0 ≤ t.t + u0 n t.a t.b n 0 then limM n 0 n t.t (u0 n t.a t.b) else u0 n t.a t.b) := by
    split
    · exact hB.lim (by omega)
    · exact hB.bd
  have eM : unrM n t = (if 0 ≤ -t.t + (if 0 ≤ t.t + u0 n t.a t.b n 0 then limM n 0 n t.t (u0 n t.a t.b) else u0 n t.a t.b) 0 n then limM n n 0 (-t.t) (if 0 ≤ t.t + u0 n t.a t.b n 0 then limM n 0 n t.t (u0 n t.a t.b) else u0 n t.a t.b) else (if 0 ≤ t.t + u0 n t.a t.b n 0 then limM n 0 n t.t (u0 n t.a t.b) else u0 n t.a t.b)) := rfl
  revert hg1 hB1 eM
  generalize (if 0 ≤ t.t + u0 n t.a t.b n 0 then limM n 0 n t.t (u0 n t.a t.b) else u0 n t.a t.b) = M1
  intro hg1 hB1 eM
  repeat' first
   | refine r_nil ?_
   | refine th_n ?_
   | refine th_r ?_
   | refine th_e ?_
   | refine ib_n ?_
   | refine ib_r ?_
   | refine ib_e ?_
   | refine ib_x (by decide) ?_
   | refine w_exit ?_
   | refine w_seq ?_
   | refine w_reg ?_
   | refine w_ret ?_
   | refine w_skip ?_
   | refine w_block ?_
   | refine w_t (by simp (disch:=first|decide|(simp only[zF,zG,g1, g3, g4, g5, s3, s4];decide)) only [zA,zB,zC,zD,zE,zF,zG,zH,zI,zJ,zK,HV.cells,g1, g3, g4, g5, s3, s4]; first|done|exact rfl) ?_
   | refine w_f (by simp (disch:=first|decide|(simp only[zF,zG,g1, g3, g4, g5, s3, s4];decide)) only [zA,zB,zC,zD,zE,zF,zG,zH,zI,zJ,zK,HV.cells,g1, g3, g4, g5, s3, s4]; first|done|exact rfl) ?_
   | refine r_move (by simp (disch:=first|decide|(simp only[zF,zG,g1, g3, g4, g5, s3, s4];decide)) only [zA,zB,zC,zD,zE,zF,zG,zH,zI,zJ,zK,HV.cells,g1, g3, g4, g5, s3, s4]; try exact rfl) ?_
   | refine r_fa (by simp (disch:=first|decide|(simp only[zF,zG,g1, g3, g4, g5, s3, s4];decide)) only [zA,zB,zC,zD,zE,zF,zG,zH,zI,zJ,zK,HV.cells,g1, g3, g4, g5, s3, s4]; try exact rfl) ?_
   | refine r_ld1 (by simp (disch:=first|decide|(simp only[zF,zG,g1, g3, g4, g5, s3, s4];decide)) only [zA,zB,zC,zD,zE,zF,zG,zH,zI,zJ,zK,HV.cells,g1, g3, g4, g5, s3, s4]; try exact rfl) (by first|assumption|(simp (disch:=omega) only [get_same,get_other,g1, g3, g4, g5, s3, s4]; first|done|exact rfl)) (by first|assumption|rfl|(simp only [zI,zJ,HV.cells,g1, g3, g4, g5, s3, s4]; exact rfl)) ?_
   | refine r_ldn (by simp (disch:=first|decide|(simp only[zF,zG,g1, g3, g4, g5, s3, s4];decide)) only [zA,zB,zC,zD,zE,zF,zG,zH,zI,zJ,zK,HV.cells,g1, g3, g4, g5, s3, s4]; try exact rfl) (by first|assumption|(simp (disch:=omega) only [get_same,get_other,g1, g3, g4, g5, s3, s4]; first|done|exact rfl)) (by first|assumption|rfl|(simp only [zI,zJ,HV.cells,g1, g3, g4, g5, s3, s4]; exact rfl)) ?_
   | refine r_box (by simp (disch:=first|decide|(simp only[zF,zG,g1, g3, g4, g5, s3, s4];decide)) only [zA,zB,zC,zD,zE,zF,zG,zH,zI,zJ,zK,HV.cells,g1, g3, g4, g5, s3, s4]; try exact rfl) ?_
   | refine r_alloc ?_
   | refine r_st (cs' := _) (by simp (disch:=first|decide|(simp only[zF,zG,g1, g3, g4, g5, s3, s4];decide)) only [zA,zB,zC,zD,zE,zF,zG,zH,zI,zJ,zK,HV.cells,g1, g3, g4, g5, s3, s4]; try exact rfl) (by simp (disch:=first|decide|(simp only[zF,zG,g1, g3, g4, g5, s3, s4];decide)) only [zA,zB,zC,zD,zE,zF,zG,zH,zI,zJ,zK,HV.cells,g1, g3, g4, g5, s3, s4]; try exact rfl) (by first|assumption|(simp (disch:=omega) only [get_same,get_other,g1, g3, g4, g5, s3, s4]; first|done|exact rfl)) (by exact True.intro) (by rfl) (by rfl) (by first|assumption|rfl|(simp only [zI,zJ,HV.cells,g1, g3, g4, g5, s3, s4]; exact rfl)) (by omega) ?_
   | refine r_add (by simp (disch:=first|decide|(simp only[zF,zG,g1, g3, g4, g5, s3, s4];decide)) only [zA,zB,zC,zD,zE,zF,zG,zH,zI,zJ,zK,HV.cells,g1, g3, g4, g5, s3, s4]; try exact rfl) (by simp (disch:=first|decide|(simp only[zF,zG,g1, g3, g4, g5, s3, s4];decide)) only [zA,zB,zC,zD,zE,zF,zG,zH,zI,zJ,zK,HV.cells,g1, g3, g4, g5, s3, s4]; try exact rfl) (by omega) (by omega) ?_
   | refine r_sub (by simp (disch:=first|decide|(simp only[zF,zG,g1, g3, g4, g5, s3, s4];decide)) only [zA,zB,zC,zD,zE,zF,zG,zH,zI,zJ,zK,HV.cells,g1, g3, g4, g5, s3, s4]; try exact rfl) (by simp (disch:=first|decide|(simp only[zF,zG,g1, g3, g4, g5, s3, s4];decide)) only [zA,zB,zC,zD,zE,zF,zG,zH,zI,zJ,zK,HV.cells,g1, g3, g4, g5, s3, s4]; try exact rfl) (by omega) (by omega) ?_
   | refine r_mul (by simp (disch:=first|decide|(simp only[zF,zG,g1, g3, g4, g5, s3, s4];decide)) only [zA,zB,zC,zD,zE,zF,zG,zH,zI,zJ,zK,HV.cells,g1, g3, g4, g5, s3, s4]; try exact rfl) (by simp (disch:=first|decide|(simp only[zF,zG,g1, g3, g4, g5, s3, s4];decide)) only [zA,zB,zC,zD,zE,zF,zG,zH,zI,zJ,zK,HV.cells,g1, g3, g4, g5, s3, s4]; try exact rfl) (by omega) (by omega) ?_
   | refine r_neg (by simp (disch:=first|decide|(simp only[zF,zG,g1, g3, g4, g5, s3, s4];decide)) only [zA,zB,zC,zD,zE,zF,zG,zH,zI,zJ,zK,HV.cells,g1, g3, g4, g5, s3, s4]; try exact rfl) (by omega) (by omega) ?_
   | refine r_leq (by simp (disch:=first|decide|(simp only[zF,zG,g1, g3, g4, g5, s3, s4];decide)) only [zA,zB,zC,zD,zE,zF,zG,zH,zI,zJ,zK,HV.cells,g1, g3, g4, g5, s3, s4]; try exact rfl) (by simp (disch:=first|decide|(simp only[zF,zG,g1, g3, g4, g5, s3, s4];decide)) only [zA,zB,zC,zD,zE,zF,zG,zH,zI,zJ,zK,HV.cells,g1, g3, g4, g5, s3, s4]; try exact rfl) (fun hc => ?_) (fun hc => ?_) <;> (try (exfalso; omega))
   | refine r_ixa (by simp (disch:=first|decide|(simp only[zF,zG,g1, g3, g4, g5, s3, s4];decide)) only [zA,zB,zC,zD,zE,zF,zG,zH,zI,zJ,zK,HV.cells,g1, g3, g4, g5, s3, s4]; try exact rfl) (by simp (disch:=first|decide|(simp only[zF,zG,g1, g3, g4, g5, s3, s4];decide)) only [zA,zB,zC,zD,zE,zF,zG,zH,zI,zJ,zK,HV.cells,g1, g3, g4, g5, s3, s4]; try exact rfl) (by omega) ?_
   | refine r_build (by simp (disch:=first|decide|(simp only[zF,zG,g1, g3, g4, g5, s3, s4];decide)) only [evParts,List.map_cons,List.map_nil,List.nil_append,List.cons_append,List.append_nil,zA,zB,zC,zD,zE,zF,zG,zH,zI,zJ,zK,HV.cells,g1, g3, g4, g5, s3, s4]; try exact rfl) ?_
   | refine w_draw (by omega) (by repeat' first|assumption|refine D.upd ?_ (by omega)|exact D.mono (by assumption) (by omega)) ?_
   | refine d_nil ?_
   | refine d_rest rfl ?_
   | refine d_bs rfl ?_
   | refine d_box rfl ?_
   | refine d_alloc rfl ?_
   | refine d_one rfl ?_
   | refine d_next (by omega) ?_
   | refine d_laid ?_
  refine r_callc (by simp (disch:=first|decide|(simp only[zF,zG,g1, g3, g4, g5];decide)) only [zA,zB,zC,zD,zE,zF,zG,zH,zI,zJ,zK,HV.cells,g1, g3, g4, g5]; try exact rfl) (by simp (disch:=first|decide|(simp only[zF,zG,g1, g3, g4, g5];decide)) only [List.map_cons,List.map_nil,List.nil_append,List.cons_append,List.append_nil,zA,zB,zC,zD,zE,zF,zG,zH,zI,zJ,zK,HV.cells,g1, g3, g4, g5]; try exact rfl) (c_limit h100 h88 (n := n) (f := n) (g := 0) (M := M1) hn (by omega) (by omega) htc hB1 (by omega) (by omega) (by omega) hd2 (by first|assumption|(simp (disch:=omega) only [get_same,get_other]; first|done|exact rfl))) ?_
  rintro v σ' ⟨rfl, h3, n3, rfl, hch3, hg3⟩
  have hle3 := hch3.le
  rw [← eM] at hg3
  have s5 : h3.get (nx + 1) = some (.cells (Zr 125) .exact) := by rw [hch3.same _ (by omega) (by omega)]; exact s4
  have tk2 := take_bc t (unrM n t)
  have ow2 := ow_bc t (unrM n t)
  repeat' first
   | refine r_nil ?_
   | refine th_n ?_
   | refine th_r ?_
   | refine th_e ?_
   | refine ib_n ?_
   | refine ib_r ?_
   | refine ib_e ?_
   | refine ib_x (by decide) ?_
   | refine w_exit ?_
   | refine w_seq ?_
   | refine w_reg ?_
   | refine w_ret ?_
   | refine w_skip ?_
   | refine w_block ?_
   | refine w_t (by simp (disch:=first|decide|(simp only[zF,zG,g1, g3, g4, g5];decide)) only [zA,zB,zC,zD,zE,zF,zG,zH,zI,zJ,zK,HV.cells,g1, g3, g4, g5]; first|done|exact rfl) ?_
   | refine w_f (by simp (disch:=first|decide|(simp only[zF,zG,g1, g3, g4, g5];decide)) only [zA,zB,zC,zD,zE,zF,zG,zH,zI,zJ,zK,HV.cells,g1, g3, g4, g5]; first|done|exact rfl) ?_
   | refine r_move (by simp (disch:=first|decide|(simp only[zF,zG,g1, g3, g4, g5];decide)) only [zA,zB,zC,zD,zE,zF,zG,zH,zI,zJ,zK,HV.cells,g1, g3, g4, g5]; try exact rfl) ?_
   | refine r_fa (by simp (disch:=first|decide|(simp only[zF,zG,g1, g3, g4, g5];decide)) only [zA,zB,zC,zD,zE,zF,zG,zH,zI,zJ,zK,HV.cells,g1, g3, g4, g5]; try exact rfl) ?_
   | refine r_ld1 (by simp (disch:=first|decide|(simp only[zF,zG,g1, g3, g4, g5];decide)) only [zA,zB,zC,zD,zE,zF,zG,zH,zI,zJ,zK,HV.cells,g1, g3, g4, g5]; try exact rfl) (by first|assumption|(simp (disch:=omega) only [get_same,get_other,g1, g3, g4, g5]; first|done|exact rfl)) (by first|assumption|rfl|(simp only [zI,zJ,HV.cells,g1, g3, g4, g5]; exact rfl)) ?_
   | refine r_ldn (by simp (disch:=first|decide|(simp only[zF,zG,g1, g3, g4, g5];decide)) only [zA,zB,zC,zD,zE,zF,zG,zH,zI,zJ,zK,HV.cells,g1, g3, g4, g5]; try exact rfl) (by first|assumption|(simp (disch:=omega) only [get_same,get_other,g1, g3, g4, g5]; first|done|exact rfl)) (by first|assumption|rfl|(simp only [zI,zJ,HV.cells,g1, g3, g4, g5]; exact rfl)) ?_
   | refine r_box (by simp (disch:=first|decide|(simp only[zF,zG,g1, g3, g4, g5];decide)) only [zA,zB,zC,zD,zE,zF,zG,zH,zI,zJ,zK,HV.cells,g1, g3, g4, g5]; try exact rfl) ?_
   | refine r_alloc ?_
   | refine r_st (cs' := _) (by simp (disch:=first|decide|(simp only[zF,zG,g1, g3, g4, g5];decide)) only [zA,zB,zC,zD,zE,zF,zG,zH,zI,zJ,zK,HV.cells,g1, g3, g4, g5]; try exact rfl) (by simp (disch:=first|decide|(simp only[zF,zG,g1, g3, g4, g5];decide)) only [zA,zB,zC,zD,zE,zF,zG,zH,zI,zJ,zK,HV.cells,g1, g3, g4, g5]; try exact rfl) (by first|assumption|(simp (disch:=omega) only [get_same,get_other,g1, g3, g4, g5]; first|done|exact rfl)) (by exact True.intro) (by rfl) (by rfl) (by first|assumption|rfl|(simp only [zI,zJ,HV.cells,g1, g3, g4, g5]; exact rfl)) (by omega) ?_
   | refine r_add (by simp (disch:=first|decide|(simp only[zF,zG,g1, g3, g4, g5];decide)) only [zA,zB,zC,zD,zE,zF,zG,zH,zI,zJ,zK,HV.cells,g1, g3, g4, g5]; try exact rfl) (by simp (disch:=first|decide|(simp only[zF,zG,g1, g3, g4, g5];decide)) only [zA,zB,zC,zD,zE,zF,zG,zH,zI,zJ,zK,HV.cells,g1, g3, g4, g5]; try exact rfl) (by omega) (by omega) ?_
   | refine r_sub (by simp (disch:=first|decide|(simp only[zF,zG,g1, g3, g4, g5];decide)) only [zA,zB,zC,zD,zE,zF,zG,zH,zI,zJ,zK,HV.cells,g1, g3, g4, g5]; try exact rfl) (by simp (disch:=first|decide|(simp only[zF,zG,g1, g3, g4, g5];decide)) only [zA,zB,zC,zD,zE,zF,zG,zH,zI,zJ,zK,HV.cells,g1, g3, g4, g5]; try exact rfl) (by omega) (by omega) ?_
   | refine r_mul (by simp (disch:=first|decide|(simp only[zF,zG,g1, g3, g4, g5];decide)) only [zA,zB,zC,zD,zE,zF,zG,zH,zI,zJ,zK,HV.cells,g1, g3, g4, g5]; try exact rfl) (by simp (disch:=first|decide|(simp only[zF,zG,g1, g3, g4, g5];decide)) only [zA,zB,zC,zD,zE,zF,zG,zH,zI,zJ,zK,HV.cells,g1, g3, g4, g5]; try exact rfl) (by omega) (by omega) ?_
   | refine r_neg (by simp (disch:=first|decide|(simp only[zF,zG,g1, g3, g4, g5];decide)) only [zA,zB,zC,zD,zE,zF,zG,zH,zI,zJ,zK,HV.cells,g1, g3, g4, g5]; try exact rfl) (by omega) (by omega) ?_
   | refine r_leq (by simp (disch:=first|decide|(simp only[zF,zG,g1, g3, g4, g5];decide)) only [zA,zB,zC,zD,zE,zF,zG,zH,zI,zJ,zK,HV.cells,g1, g3, g4, g5]; try exact rfl) (by simp (disch:=first|decide|(simp only[zF,zG,g1, g3, g4, g5];decide)) only [zA,zB,zC,zD,zE,zF,zG,zH,zI,zJ,zK,HV.cells,g1, g3, g4, g5]; try exact rfl) (fun hc => ?_) (fun hc => ?_) <;> (try (exfalso; omega))
   | refine r_ixa (by simp (disch:=first|decide|(simp only[zF,zG,g1, g3, g4, g5];decide)) only [zA,zB,zC,zD,zE,zF,zG,zH,zI,zJ,zK,HV.cells,g1, g3, g4, g5]; try exact rfl) (by simp (disch:=first|decide|(simp only[zF,zG,g1, g3, g4, g5];decide)) only [zA,zB,zC,zD,zE,zF,zG,zH,zI,zJ,zK,HV.cells,g1, g3, g4, g5]; try exact rfl) (by omega) ?_
   | refine r_build (by simp (disch:=first|decide|(simp only[zF,zG,g1, g3, g4, g5];decide)) only [evParts,List.map_cons,List.map_nil,List.nil_append,List.cons_append,List.append_nil,zA,zB,zC,zD,zE,zF,zG,zH,zI,zJ,zK,HV.cells,g1, g3, g4, g5]; try exact rfl) ?_
   | refine w_draw (by omega) (by repeat' first|assumption|refine D.upd ?_ (by omega)|exact D.mono (by assumption) (by omega)) ?_
   | refine d_nil ?_
   | refine d_rest rfl ?_
   | refine d_bs rfl ?_
   | refine d_box rfl ?_
   | refine d_alloc rfl ?_
   | refine d_one rfl ?_
   | refine d_next (by omega) ?_
   | refine d_laid ?_
  refine fin_m (by simp only [put_defers, g2]) (res_c (by simp (disch:=first|decide|(simp only[zF,zG,g1, g4];decide)) only [zA,zB,zC,zD,zE,zF,zG,zH,zI,zJ,zK,HV.cells,g1, g4]; try exact rfl) (by first|assumption|(simp (disch:=omega) only [get_same,get_other]; first|done|exact rfl)) tk2 res_nil) (sc_flat ?_ (by show nx ≤ n3; omega) rfl)
  exact bc_flat t (unrM n t)
end Go.Hx

/- What 'with' and 'unread' hand back, reckoned on rows of numbers. -/
namespace Go.Hx
set_option linter.unusedSimpArgs false
set_option linter.unusedVariables false
set_option maxRecDepth 20000
set_option maxHeartbeats 4000000
noncomputable section
theorem blt_t {a b : Nat} (h : a < b) : Nat.blt a b = true := by rw [Nat.blt_eq]; exact h
theorem ble_t {a b : Nat} (h : a ≤ b) : Nat.ble a b = true := by rw [Nat.ble_eq]; exact h
def minI (a b : Int) : Int := bif ltI b a then b else a
theorem minI_eq (a b : Int) : minI a b = min a b := by
  unfold minI; rw [ltI_eq]
  by_cases h : b < a
  · rw [decide_eq_true h]; show b = _; omega
  · rw [decide_eq_false h]; show a = _; omega
def nthI : Nat → List Int → Int
  | _, [] => 0
  | 0, x :: _ => x
  | k + 1, _ :: l => nthI k l
theorem nthI_eq : ∀ (k : Nat) (l : List Int), nthI k l = l.getD k 0
  | _, [] => by simp [nthI]
  | 0, x :: _ => rfl
  | k + 1, _ :: l => by simpa [nthI] using nthI_eq k l
def nthR : Nat → List (List Int) → List Int
  | _, [] => []
  | 0, x :: _ => x
  | k + 1, _ :: l => nthR k l
theorem nthR_eq : ∀ (k : Nat) (l : List (List Int)), nthR k l = l.getD k []
  | _, [] => by simp [nthR]
  | 0, x :: _ => rfl
  | k + 1, _ :: l => by simpa [nthR] using nthR_eq k l
def rowL : Nat → Int → List Int → List Int → List Int
  | 0, _, _, r => r
  | k + 1, x, y :: ys, v :: r => minI v (Int.add x y) :: rowL k x ys r
  | _, _, _, r => r
theorem rowL_get : ∀ (k : Nat) (x : Int) (ys r : List Int) (j : Nat), k ≤ ys.length → k ≤ r.length → (rowL k x ys r)[j]? = if j < k then some (min (r.getD j 0) (x + ys.getD j 0)) else r[j]?
  | 0, x, ys, r, j, _, _ => by rw [if_neg (by omega)]; rfl
  | k + 1, x, y :: ys, v :: r, 0, _, _ => by
    rw [if_pos (by omega)]
    show some (minI v (Int.add x y)) = _
    rw [minI_eq]; rfl
  | k + 1, x, y :: ys, v :: r, j + 1, h1, h2 => by
    show (rowL k x ys r)[j]? = _
    rw [rowL_get k x ys r j (by simpa using h1) (by simpa using h2)]
    by_cases h : j < k
    · rw [if_pos h, if_pos (by omega)]; simp
    · rw [if_neg h, if_neg (by omega)]; simp
  | k + 1, x, [], r, j, h1, _ => by simp at h1
  | k + 1, x, _ :: _, [], j, _, h2 => by simp at h2
def rowsL (n1 f : Nat) (m : Int) (rg : List Int) : Nat → List (List Int) → List (List Int)
  | k + 1, r :: R => rowL n1 (Int.add (nthI f r) m) rg r :: rowsL n1 f m rg k R
  | _, R => R
theorem rowsL_get (n1 f : Nat) (m : Int) (rg : List Int) : ∀ (k : Nat) (R : List (List Int)) (i : Nat), (rowsL n1 f m rg k R)[i]? = if i < k then (R[i]?).map (fun r => rowL n1 (Int.add (nthI f r) m) rg r) else R[i]?
  | 0, R, i => by rw [if_neg (by omega)]; cases R <;> rfl
  | k + 1, [], i => by simp [rowsL]
  | k + 1, r :: R, 0 => by rw [if_pos (by omega)]; rfl
  | k + 1, r :: R, i + 1 => by
    show (rowsL n1 f m rg k R)[i]? = _
    rw [rowsL_get n1 f m rg k R i]
    by_cases h : i < k
    · rw [if_pos h, if_pos (by omega)]; simp
    · rw [if_neg h, if_neg (by omega)]; simp
def limR (n f g : Nat) (m : Int) (R : List (List Int)) : List (List Int) := rowsL (n + 1) f m (nthR g R) (n + 1) R
def Rm (M : Mx) : List (List Int) := (List.range 11).map fun i => (List.range 11).map fun j => M i j
theorem rm_get (M : Mx) {i : Nat} (hi : i < 11) : (Rm M)[i]? = some ((List.range 11).map fun j => M i j) := by
  unfold Rm; rw [List.getElem?_map, List.getElem?_range hi]; rfl
theorem rr_get (M : Mx) (i : Nat) {j : Nat} (hj : j < 11) : ((List.range 11).map fun j => M i j)[j]? = some (M i j) := by
  rw [List.getElem?_map, List.getElem?_range hj]; rfl
theorem rr_getD (M : Mx) (i : Nat) {j : Nat} (hj : j < 11) : ((List.range 11).map fun j => M i j).getD j 0 = M i j := by
  rw [List.getD_eq_getElem?_getD, rr_get M i hj]; rfl
theorem limR_eq {n f g : Nat} {m : Int} {M : Mx} (hn : n ≤ 10) (hf : f ≤ n) (hg : g ≤ n) : limR n f g m (Rm M) = Rm (limM n f g m M) := by
  have e0 : nthR g (Rm M) = (List.range 11).map fun j => M g j := by
    rw [nthR_eq, List.getD_eq_getElem?_getD, rm_get M (by omega)]; rfl
  unfold limR
  rw [e0]
  apply List.ext_getElem?
  intro i
  rw [rowsL_get]
  by_cases hi : i < 11
  · rw [rm_get M hi, rm_get _ hi]
    by_cases hin : i < n + 1
    · rw [if_pos hin]
      show some _ = some _
      congr 1
      apply List.ext_getElem?
      intro j
      rw [rowL_get _ _ _ _ _ (by simp; omega) (by simp; omega)]
      by_cases hj : j < 11
      · rw [rr_get _ i hj, rr_getD M i hj, rr_getD M g hj, nthI_eq, rr_getD M i (by omega), rr_get (limM n f g m M) i hj]
        unfold limM
        by_cases hjn : j < n + 1
        · rw [if_pos hjn, if_pos (by omega)]; rfl
        · rw [if_neg hjn, if_neg (by omega)]
      · rw [if_neg (by omega), List.getElem?_eq_none (by simp; omega), List.getElem?_eq_none (by simp; omega)]
    · rw [if_neg hin]
      congr 1
      apply List.map_congr_left
      intro j hj
      unfold limM
      rw [if_neg (by omega)]
  · have e1 : (Rm M)[i]? = none := List.getElem?_eq_none (by unfold Rm; simp; omega)
    have e2 : (Rm (limM n f g m M))[i]? = none := List.getElem?_eq_none (by unfold Rm; simp; omega)
    rw [e1, e2]; simp
def outR : List (List Int) → List HV
  | [] => []
  | r :: R => r.map i64 ++ outR R
theorem bc_rows (t : Tb) (M : Mx) : bcells t M = t.cells ++ outR (Rm M) := by kernel_rfl
def at2 (R : List (List Int)) (i j : Nat) : Int := nthI j (nthR i R)
theorem at2_eq (M : Mx) {i j : Nat} (hi : i < 11) (hj : j < 11) : at2 (Rm M) i j = M i j := by
  unfold at2
  rw [nthR_eq, List.getD_eq_getElem?_getD, rm_get M hi, nthI_eq]
  exact rr_getD M i hj

/-! from cells to rows -/
def smI (n : Int) : Bool :=
  match n with
  | .ofNat a => Nat.ble a 100000000
  | .negSucc a => Nat.blt a 100000000
theorem smI_iff {n : Int} (h : smI n = true) : -100000000 ≤ n ∧ n ≤ 100000000 := by
  cases n with
  | ofNat a => have := Nat.le_of_ble_eq_true h; simp; omega
  | negSucc a => have : a < 100000000 := by simpa [smI] using h
                 omega
def asInts : List HV → Option (List Int)
  | [] => some []
  | .int .i64 n :: vs =>
    bif smI n then
      match asInts vs with
      | some l => some (n :: l)
      | none => none
    else none
  | _ => none
theorem asInts_some : ∀ (vs : List HV) (l : List Int), asInts vs = some l → vs = l.map i64 ∧ ∀ x ∈ l, -100000000 ≤ x ∧ x ≤ 100000000
  | [], l, h => by cases h; exact ⟨rfl, fun x hx => by cases hx⟩
  | v :: vs, l, h => by
    unfold asInts at h
    split at h
    · rename_i e; cases e
    · rename_i n vs' e
      cases e
      cases hs : smI n with
      | false => rw [hs] at h; cases h
      | true =>
        rw [hs] at h
        simp only [cond_true] at h
        split at h
        · rename_i l' hl
          cases h
          obtain ⟨e1, e2⟩ := asInts_some vs l' hl
          subst e1
          refine ⟨rfl, fun x hx => ?_⟩
          rcases List.mem_cons.1 hx with e | e
          · subst e; exact smI_iff hs
          · exact e2 x e
        · cases h
    · cases h
def rowsOf : Nat → List Int → List (List Int)
  | 0, _ => []
  | k + 1, l => l.take 11 :: rowsOf k (l.drop 11)
theorem rowsOf_get : ∀ (k : Nat) (l : List Int) (i : Nat), (rowsOf k l)[i]? = if i < k then some ((l.drop (11 * i)).take 11) else none
  | 0, l, i => by rw [if_neg (by omega)]; rfl
  | k + 1, l, 0 => by rw [if_pos (by omega)]; rfl
  | k + 1, l, i + 1 => by
    show (rowsOf k (l.drop 11))[i]? = _
    rw [rowsOf_get k _ i]
    by_cases h : i < k
    · rw [if_pos h, if_pos (by omega), List.drop_drop, show 11 + 11 * i = 11 * (i + 1) by omega]
    · rw [if_neg h, if_neg (by omega)]
def Mof (l : List Int) : Mx := fun i j => if i < 11 ∧ j < 11 then l.getD (11 * i + j) 0 else 0
theorem mof_rows {l : List Int} (hl : l.length = 121) : Rm (Mof l) = rowsOf 11 l := by
  apply List.ext_getElem?
  intro i
  rw [rowsOf_get]
  by_cases hi : i < 11
  · rw [rm_get _ hi, if_pos hi]
    congr 1
    apply List.ext_getElem?
    intro j
    by_cases hj : j < 11
    · rw [rr_get _ i hj, List.getElem?_take, if_pos hj, List.getElem?_drop]
      unfold Mof
      rw [if_pos ⟨hi, hj⟩, List.getD_eq_getElem?_getD, List.getElem?_eq_getElem (by omega)]; rfl
    · rw [List.getElem?_eq_none (by simp; omega), List.getElem?_take, if_neg hj]
  · rw [if_neg hi, List.getElem?_eq_none (by unfold Rm; simp; omega)]
theorem mof_cells {c t a b : Int} {l : List Int} (hl : l.length = 121) : (c :: t :: a :: b :: l).map i64 = bcells ⟨c, t, a, b⟩ (Mof l) := by
  unfold bcells Tb.cells
  show [i64 c, i64 t, i64 a, i64 b] ++ l.map i64 = _
  congr 1
  apply List.ext_getElem?
  intro k
  rw [List.getElem?_map, List.getElem?_map]
  by_cases hk : k < 121
  · rw [List.getElem?_range hk, List.getElem?_eq_getElem (by omega)]
    show some _ = some (i64 (Mof l (k / 11) (k % 11)))
    unfold Mof
    rw [if_pos (by omega), show 11 * (k / 11) + k % 11 = k by omega, List.getD_eq_getElem?_getD, List.getElem?_eq_getElem (by omega)]; rfl
  · rw [List.getElem?_eq_none (by omega), List.getElem?_eq_none (by simp; omega)]; rfl
theorem mof_bds {l : List Int} (h : ∀ x ∈ l, -100000000 ≤ x ∧ x ≤ 100000000) : BdS (Mof l) := fun i j => by
  unfold Mof
  split
  · rw [List.getD_eq_getElem?_getD]
    cases e : l[11 * i + j]? with
    | none => show _ ≤ (0 : Int) ∧ (0 : Int) ≤ _; omega
    | some x => exact h x (List.mem_of_getElem? e)
  · omega

/-! the two functions -/
def lt0 (n : Int) : Bool :=
  match n with
  | .ofNat _ => false
  | .negSucc _ => true
theorem lt0_eq (n : Int) : lt0 n = decide (n < 0) := by cases n <;> simp [lt0] <;> omega
def z125 : HV := .tuple [.agg (Zr 125), .bool false]
def withR (t : List HV) (n f g : Nat) (lo hi : Int) (R : List (List Int)) : HV :=
  bif lt0 (Int.add hi (at2 R g f)) then z125 else
  bif Nat.blt g n then
    bif lt0 (Int.add (Int.sub (Int.neg lo) 1) (at2 (limR n f g hi R) f (g + 1))) then z125
    else .tuple [.agg (t ++ outR (limR n (g + 1) f (Int.sub (Int.neg lo) 1) (limR n f g hi R))), .bool true]
  else .tuple [.agg (t ++ outR (limR n f g hi R)), .bool true]
theorem withR_eq {t : Tb} {n f g : Nat} {lo hi : Int} {M : Mx} (hn : n ≤ 10) (hf : f ≤ n) (hg : g ≤ n) : withR t.cells n f g lo hi (Rm M) = withV t n f g lo hi M := by
  unfold withR withV
  rw [limR_eq hn hf hg, at2_eq M (by omega) (by omega), lt0_eq, lt0_eq]
  rw [show Int.add hi (M g f) = hi + M g f from rfl, show Int.sub (Int.neg lo) 1 = -lo - 1 from rfl, show Int.add (-lo - 1) (at2 (Rm (limM n f g hi M)) f (g + 1)) = -lo - 1 + at2 (Rm (limM n f g hi M)) f (g + 1) from rfl]
  by_cases h1 : 0 ≤ hi + M g f
  · rw [decide_eq_false (by omega), if_pos h1]
    simp only [cond_false]
    by_cases h2 : g < n
    · rw [if_pos h2, show Nat.blt g n = true from blt_t h2, at2_eq _ (by omega) (by omega), limR_eq hn (by omega) (by omega), ← bc_rows]
      simp only [cond_true]
      by_cases h3 : 0 ≤ -lo - 1 + limM n f g hi M f (g + 1)
      · rw [decide_eq_false (by omega), if_pos h3]; rfl
      · rw [decide_eq_true (by omega), if_neg h3]; rfl
    · have : Nat.blt g n = false := by
        cases e : Nat.blt g n with
        | false => rfl
        | true => exact absurd (blt_lt e) h2
      rw [if_neg h2, this, ← bc_rows]; rfl
  · rw [decide_eq_true (by omega), if_neg h1]; rfl
def toN (n : Int) : Option Nat :=
  match n with
  | .ofNat a => some a
  | .negSucc _ => none
theorem toN_some {n : Int} {k : Nat} (h : toN n = some k) : n = k := by cases n <;> cases h; rfl
def is121 (l : List Int) : Bool := Nat.beq l.length 121
/-- What 'with' comes to. -/
def spWith : List HV → HS → Option (HV × HS)
  | [.agg x, .agg y], σ =>
    match asInts x, asInts y with
    | some (c :: t :: a :: b :: l), some [f, g, lo, hi] =>
      match toN c, toN f, toN g with
      | some n, some f, some g => bif is121 l && Nat.ble n 10 && Nat.ble f n && Nat.ble g n && smI (Int.mul lo 100) && smI (Int.mul hi 100) then some (withR [i64 c, i64 t, i64 a, i64 b] n f g lo hi (rowsOf 11 l), σ) else none
      | _, _, _ => none
    | _, _ => none
  | _, _ => none
theorem D0 : D (Tr.e : Tr HBlk) 0 := D.e
theorem spWith_ok : ∀ args σ v σ', spWith args σ = some (v, σ') → σ' = σ ∧ args.all flat = true ∧ flatV v = true ∧ C LP 0 96 args ⟨.e, 0⟩ (fun v' _ => v' = v) := by
  intro args σ v σ' h
  unfold spWith at h
  split at h
  · rename_i x y σ1
    split at h
    · rename_i c t a b l f g lo hi h1 h2
      split at h
      · rename_i n f' g' e1 e2 e3
        cases hc : is121 l && Nat.ble n 10 && Nat.ble f' n && Nat.ble g' n && smI (Int.mul lo 100) && smI (Int.mul hi 100) with
        | false => rw [hc] at h; cases h
        | true =>
          rw [hc] at h
          simp only [cond_true] at h
          cases h
          simp only [Bool.and_eq_true] at hc
          obtain ⟨⟨⟨⟨⟨c1, c2⟩, c3⟩, c4⟩, c5⟩, c6⟩ := hc
          have hl : l.length = 121 := Nat.eq_of_beq_eq_true c1
          have hn := Nat.le_of_ble_eq_true c2
          have hf := Nat.le_of_ble_eq_true c3
          have hg := Nat.le_of_ble_eq_true c4
          have s1 := smI_iff c5
          have s2 := smI_iff c6
          rw [show Int.mul lo 100 = lo * 100 from rfl] at s1
          rw [show Int.mul hi 100 = hi * 100 from rfl] at s2
          have := toN_some e1; subst this
          have := toN_some e2; subst this
          have := toN_some e3; subst this
          obtain ⟨rfl, hb⟩ := asInts_some _ _ h1
          obtain ⟨rfl, _⟩ := asInts_some _ _ h2
          have hB : BdS (Mof l) := mof_bds fun x hx => hb x (by simp [hx])
          rw [mof_cells hl, ← mof_rows hl]
          have ew := withR_eq (t := ⟨n, t, a, b⟩) (lo := lo) (hi := hi) (M := Mof l) hn hf hg
          rw [show [i64 (n : Int), i64 t, i64 a, i64 b] = (⟨n, t, a, b⟩ : Tb).cells from rfl, ew]
          refine ⟨rfl, ?_, flat_with _ _ _ _ _ _ _, (c_with lp96 lp100 lp88 hn hf hg rfl hB (by omega) (by omega) D0).mono fun v' σ' hv => hv.1⟩
          show (List.all _ _ && (_ && true)) = true
          rw [bc_flat]; rfl
      · cases h
    · cases h
  · cases h
def u0R (n : Nat) (a b : Int) : List (List Int) := (List.range 11).map fun i => (List.range 11).map fun j => bif Nat.ble i n && Nat.ble j n then Int.mul (Int.sub (Int.ofNat j) (Int.ofNat i)) (bif Nat.ble i j then b else a) else 0
theorem u0R_eq (n : Nat) (a b : Int) : u0R n a b = Rm (u0 n a b) := by
  unfold u0R Rm u0
  apply List.map_congr_left; intro i _
  apply List.map_congr_left; intro j _
  by_cases h1 : i ≤ n ∧ j ≤ n
  · rw [if_pos h1, show (Nat.ble i n && Nat.ble j n) = true by rw [Bool.and_eq_true, Nat.ble_eq, Nat.ble_eq]; exact h1]
    by_cases h2 : i ≤ j
    · rw [if_pos h2, show Nat.ble i j = true from ble_t h2]; rfl
    · rw [if_neg h2, show Nat.ble i j = false by cases e : Nat.ble i j with | false => rfl | true => exact absurd (Nat.le_of_ble_eq_true e) h2]; rfl
  · rw [if_neg h1, show (Nat.ble i n && Nat.ble j n) = false by
      cases e : (Nat.ble i n && Nat.ble j n) with
      | false => rfl
      | true => rw [Bool.and_eq_true, Nat.ble_eq, Nat.ble_eq] at e; exact absurd e h1]; rfl
def stepR (n f g : Nat) (m : Int) (R : List (List Int)) : List (List Int) := bif lt0 (Int.add m (at2 R g f)) then R else limR n f g m R
theorem stepR_eq {n f g : Nat} {m : Int} {M : Mx} (hn : n ≤ 10) (hf : f ≤ n) (hg : g ≤ n) : stepR n f g m (Rm M) = Rm (if 0 ≤ m + M g f then limM n f g m M else M) := by
  unfold stepR
  rw [at2_eq M (by omega) (by omega), lt0_eq, show Int.add m (M g f) = m + M g f from rfl, limR_eq hn hf hg]
  by_cases h : 0 ≤ m + M g f
  · rw [decide_eq_false (by omega), if_pos h]; rfl
  · rw [decide_eq_true (by omega), if_neg h]; rfl
def spUnread : List HV → HS → Option (HV × HS)
  | [.agg x], σ =>
    match asInts x with
    | some [c, t, a, b] =>
      match toN c with
      | some n => bif Nat.ble n 10 && smI (Int.mul t 100) && smI (Int.mul a 100) && smI (Int.mul b 100) then some (.agg ([i64 c, i64 t, i64 a, i64 b] ++ outR (stepR n n 0 (Int.neg t) (stepR n 0 n t (u0R n a b)))), σ) else none
      | none => none
    | _ => none
  | _, _ => none
theorem spUnread_ok : ∀ args σ v σ', spUnread args σ = some (v, σ') → σ' = σ ∧ args.all flat = true ∧ flatV v = true ∧ C LP 0 97 args ⟨.e, 0⟩ (fun v' _ => v' = v) := by
  intro args σ v σ' h
  unfold spUnread at h
  split at h
  · rename_i x σ1
    split at h
    · rename_i c t a b h1
      split at h
      · rename_i n e1
        cases hc : Nat.ble n 10 && smI (Int.mul t 100) && smI (Int.mul a 100) && smI (Int.mul b 100) with
        | false => rw [hc] at h; cases h
        | true =>
          rw [hc] at h
          simp only [cond_true] at h
          cases h
          simp only [Bool.and_eq_true] at hc
          obtain ⟨⟨⟨c2, c3⟩, c4⟩, c5⟩ := hc
          have hn := Nat.le_of_ble_eq_true c2
          have s1 := smI_iff c3
          have s2 := smI_iff c4
          have s3 := smI_iff c5
          rw [show Int.mul t 100 = t * 100 from rfl] at s1
          rw [show Int.mul a 100 = a * 100 from rfl] at s2
          rw [show Int.mul b 100 = b * 100 from rfl] at s3
          have := toN_some e1; subst this
          obtain ⟨rfl, hb⟩ := asInts_some _ _ h1
          have e0 : stepR n n 0 (Int.neg t) (stepR n 0 n t (u0R n a b)) = Rm (unrM n ⟨n, t, a, b⟩) := by
            rw [u0R_eq, stepR_eq hn (by omega) (by omega), stepR_eq hn (by omega) (by omega)]; rfl
          rw [e0, show [i64 (n : Int), i64 t, i64 a, i64 b] = (⟨n, t, a, b⟩ : Tb).cells from rfl, ← bc_rows]
          refine ⟨rfl, rfl, bc_flat ⟨n, t, a, b⟩ (unrM n ⟨n, t, a, b⟩), (c_unread lp97 lp100 lp88 (t := ⟨n, t, a, b⟩) hn rfl (by show -1000000 ≤ a ∧ a ≤ 1000000; omega) (by show -1000000 ≤ b ∧ b ≤ 1000000; omega) (by show -1000000 ≤ t ∧ t ≤ 1000000; omega) D0).mono fun v' σ' hv => hv.1⟩
      · cases h
    · cases h
  · cases h
end
end Go.Hx

/- The closed runs of layer 1, on the plain machine: its functions, 'with' and 'unread' taken by what is proved of them. -/
namespace Go.Hx
noncomputable abbrev LQ : Nat → Option LFunc := withS (withS LP 96 spWith) 97 spUnread
theorem mixed : (Go.Proofs.Try.prog).follows .mixedOrders = true := by kernel_rfl
theorem lq_ok : LpOk Go.Proofs.Try.prog LQ := withS_ok (withS_ok lowP_ok (spec_plain mixed lowP_ok spWith_ok)) (spec_plain mixed lowP_ok spUnread_ok)
noncomputable def endK0 : Kv := fun v _ _ => some (v, ⟨.e, 0⟩)
theorem closed_of {lp : Nat → Option LFunc} {n f : Nat} (hr : (fnK lp n f).run 0 [] .e 0 endK0 = some (.bool true, ⟨.e, 0⟩)) : C lp 0 f [] ⟨.e, 0⟩ (fun v _ => v = .bool true) :=
  c_of_k hr fun v h nx hk => by unfold endK0 at hk; cases hk; rfl
end Go.Hx

