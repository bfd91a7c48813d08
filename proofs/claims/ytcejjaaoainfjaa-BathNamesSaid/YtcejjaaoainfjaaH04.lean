import Derived.Test.YtcejjaaoainfjaaH03
import Derived.Test.YtcejjaaoainfjaaH00
import Derived.RowKit3
import Derived.Test.YtcejjaaoainfjaaH02
import Derived.Below
import Derived.OpenShut
import Derived.Deep.Slices
import Derived.WideShapes
import Derived.Test.YtcejjaaoainfjaaH01
import Derived.ChangeSlices
set_option linter.all false
namespace Go.Hx
variable {P : Program} {lp : Nat → Option ze} {ex : Ex}
def LiveL (N : Nat → List Nat) (L : Nat → Bool) (z j : Nat) : Prop := ∀ m, m < z → L m = true → Fl N m → m ≠ j → j ∉ N m
structure DInv (P : Program) (lp : Nat → Option ze) (ex : Ex) (ops : Array Oper) (fl z : Nat) (σ : HS) (v : Nat → HV) (A : Nat → HAct) (S S' : Nat → HS) (mask : Nat → Nat) (N : Nat → List Nat)
  (base : Nat) (ρ0 : Rho) (W0 : World) (L : Nat → Bool) (A1 : Act) (W : World) (ρ : Rho) (g : Hp) (aL : HAct) : Prop where
 ar : AR ρ aL A1
 nt : aL.nt = (A 0).nt
 df : aL.defers = (A 0).defers
 tm : ∀ t, aL.tmp t = (actL ops v L (A 0) ops.size).tmp t
 fr : ∀ i, i < ops.size → L i = false → ∀ b, (S i).nx ≤ b → b < (S' i).nx → ρ b = none
 post : Post P base fl σ.nx (S ops.size).nx σ.h.get g ρ0 ρ W0 W
 closed : ∀ k, L k = true → ∀ j, (mask k).testBit j = true → L j = true
 hfs : ∀ i, i < ops.size → L i = true → HFS (if i < z then flo N σ S i else fl) (S i) (S' i)
 heap : ((∀ b x, σ.h.get b = some x → g b = some x) ∧ (∀ j, j < z → L j = true → LiveL N L z j → ∀ b x, Hold N σ.nx S S' j b → (S' j).h.get b = some x → g b = some x) ∧
    (∀ i o, z ≤ i → ops[i]? = some o → (lowOper P ops o).op.chg = true → L i = false))
  ∨ ∃ k o, z ≤ k ∧ ops[k]? = some o ∧ (lowOper P ops o).op.chg = true ∧ L k = true ∧ g = (S' k).h.get ∧ ∀ i o, k < i → ops[i]? = some o → (lowOper P ops o).op.chg = true → L i = false
section
variable {ops : Array Oper} {fl z : Nat} {σ : HS} {v : Nat → HV} {A : Nat → HAct} {S S' : Nat → HS} {mask : Nat → Nat} {N : Nat → List Nat} {base : Nat} {ρ0 ρ : Rho} {W0 W : World} {L : Nat → Bool} {A1 : Act} {g : Hp} {aL : HAct}
theorem zm {L : Nat → Bool} {i j : Nat} : also L i j = true ↔ j = i ∨ L j = true := by
 unfold also
 by_cases e : j = i
 ·simp [e]
 ·simp [e]
theorem zy {L : Nat → Bool} {i j : Nat} : also L i j = false ↔ j ≠ i ∧ L j = false := by
 unfold also
 by_cases e : j = i
 ·simp [e]
 ·simp [e]
theorem DInv.next (d : DF P lp ex ops fl z σ v A S S' mask N) (q : DInv P lp ex ops fl z σ v A S S' mask N base ρ0 W0 L A1 W ρ g aL) {i : Nat} {o : Oper} (ho : ops[i]? = some o) (hi : L i = false) (hanc : ∀ j, (mask i).testBit j = true → L j = true)
  {V : Value} {W' : World} {ρ' : Rho} {g' : Hp} (hv : VR ρ' (v i) V) (hp : Post P base fl (S i).nx (S' i).nx g g' ρ ρ' W W') (hf : HFS (if i < z then flo N σ S i else fl) (S i) (S' i))
  (hh : ((∀ b x, σ.h.get b = some x → g' b = some x) ∧ (∀ j, j < z → also L i j = true → LiveL N (also L i) z j → ∀ b x, Hold N σ.nx S S' j b → (S' j).h.get b = some x → g' b = some x) ∧
    (∀ i' o, z ≤ i' → ops[i']? = some o → (lowOper P ops o).op.chg = true → also L i i' = false))
  ∨ ∃ k o, z ≤ k ∧ ops[k]? = some o ∧ (lowOper P ops o).op.chg = true ∧ also L i k = true ∧ g' = (S' k).h.get ∧ ∀ i' o, k < i' → ops[i']? = some o → (lowOper P ops o).op.chg = true → also L i i' = false) :
  DInv P lp ex ops fl z σ v A S S' mask N base ρ0 W0 (also L i) (A1.put o.dst V) W' ρ' g' (aL.put o.dst (v i)) := by
 have hlt : i < ops.size := (Array.getElem?_eq_some_iff.1 ho).1
 have hn := d.nxt i hlt
 refine ⟨(q.ar.mono hp.ext).put hv _, by rw [yW]; exact q.nt, ?_, fun t => ?_, fun j hj hL b h1 h2 => ?_, ?_, fun k hk j hm => ?_, fun j hj hL => ?_, hh⟩
 ·rw [← q.df]
  unfold HAct.put
  cases o.dst with
  | none => rfl
  | some t => dsimp only; cases Nat.blt t aL.nt <;> rfl
 ·rw [d.done ho hi q.closed, zt, zt, q.tm, q.nt, uc]
 ·obtain ⟨hne, hL⟩ := zy.1 hL
  rw [hp.out b]
  ·exact q.fr j hj hL b h1 h2
  ·have := d.apart hlt hj (fun e => hne e.symm) (b := b)
   by_cases c : b < (S i).nx
   ·exact .inl c
   ·by_cases c2 : b < (S' i).nx
    ·exact (this (by omega) c2 h1 h2).elim
    ·exact .inr (by omega)
 ·refine q.post.and (hp.wide ?_ ?_)
  ·rw [← d.n0]; exact d.mono (Nat.zero_le _) (by omega)
  ·rw [← hn.2]; exact d.mono hlt (Nat.le_refl _)
 ·rcases zm.1 hk with rfl | hk
  ·exact zm.2 (.inr (hanc j hm))
  ·exact zm.2 (.inr (q.closed k hk j hm))
 ·rcases zm.1 hL with rfl | hL
  ·exact hf
  ·exact q.hfs j hj hL
theorem DF.upto (d : DF P lp ex ops fl z σ v A S S' mask N) {k : Nat} (hz : z ≤ k) (hk : k ≤ ops.size) (h : ∀ j o, z ≤ j → j < k → ops[j]? = some o → (lowOper P ops o).op.chg = true → HFS fl (S j) (S' j)) : HFS fl σ (S k) := by
 induction k with
 | zero =>
  have e : z = 0 := by omega
  subst e
  refine ⟨by rw [d.n0]; exact Nat.le_refl _, fun b _ _ => d.other b (fun j hj => by omega), fun b _ => d.other b (fun j hj => by omega)⟩
 | succ k ih =>
  by_cases e : z = k + 1
  ·rw [← e]
   have hmono : σ.nx ≤ (S z).nx := by rw [← d.n0]; exact d.mono (Nat.zero_le _) (by omega)
   refine ⟨hmono, fun b _ hb => d.other b (fun j hj h1 => ?_), fun b hb => d.other b (fun j hj h1 => ?_)⟩
   ·have := d.hold_ge (by omega) h1
    omega
   ·have := d.mono (i := j + 1) (j := z) (by omega) (by omega)
    have := (d.nxt j (by omega)).2
    have := h1.2
    omega
  ·have hlt : k < ops.size := by omega
   have ho : ops[k]? = some ops[k] := by simp [hlt]
   have ih := ih (by omega) (by omega) (fun j o h1 h2 => h j o h1 (by omega))
   have hs := (d.zone k _ ho (by omega)).2
   rw [hs]
   cases ht : (lowOper P ops ops[k]).op.chg with
   | true => exact ih.trans (h k _ (by omega) (by omega) ho ht)
   | false => rw [d.still1 ho ht]; exact ih
theorem DInv.begin (d : DF P lp ex ops fl z σ v A S S' mask N) (q1 : ∀ b x, σ.h.get b = some x → g b = some x) (q2 : ∀ j, j < z → L j = true → LiveL N L z j → ∀ b x, Hold N σ.nx S S' j b → (S' j).h.get b = some x → g b = some x)
  (hl : ∀ j o, j < z → ops[j]? = some o → (lowOper P ops o).op.chg = true → L j = true) : ∀ b x, (S z).h.get b = some x → g b = some x := by
 intro b x hx
 rcases d.all b x hx with h | ⟨j, h1, h2, h3, h4⟩
 ·exact q1 b x h
 ·have hlt : j < ops.size := Nat.lt_of_lt_of_le h1 d.zN
  have ho : ops[j]? = some ops[j] := by simp [hlt]
  cases ht : (lowOper P ops ops[j]).op.chg with
  | true =>
   refine q2 j h1 (hl j _ h1 ho ht) (fun m m1 m2 m3 m4 m5 => ?_) b x h3 h4
   have hml : m < ops.size := Nat.lt_of_lt_of_le m1 d.zN
   have hm : ops[m]? = some ops[m] := by simp [hml]
   rcases d.nsub m _ hm j m5 with e | e
   ·exact m4 e.symm
   ·have := d.lt m _ hm j e
    exact h2 m (by omega) m1 m3 m5
  | false =>
   have e := d.still1 ho ht
   rcases h3.1 with c | c
   ·have := h3.2
    rw [e] at this
    omega
   ·rw [uL (d.wr j _ ho c.1)] at ht; cases ht
theorem DInv.notMine (d : DF P lp ex ops fl z σ v A S S' mask N) (closed : ∀ k, L k = true → ∀ j, (mask k).testBit j = true → L j = true) {i b : Nat} (hi : i < ops.size) (hL : L i = false) (b1 : (S i).nx ≤ b) (b2 : b < (S' i).nx) :
  ∀ j, j < z → L j = true → Hold N σ.nx S S' j b → ∀ x, (S' j).h.get b = some x → False := by
 intro j
 induction j using Nat.strongRecOn with
 | ind j ih =>
  intro hz hj h x hx
  have hN := d.zN
  have ho : ops[j]? = some ops[j] := by simp [show j < ops.size by omega]
  rcases Nat.lt_trichotomy j i with c | c | c
  ·have e1 := (d.nxt j (by omega)).2
   have e2 := d.mono (i := j + 1) (j := i) c (by omega)
   have := h.2
   omega
  ·subst c; rw [hj] at hL; cases hL
  ·have e1 := (d.nxt i hi).2
   have e2 := d.mono (i := i + 1) (j := j) c (by omega)
   obtain ⟨y, k, k1, k2, k3, k4, k5⟩ := d.saw (by omega) hz h (by omega) hx
   have hk : L k = true := by
    rcases d.nsub j _ ho k k2 with e | e
    ·omega
    ·exact closed j hj k e
   exact ih k k1 (by omega) hk k4 y k5
theorem DInv.one (d : DF P lp ex ops fl z σ v A S S' mask N) (closed : ∀ k, L k = true → ∀ j, (mask k).testBit j = true → L j = true) {j j' b : Nat} {x y : HBlk} (hz : j < z) (hz' : j' < z) (h1 : L j = true) (h2 : L j' = true) (l1 : LiveL N L z j) (l2 : LiveL N L z j')
  (k1 : Hold N σ.nx S S' j b) (k2 : Hold N σ.nx S S' j' b) (hx : (S' j).h.get b = some x) (hy : (S' j').h.get b = some y) : j = j' := by
 have reach : ∀ p m, Reach N p m → p < ops.size → L p = true → L m = true := by
  intro p m r
  induction r with
  | refl => exact fun _ h => h
  | step h hk r ih =>
   rename_i p k m
   intro hp hl
   have ho : ops[p]? = some ops[p] := by simp [hp]
   refine ih (by omega) ?_
   rcases d.nsub p _ ho k h with e | e
   ·omega
   ·exact closed p hl k e
 have hN := d.zN
 rcases Nat.lt_trichotomy j j' with c | c | c
 ·obtain ⟨m, m1, m2, m3, m4⟩ := d.uniq j' j c hz' k1 k2 x y hx hy
  have := m1.le
  exact absurd m3 (l1 m (by omega) (reach _ _ m1 (by omega) h2) m2 (by omega))
 ·exact c
 ·obtain ⟨m, m1, m2, m3, m4⟩ := d.uniq j j' c hz k2 k1 y x hy hx
  have := m1.le
  exact absurd m3 (l2 m (by omega) (reach _ _ m1 (by omega) h1) m2 (by omega))
theorem op_done (hlp : LpOk P lp) (hle : ExLe ex) (hex : ExSound P ex) (d : DF P lp ex ops fl z σ v A S S' mask N) (hbase : base ≤ W0.heap.size) (q : DInv P lp ex ops fl z σ v A S S' mask N base ρ0 W0 L A1 W ρ g aL) {i : Nat} {o : Oper} (ho : ops[i]? = some o) (hi : L i = false) (hanc : ∀ j, (mask i).testBit j = true → L j = true)
  {R : Option Nat} {K : Act → World → Prop} {Q : Exit → Act → World → Prop} (hK : ∀ A1 W ρ g aL, DInv P lp ex ops fl z σ v A S S' mask N base ρ0 W0 (also L i) A1 W ρ g aL → K A1 W) : wpOpIn (FR R) 0 P ops Q i K A1 W := by
 have hlt : i < ops.size := (Array.getElem?_eq_some_iff.1 ho).1
 have hn := d.nxt i hlt
 have names : ∀ t ∈ (lowOper P ops o).names, aL.tmp t = (A i).tmp t := fun t ht => by rw [q.tm, d.sees ho hi hanc q.closed ht]
 have hnt : aL.nt = (A i).nt := q.nt.trans (d.act_all_nt (by omega)).symm
 have low : base ≤ W.heap.size := Nat.le_trans hbase q.post.size
 cases ht : (lowOper P ops o).op.touches with
 | false =>
  obtain ⟨f, hstep⟩ := d.step ho
  obtain ⟨he, hall⟩ := y6 ht hstep
  have h1 := hall (S i).nx ⟨.e, (S i).nx⟩
  rw [← yu _ hnt names] at h1
  have hin : In P base (⟨.e, (S i).nx⟩ : HS) ⟨.e, (S i).nx⟩ ρ W := ⟨low, q.post.sim.less fun b x hx => (by rw [Tr.get_e] at hx; cases hx), fun b h1 h2 => (by omega)⟩
  have hd : Dom (⟨.e, (S i).nx⟩ : HS) := fun b x hx => by rw [show (⟨.e, (S i).nx⟩ : HS).h = .e from rfl, Tr.get_e] at hx; cases hx
  refine (zK hlp hle hex ho h1 hd base ρ A1 W R K Q hin q.ar).2 fun V W' ρ' hv hp => ?_
  have hp' := Post.frame (fl := fl) (g := g) q.post.sim (fun b x hx => by rw [Tr.get_e] at hx; cases hx) rfl hp
  have hg : (fun b => if (S i).nx ≤ b ∧ b < (S i).nx then (Tr.e : Tr HBlk).get b else g b) = g := by
   funext b
   rw [if_neg (by omega)]
  rw [hg] at hp'
  refine hK _ _ ρ' g _ (q.next d ho hi hanc hv (by rw [he]; exact hp') (by rw [he]; exact HF.refl _ _ _) ?_)
  rcases q.heap with ⟨q1, q2, q3⟩ | ⟨k, ok, q1, q2, q3, q4, q5, q6⟩
  ·refine .inl ⟨q1, fun j hj hL hv b x h3 h4 => ?_, fun i' o' hz ho' ht' => zy.2 ⟨fun e => ?_, q3 i' o' hz ho' ht'⟩⟩
   ·rcases zm.1 hL with rfl | hL
    ·rcases h3.1 with c | c
     ·have := h3.2
      rw [he] at this; omega
     ·rw [vW (d.wr j _ ho c.1)] at ht; cases ht
    ·exact q2 j hj hL (fun m m1 m2 m3 m4 => hv m m1 (zm.2 (.inr m2)) m3 m4) b x h3 h4
   ·subst e; rw [ho] at ho'; cases ho'; rw [zE ht'] at ht; cases ht
  ·refine .inr ⟨k, ok, q1, q2, q3, zm.2 (.inr q4), q5, fun i' o' hk ho' ht' => zy.2 ⟨fun e => ?_, q6 i' o' hk ho' ht'⟩⟩
   subst e; rw [ho] at ho'; cases ho'; rw [zE ht'] at ht; cases ht
 | true =>
  by_cases hz : i < z
  ·-- it sees what those ahead of it have laid, and may write this if nobody else knows it
   have h1 := d.pure i o ho hz
   rw [← yu _ hnt names] at h1
   have pureCase : (∀ b x, σ.h.get b = some x → g b = some x) ∧ (∀ j, j < z → L j = true → LiveL N L z j → ∀ b x, Hold N σ.nx S S' j b → (S' j).h.get b = some x → g b = some x) ∧
    (∀ i o, z ≤ i → ops[i]? = some o → (lowOper P ops o).op.chg = true → L i = false) := by
    rcases q.heap with h | ⟨k, ok, q1, q2, q3, q4, q5, q6⟩
    ·exact h
    ·rcases d.ord k ok i o q2 ho (by omega) q1 with h | h | h | h | h
     ·rw [q.closed k q4 i h] at hi; cases hi
     ·rw [h] at ht; cases ht
     ·rw [zE q3] at h; cases h
     ·rw [zS q3] at h; cases h.2
     ·have := h.1; omega
   obtain ⟨q1, q2, q3⟩ := pureCase
   have hN := d.zN
   have maskOf : ∀ j, j < i → j ∈ N i → (mask i).testBit j = true := fun j h2 h3 => (d.nsub i o ho j h3).resolve_left (by omega)
   have liveIn : ∀ j, j < i → j ∈ N i → Live N j (j + 1) i → LiveL N L z j := fun j h2 h3 h4 m m1 m2 m3 m4 m5 => by
    have hm : ops[m]? = some ops[m] := by simp [show m < ops.size by omega]
    rcases d.exc m _ hm m3 j m5 (Ne.symm m4) i o ho ht (maskOf j h2 h3) with e | e | e
    ·subst e; rw [hi] at m2; cases m2
    ·rw [q.closed m m2 i e] at hi; cases hi
    ·have := d.lt i o ho m e
     have : j < m := by
      rcases d.nsub m _ hm j m5 with e2 | e2
      ·exact absurd e2.symm m4
      ·exact d.lt m _ hm j e2
     exact h4 m (by omega) (by omega) m3 m5
   have seen : ∀ b x, (S i).h.get b = some x → σ.h.get b = some x ∨ ∃ j, j < i ∧ j ∈ N i ∧ L j = true ∧ LiveL N L z j ∧ Hold N σ.nx S S' j b ∧ (S' j).h.get b = some x := fun b x hx => by
    rcases d.from_ i hlt hz b x hx with h | ⟨j, h2, h3, h4, h5, h6⟩
    ·exact .inl h
    ·exact .inr ⟨j, h2, h3, hanc j (maskOf j h2 h3), liveIn j h2 h3 h4, h5, h6⟩
   have hsub : ∀ b x, (S i).h.get b = some x → g b = some x := fun b x hx => by
    rcases seen b x hx with h | ⟨j, h2, h3, h4, h5, h6, h7⟩
    ·exact q1 b x h
    ·exact q2 j (by omega) h4 h5 b x h6 h7
   have hnx : σ.nx ≤ (S i).nx := by
    have := d.mono (i := 0) (j := i) (Nat.zero_le _) (by omega)
    rwa [d.n0] at this
   have hdom : Dom (S i) := fun b x hx => by
    rcases seen b x hx with h | ⟨j, h2, h3, h4, h5, h6, h7⟩
    ·have := d.dom b x h
     omega
    ·have := (d.nxt j (by omega)).2
     have := d.mono (i := j + 1) (j := i) (by omega) (by omega)
     have := h6.2
     omega
   obtain ⟨f1, f2⟩ := d.flo_le hlt
   have hin : In P base (S i) (S' i) ρ W := ⟨low, q.post.sim.less hsub, q.fr i hlt hi⟩
   obtain ⟨hf, hw⟩ := zK hlp hle hex ho h1 hdom base ρ A1 W R K Q hin q.ar
   refine hw fun V W' ρ' hv hp => ?_
   have hp' := Post.frameW (fl := fl) (g := g) q.post.sim hsub (Nat.le_trans d.flo f1) f2 (fun b hb => hf.low b hb (by omega)) hp
   refine hK _ _ ρ' _ _ (q.next d ho hi hanc hv hp' (by rw [if_pos hz]; exact hf) (.inl ⟨fun b x hx => ?_, fun j hj hL hlv b x h3 h4 => ?_, fun i' o' hz' ho' ht' => zy.2 ⟨fun e => by omega, q3 i' o' hz' ho' ht'⟩⟩))
   ·have hb := d.dom b x hx
    by_cases c : ((S i).nx ≤ b ∧ b < (S' i).nx) ∨ ((S i).h.get b).isSome = true
    ·rw [if_pos c]
     rcases c with c | c
     ·omega
     ·obtain ⟨y, hy⟩ := Option.isSome_iff_exists.1 c
      have e := hsub b y hy
      rw [q1 b x hx] at e
      cases e
      rw [hf.low b (by omega) (by omega)]
      exact hy
    ·rw [if_neg c]; exact q1 b x hx
   ·rcases zm.1 hL with rfl | hL
    ·-- its own
     rw [if_pos]
     ·exact h4
     ·by_cases c : (S j).nx ≤ b
      ·exact .inl ⟨c, h3.2⟩
      ·refine .inr ?_
       have hfl : Fl N j := by
        rcases h3.1 with h | h
        ·exact absurd h c
        ·exact h.1
       cases hy : (S j).h.get b with
       | none =>
        have := y5 (d.wr j o ho hfl) h1 b (by omega) hy
        rw [this] at h4; cases h4
       | some y => rfl
    ·have hlv' : LiveL N L z j := fun m m1 m2 m3 m4 => hlv m m1 (zm.2 (.inr m2)) m3 m4
     have hgb := q2 j hj hL hlv' b x h3 h4
     by_cases c : ((S i).nx ≤ b ∧ b < (S' i).nx) ∨ ((S i).h.get b).isSome = true
     ·rw [if_pos c]
      rcases c with c | c
      ·exact (DInv.notMine d q.closed hlt hi c.1 c.2 j hj hL h3 x h4).elim
      ·obtain ⟨y, hy⟩ := Option.isSome_iff_exists.1 c
       rcases seen b y hy with h | ⟨k, k1, k2, k3, k4, k5, k6⟩
       ·have := d.dom b y h
        have := d.hold_ge (by omega) h3
        omega
       ·have e := DInv.one d q.closed hj (by omega) hL k3 hlv' k4 h3 k5 h4 k6
        subst e
        have nf : ¬ Fl N i := fun hfi => hlv i hz (zm.2 (.inl rfl)) hfi (by omega) k2
        have ef : flo N σ S i = (S i).nx := by
         unfold flo
         cases hc : (N i).contains i with
         | true => exact absurd hc nf
         | false => rfl
        have hb : b < (S i).nx := hdom b y hy
        rw [hf.low b (by rw [ef]; exact hb) hb]
        rw [hsub b y hy] at hgb
        cases hgb
        exact hy
     ·rw [if_neg c]; exact hgb
  ·have hz : z ≤ i := by omega
   obtain ⟨h1, hs1⟩ := d.zone i o ho hz
   rw [← yu _ hnt names] at h1
   -- all before it on memory has been done
   have before : ∀ j x, j < i → ops[j]? = some x → (lowOper P ops x).op.chg = true → L j = true := fun j x hj hx htx => by
    rcases d.ord i o j x ho hx hj hz with h | h | h | h | h
    ·exact hanc j h
    ·rw [zE htx] at h; cases h
    ·rw [h] at ht; cases ht
    ·rw [zS htx] at h; cases h.1
    ·rw [zS htx] at h; cases h.2.1
   cases hc : (lowOper P ops o).op.chg with
   | false =>
    have key : ∃ σ2 : HS, (∀ b x, σ2.h.get b = some x → g b = some x) ∧ Dom σ2 ∧ σ.nx ≤ σ2.nx ∧ stepVal lp ex fl (lowOper P ops o) aL σ2 = some (v i, σ2) := by
     have he := d.still1 ho hc
     have hfd : HFS fl σ (S i) := d.upto hz (by omega) fun j x h2 h3 hx htx => by
      have := q.hfs j (by omega) (before j x h3 hx htx)
      rwa [if_neg (by omega)] at this
     have here : (∀ b x, (S i).h.get b = some x → g b = some x) → ∃ σ2 : HS, (∀ b x, σ2.h.get b = some x → g b = some x) ∧ Dom σ2 ∧ σ.nx ≤ σ2.nx ∧ stepVal lp ex fl (lowOper P ops o) aL σ2 = some (v i, σ2) := fun hsub =>
      ⟨S i, hsub, hfd.dom d.dom, hfd.le, by rw [he] at h1; exact h1⟩
     rcases q.heap with ⟨q1, q2, q3⟩ | ⟨k, ok, q1, q2, q3, q4, q5, q6⟩
     ·refine here ?_
      have e : S i = S z := d.still (Nat.le_refl _) hz (by omega) fun j x h2 h3 hx => by
       cases htx : (lowOper P ops x).op.chg with
       | false => rfl
       | true =>
        have c1 := before j x h3 hx htx
        rw [q3 j x h2 hx htx] at c1; cases c1
      rw [e]
      exact DInv.begin d q1 q2 fun j x hj hx htx => before j x (by omega) hx htx
     ·rcases Nat.lt_trichotomy k i with hki | hki | hki
      ·refine here ?_
       have e : S i = S (k + 1) := d.still (by omega) (by omega) (by omega) fun j x h2 h3 hx => by
        cases htx : (lowOper P ops x).op.chg with
        | false => rfl
        | true =>
         have c1 := before j x h3 hx htx
         rw [q6 j x (by omega) hx htx] at c1; cases c1
       rw [e, (d.zone k ok q2 q1).2, q5]
       exact fun b x hx => hx
      ·subst hki; rw [hi] at q4; cases q4
      ·have hkl : k < ops.size := (Array.getElem?_eq_some_iff.1 q2).1
       rcases d.ord k ok i o q2 ho hki q1 with h | h | h | h | h
       ·rw [q.closed k q4 i h] at hi; cases hi
       ·rw [h] at ht; cases ht
       ·rw [zE q3] at h; cases h
       ·rw [zS q3] at h; cases h.2
       ·have beforeK : ∀ j x, j < k → ops[j]? = some x → (lowOper P ops x).op.chg = true → L j = true := fun j x hj hx htx => by
         rcases d.ord k ok j x q2 hx hj q1 with h | h | h | h | h
         ·exact q.closed k q4 j h
         ·rw [zE htx] at h; cases h
         ·rw [zE q3] at h; cases h
         ·rw [zS htx] at h; cases h.1
         ·rw [zS htx] at h; cases h.2.1
        have hfk : HFS fl σ (S k) := d.upto q1 (by omega) fun j x h2 h3 hx htx => by
         have := q.hfs j (by omega) (beforeK j x h3 hx htx)
         rwa [if_neg (by omega)] at this
        have hk2 := q.hfs k hkl q4
        rw [if_neg (by omega)] at hk2
        have hfk' := hfk.trans hk2
        exact ⟨S' k, fun b x hx => by rw [q5]; exact hx, hfk'.dom d.dom, hfk'.le, by rw [yu _ hnt names]; exact h.2.2⟩
    obtain ⟨σ2, k1, k2, k3, k4⟩ := key
    have hin : In P base σ2 σ2 ρ W := ⟨low, q.post.sim.less k1, fun b h1 h2 => by omega⟩
    obtain ⟨hf, hw⟩ := zK hlp hle hex ho k4 k2 base ρ A1 W R K Q hin q.ar
    refine hw fun V W' ρ' hv hp => ?_
    have hp' := Post.frameW (fl := fl) (g := g) q.post.sim k1 (Nat.le_refl _) (Nat.le_trans d.flo k3) (fun b _ => rfl) hp
    have hg : (fun b => if (σ2.nx ≤ b ∧ b < σ2.nx) ∨ (σ2.h.get b).isSome = true then σ2.h.get b else g b) = g := by
     funext b
     split
     ·rename_i c
      rcases c with c | c
      ·omega
      ·obtain ⟨y, hy⟩ := Option.isSome_iff_exists.1 c
       rw [hy, k1 b y hy]
     ·rfl
    rw [hg] at hp'
    have he := d.still1 ho hc
    have hp2 : Post P base fl (S i).nx (S' i).nx g g ρ ρ' W W' := { hp' with out := fun b _ => hp'.out b (by omega) }
    refine hK _ _ ρ' g _ (q.next d ho hi hanc hv hp2 (by rw [if_neg (by omega), he]; exact HF.refl _ _ _) ?_)
    rcases q.heap with ⟨q1, q2, q3⟩ | ⟨k, ok, q1, q2, q3, q4, q5, q6⟩
    ·refine .inl ⟨q1, fun j hj hL hv b x h3 h4 => ?_, fun i' o' hz ho' ht' => zy.2 ⟨fun e => ?_, q3 i' o' hz ho' ht'⟩⟩
     ·rcases zm.1 hL with rfl | hL
      ·omega
      ·exact q2 j hj hL (fun m m1 m2 m3 m4 => hv m m1 (zm.2 (.inr m2)) m3 m4) b x h3 h4
     ·subst e; rw [ho] at ho'; cases ho'; rw [hc] at ht'; cases ht'
    ·refine .inr ⟨k, ok, q1, q2, q3, zm.2 (.inr q4), q5, fun i' o' hk ho' ht' => zy.2 ⟨fun e => ?_, q6 i' o' hk ho' ht'⟩⟩
     subst e; rw [ho] at ho'; cases ho'; rw [hc] at ht'; cases ht'
   | true =>
    have after : ∀ j x, i < j → ops[j]? = some x → (lowOper P ops x).op.chg = true → L j = false := fun j x hj hx htx => by
     rcases d.ord j x i o hx ho hj (by omega) with h | h | h | h | h
     ·cases hL : L j with
      | false => rfl
      | true => rw [q.closed j hL i h] at hi; cases hi
     ·rw [h] at ht; cases ht
     ·rw [zE htx] at h; cases h
     ·rw [zS htx] at h; cases h.2
     ·rw [zS hc] at h; cases h.2.1
    have hfd : HFS fl σ (S i) := d.upto hz (by omega) fun j x h2 h3 hx htx => by
     have := q.hfs j (by omega) (before j x h3 hx htx)
     rwa [if_neg (by omega)] at this
    have hdom : Dom (S i) := hfd.dom d.dom
    have hsub : ∀ b x, (S i).h.get b = some x → g b = some x := by
     rcases q.heap with ⟨q1, q2, q3⟩ | ⟨k, ok, q1, q2, q3, q4, q5, q6⟩
     ·have e : S i = S z := d.still (Nat.le_refl _) hz (by omega) fun j x h2 h3 hx => by
       cases htx : (lowOper P ops x).op.chg with
       | false => rfl
       | true =>
        have c1 := before j x h3 hx htx
        rw [q3 j x h2 hx htx] at c1; cases c1
      rw [e]
      exact DInv.begin d q1 q2 fun j x hj hx htx => before j x (by omega) hx htx
     ·have hki : k < i := by
       rcases Nat.lt_or_ge k i with h | h
       ·exact h
       ·rcases Nat.lt_or_eq_of_le h with h | h
        ·rw [after k ok h q2 q3] at q4; cases q4
        ·subst h; rw [hi] at q4; cases q4
      have e : S i = S (k + 1) := d.still (by omega) (by omega) (by omega) fun j x h2 h3 hx => by
       cases htx : (lowOper P ops x).op.chg with
       | false => rfl
       | true =>
        have c1 := before j x h3 hx htx
        rw [q6 j x (by omega) hx htx] at c1; cases c1
      rw [e, (d.zone k ok q2 q1).2, q5]
      exact fun b x hx => hx
    have hin : In P base (S i) (S' i) ρ W := ⟨low, q.post.sim.less hsub, q.fr i hlt hi⟩
    obtain ⟨hf, hw⟩ := zK hlp hle hex ho h1 hdom base ρ A1 W R K Q hin q.ar
    refine hw fun V W' ρ' hv hp => ?_
    refine hK _ _ ρ' _ _ (q.next d ho hi hanc hv (hp.more hsub) (by rw [if_neg (by omega)]; exact hf) (.inr ⟨i, o, hz, ho, hc, zm.2 (.inl rfl), rfl, fun i' o' h2 ho' ht' => zy.2 ⟨by omega, after i' o' h2 ho' ht'⟩⟩))
theorem all_done (d : DF P lp ex ops fl z σ v A S S' mask N) (q : DInv P lp ex ops fl z σ v A S S' mask N base ρ0 W0 L A1 W ρ g aL) (h : ∀ i, i < ops.size → L i = true) :
  HFS fl σ (S ops.size) ∧ PostS P base fl σ (S ops.size) ρ0 ρ W0 W ∧ (AR ρ (A ops.size) A1) := by
 refine ⟨d.upto d.zN (Nat.le_refl _) fun j o h1 h2 _ _ => ?_, ?_, ?_⟩
 ·have := q.hfs j h2 (h j h2)
  rwa [if_neg (by omega)] at this
 ·refine q.post.less ?_
  rcases q.heap with ⟨q1, q2, q3⟩ | ⟨k, ok, q1, q2, q3, q4, q5, q6⟩
  ·have e : S ops.size = S z := d.still (Nat.le_refl _) d.zN (Nat.le_refl _) fun j x h2 h3 hx => by
    cases htx : (lowOper P ops x).op.chg with
    | false => rfl
    | true => have := h j h3; rw [q3 j x h2 hx htx] at this; cases this
   rw [e]
   exact DInv.begin d q1 q2 fun j x hj hx htx => h j (by have := d.zN; omega)
  ·have hk : k < ops.size := (Array.getElem?_eq_some_iff.1 q2).1
   have e : S ops.size = S (k + 1) := d.still (by omega) (by omega) (Nat.le_refl _) fun j x h2 h3 hx => by
    cases htx : (lowOper P ops x).op.chg with
    | false => rfl
    | true => have := h j h3; rw [q6 j x (by omega) hx htx] at this; cases this
   rw [e, (d.zone k ok q2 q1).2, q5]
   exact fun b x hx => hx
 ·have e := d.done_all h (Nat.le_refl ops.size)
  have hnt := d.act_all_nt (Nat.le_refl ops.size)
  have hdf : ∀ k, k ≤ ops.size → (A k).defers = (A 0).defers := by
   intro k
   induction k with
   | zero => intro _; rfl
   | succ k ih =>
    intro hk
    have hkl : k < ops.size := by omega
    have hok : ops[k]? = some ops[k] := by simp [hkl]
    rw [d.act k _ hok, ← ih (by omega)]
    unfold HAct.put
    cases ops[k].dst with
    | none => rfl
    | some t => dsimp only; cases Nat.blt t (A k).nt <;> rfl
  have tm := q.tm
  rw [e] at tm
  refine ⟨⟨?_, fun t => ?_⟩, ?_, ?_⟩
  ·rw [hnt, ← q.nt]; exact q.ar.tmps.1
  ·have := q.ar.tmps.2 t
   have e2 := tm t
   unfold HAct.tmp at e2
   rw [← e2]
   exact this
  ·rw [hdf _ (Nat.le_refl _), ← q.df]; exact q.ar.defers
  ·rw [hdf _ (Nat.le_refl _), ← q.df]; exact q.ar.marks
end
end Go.Hx

namespace Go.Hx
variable {P : Program} {lp : Nat → Option ze} {ex : Ex}
section
variable {ops : Array Oper} {fl z : Nat} {σ : HS} {v : Nat → HV} {A : Nat → HAct} {S S' : Nat → HS} {mask : Nat → Nat} {N : Nat → List Nat} {base : Nat} {ρ0 : Rho} {W0 : World}
theorem yG {l : Array Bool} {i : Nat} (hi : i < l.size) : l.getD i true = l.getD i false := by
 simp [Array.getD_eq_getD_getElem?, hi]
theorem uJ {l : Array Bool} {i : Nat} (hi : i < l.size) : (fun j => (l.setIfInBounds i true).getD j false) = also (fun j => l.getD j false) i := by
 funext j
 unfold also
 simp only [Array.getD_eq_getD_getElem?, Array.getElem?_setIfInBounds]
 by_cases e : i = j
 ·subst e; simp [hi]
 ·have : j ≠ i := fun h => e h.symm
  simp [e, this]
theorem vU (hlp : LpOk P lp) (hle : ExLe ex) (hex : ExSound P ex) (d : DF P lp ex ops fl z σ v A S S' mask N) (hbase : base ≤ W0.heap.size) {R : Option Nat} {Q : Exit → Act → World → Prop}
  (hQ : ∀ A1 W ρ, HFS fl σ (S ops.size) → PostS P base fl σ (S ops.size) ρ0 ρ W0 W → AR ρ (A ops.size) A1 → Q .normal A1 W) :
  ∀ (n : Nat) (l : Array Bool) (A1 : Act) (W : World) (ρ : Rho) (g : Hp) (aL : HAct), l.size = ops.size → cnt (fun i => l.getD i false) ops.size = n →
   DInv P lp ex ops fl z σ v A S S' mask N base ρ0 W0 (fun i => l.getD i false) A1 W ρ g aL → wpAnyIn (FR R) 0 P .any ops Q n l A1 W
 | 0, l, A1, W, ρ, g, aL, hs, hc, q => by
  have h := uC _ hc
  unfold wpAnyIn
  refine ⟨?_, ?_⟩
  ·apply List.eq_nil_iff_forall_not_mem.2
   intro i hi
   obtain ⟨h1, o, ho, _⟩ := mem_ready.1 hi
   have hlt : i < ops.size := (Array.getElem?_eq_some_iff.1 ho).1
   rw [yG (by omega), h i hlt] at h1
   cases h1
  ·obtain ⟨h1, h2, h3⟩ := all_done d q h
   exact hQ _ _ _ h1 h2 h3
 | n + 1, l, A1, W, ρ, g, aL, hs, hc, q => by
  unfold wpAnyIn
  refine ⟨fun hr => ?_, fun i hi => ?_⟩
  ·-- the first one that is not done could be done
   exfalso
   have least : ∀ k, k ≤ ops.size → (∀ i, i < k → l.getD i false = true) ∨ ∃ i, i < k ∧ l.getD i false = false ∧ ∀ j, j < i → l.getD j false = true := by
    intro k
    induction k with
    | zero => intro _; exact .inl fun i hi => by omega
    | succ k ih =>
     intro hk
     rcases ih (by omega) with h | ⟨i, h1, h2, h3⟩
     ·cases hL : l.getD k false with
      | true =>
       refine .inl fun i hi => ?_
       by_cases e : i = k
       ·rw [e]; exact hL
       ·exact h i (by omega)
      | false => exact .inr ⟨k, by omega, hL, h⟩
     ·exact .inr ⟨i, by omega, h2, h3⟩
   rcases least ops.size (Nat.le_refl _) with h | ⟨i, h1, h2, h3⟩
   ·have : ∀ k, k ≤ ops.size → cnt (fun i => l.getD i false) k = 0 := by
     intro k
     induction k with
     | zero => intro _; rfl
     | succ k ih => intro hk; unfold cnt; rw [ih (by omega), h k (by omega)]; rfl
    rw [this _ (Nat.le_refl _)] at hc
    cases hc
   ·have ho : ops[i]? = some ops[i] := by simp [h1]
    have : i ∈ Region.ready .any ops l := mem_ready.2 ⟨by rw [yG (by omega)]; exact h2, ops[i], ho, fun e he hb => h3 _ (d.edge i _ ho e he hb)⟩
    rw [hr] at this
    cases this
  ·obtain ⟨h1, o, ho, h2⟩ := mem_ready.1 hi
   have hlt : i < ops.size := (Array.getElem?_eq_some_iff.1 ho).1
   rw [yG (by omega)] at h1
   have hanc : ∀ j, (mask i).testBit j = true → l.getD j false = true := fun j hj => by
    obtain ⟨e, he, hb, h⟩ := d.anc i o ho j hj
    have h3 := h2 e he hb
    rcases h with rfl | h
    ·exact h3
    ·exact q.closed e.on h3 j h
   refine op_done hlp hle hex d hbase q ho h1 hanc fun A1 W ρ g aL q' => ?_
   rw [← uJ (by omega)] at q'
   have hc' : cnt (fun j => (l.setIfInBounds i true).getD j false) ops.size = n := by
    rw [uJ (by omega)]
    have := (uE (L := fun j => l.getD j false) (i := i) h1 ops.size).2 hlt
    omega
   exact vU hlp hle hex d hbase hQ n _ A1 W ρ g aL (by simpa using hs) hc' q'
end
noncomputable def chk1 (a : HAct) (σ : HS) (p : Bool × Nat × Lo × Nat) : Bool := match oLoad p.1 p.2.1 p.2.2.1 a σ with | some (u, _) => Nat.blt p.2.2.2 a.nt && hvEq u (a.tmp p.2.2.2) | none => false
theorem jr {a : HAct} {σ : HS} : ∀ {cs : List (Bool × Nat × Lo × Nat)}, chkH a σ cs = true → ∀ p ∈ cs, chk1 a σ p = true
 | [], _, p, hp => by cases hp
 | (g, n, x, t) :: cs, h, p, hp => by
  unfold chkH at h
  simp only [Bool.and_eq_true] at h
  rcases List.mem_cons.1 hp with rfl | hp
  ·exact h.1
  ·exact jr h.2 p hp
theorem ur {all : List zb} {m i s j : Nat} {p : Bool × Nat × Lo × Nat} (hs : s ≤ j) (hm : m.testBit j = false) (hp : pairOf all i j = some p) : ∀ {n : Nat}, j < n → p ∈ chksOf all m i s n
 | 0, h => by omega
 | n + 1, h => by
  unfold chksOf
  by_cases e : j = n
  ·subst e
   have : (Nat.ble s j && !m.testBit j) = true := by rw [hm]; simpa using hs
   rw [this, hp]
   exact List.mem_cons_self ..
  ·have ih := ur (all := all) (m := m) (i := i) hs hm hp (n := n) (by omega)
   cases (Nat.ble s n && !m.testBit n) with
   | false => exact ih
   | true =>
    simp only [cond_true]
    split
    ·exact List.mem_cons_of_mem _ ih
    ·exact ih
theorem uy {a b : HV} (h : hvEq1 a b = true) : a = b := by
 unfold hvEq1 at h
 split at h <;> first | (cases h; done) | rfl | skip
 all_goals simp only [Bool.and_eq_true, beq_iff_eq, uh, eqI_eq, decide_eq_true_eq, Nat.beq_eq] at h
 ·rw [h]
 ·rw [h.1, h.2]
 ·rw [h.1, h.2]
 ·rw [h.1, h.2]
 ·rw [h.1.1, h.1.2, h.2.1, h.2.2]
 ·rw [h]
 ·rw [h]
theorem ux : ∀ {a b : List HV}, hvEqs a b = true → a = b
 | [], [], _ => rfl
 | x :: xs, y :: ys, h => by
  unfold hvEqs at h
  simp only [Bool.and_eq_true] at h
  rw [uy h.1, ux h.2]
 | [], _ :: _, h => by cases h
 | _ :: _, [], h => by cases h
theorem hvEq_eq {a b : HV} (h : hvEq a b = true) : a = b := by
 unfold hvEq at h
 split at h
 ·rw [ux h]
 ·exact uy h
theorem jF {o : zb} (h : isCallO o = true) : ∃ f xs, o.op = .call f xs ∧ o.g = none := by
 unfold isCallO at h
 split at h
 ·rename_i f xs e1 e2; exact ⟨_, xs, e1, e2⟩
 ·cases h
theorem vB {all : List zb} {m i s : Nat} {o : zb} {fl : Nat} {a : HAct} {σ σ' : HS} {v : HV} (h : stepVal lp ex fl (withChk1 all m i s o) a σ = some (v, σ')) :
  stepVal lp ex fl o a σ = some (v, σ') ∧ (s ≤ i → isCallO o = true → ∀ p ∈ chksOf all m i s i, chk1 a σ' p = true) := by
 unfold withChk1 at h
 cases hc : (Nat.ble s i && isCallO o) with
 | false =>
  rw [hc] at h
  refine ⟨h, fun h1 h2 => ?_⟩
  have : Nat.ble s i = true := by rw [Nat.ble_eq]; exact h1
  rw [h2, this] at hc
  cases hc
 | true =>
  rw [hc] at h
  simp only [cond_true] at h
  simp only [Bool.and_eq_true] at hc
  obtain ⟨f, xs, e1, e2⟩ := jF hc.2
  cases hcs : chksOf all m i s i with
  | nil => rw [hcs] at h; exact ⟨h, fun _ _ p hp => by cases hp⟩
  | cons c cs =>
   rw [hcs] at h
   have hw : withCall o (c :: cs) = { o with op := .callC f xs (c :: cs) } := by unfold withCall; rw [e1]
   dsimp only at h
   rw [hw] at h
   unfold stepVal at h ⊢
   rw [show wantedH ({ o with op := .callC f xs (c :: cs) } : zb).g a = true by show wantedH o.g a = true; rw [e2]; rfl] at h
   rw [show wantedH o.g a = true by rw [e2]; rfl]
   simp only [cond_true] at h ⊢
   have h : oCallC lp ex fl f xs (c :: cs) a σ = some (v, σ') := h
   unfold oCallC at h
   split at h
   ·rename_i v1 σ1 h1
    revert h
    cases hk : chkH a σ1 (c :: cs) with
    | false => intro h; cases h
    | true =>
     intro h
     cases h
     refine ⟨?_, fun _ _ => jr hk⟩
     rw [e1]; exact h1
   ·cases h
theorem jm {all : List zb} {ns : List Nat} {j : Nat} : ∀ {n : Nat}, noOver all ns j n = true → ∀ k x d, j < k → k < n → all[k]? = some x → x.dst = some d → d ∉ ns
 | 0, _, k, _, _, _, h, _, _ => by omega
 | n + 1, h, k, x, d, h1, h2, hx, hd => by
  unfold noOver at h
  simp only [Bool.and_eq_true] at h
  by_cases e : k = n
  ·subst e
   have := h.1
   rw [hx] at this
   simp only [hd, Bool.or_eq_true, Nat.ble_eq] at this
   rcases this with h | h
   ·omega
   ·simpa using h
  ·exact jm h.2 k x d h1 (by omega) hx hd
theorem pair_of {all : List zb} {i j : Nat} {p : Bool × Nat × Lo × Nat} (h : pairOf all i j = some p) : ∃ an, all[j]? = some ⟨some p.2.2.2, .load p.1 p.2.1 p.2.2.1, none, an⟩ ∧ p.2.2.2 ∉ p.2.2.1.tmps ∧ noOver all (p.2.2.2 :: p.2.2.1.tmps) j i = true := by
 unfold pairOf at h
 split at h
 ·rename_i t g n x an e
  revert h
  cases hc : (!x.tmps.contains t && noOver all (t :: x.tmps) j i) with
  | false => intro h; cases h
  | true =>
   intro h
   cases h
   simp only [Bool.and_eq_true, Bool.not_eq_true'] at hc
   exact ⟨an, e, by simpa using hc.1, hc.2⟩
 ·cases h
theorem chk_at {all : List zb} {masks : List Nat} {s : Nat} : ∀ (os : List zb) (k i : Nat), (withChk all masks s os k)[i]? = (os[i]?).map fun o => withChk1 all (masks.getD (k + i) 0) (k + i) s o
 | [], k, i => by simp [withChk]
 | o :: os, k, 0 => by simp [withChk]
 | o :: os, k, i + 1 => by
  have := chk_at (all := all) (masks := masks) (s := s) os (k + 1) i
  rw [show k + 1 + i = k + (i + 1) by omega] at this
  simpa [withChk] using this
theorem yy {all : List zb} {m i s : Nat} {o : zb} : (withChk1 all m i s o).dst = o.dst ∧ (withChk1 all m i s o).anc = o.anc := by
 unfold withChk1
 cases (Nat.ble s i && isCallO o) with
 | false => exact ⟨rfl, rfl⟩
 | true =>
  simp only [cond_true]
  split
  ·exact ⟨rfl, rfl⟩
  ·unfold withCall
   split <;> exact ⟨rfl, rfl⟩
theorem chk1_low {all : List zb} {m i s : Nat} {o : zb} (h : i < s) : withChk1 all m i s o = o := by
 unfold withChk1
 have : Nat.ble s i = false := by
  cases e : Nat.ble s i
  ·rfl
  ·rw [Nat.ble_eq] at e; omega
 rw [this]; rfl
theorem jc (hm : P.follows .mixedOrders = true) (hlp : LpOk P lp) (hle : ExLe ex) (hex : ExSound P ex) : DrawSound P lp ex := by
 intro id ops fl rd a σ e a' σ' h hd
 unfold lowDraw at h
 simp only at h
 obtain ⟨all, hall⟩ : ∃ all, all = ops.toList.map (lowOper P ops) := ⟨_, rfl⟩
 obtain ⟨masks, hmasks⟩ : ∃ masks, masks = masksOf ops.toList [] := ⟨_, rfl⟩
 rw [← hall, ← hmasks] at h
 cases hok : (drawOk all masks all 0 && edgesOks ops.toList 0) with
 | false => rw [hok] at h; cases h
 | true =>
  rw [hok] at h
  simp only [cond_true, xCode] at h
  simp only [Bool.and_eq_true] at hok
  unfold xDraw xNormal at h
  cases hfl : Nat.ble fl σ.nx with
  | false => rw [hfl] at h; cases h
  | true =>
   rw [hfl] at h
   have hfl := Nat.le_of_ble_eq_true hfl
   simp only [cond_true] at h
   split at h
   ·rename_i h1
    cases h
    obtain ⟨s, hs⟩ : ∃ s, s = zoneAt all masks all 0 0 := ⟨_, rfl⟩
    obtain ⟨ws, hws⟩ : ∃ ws, ws = mayAll all masks s all 0 := ⟨_, rfl⟩
    rw [← hs, ← hws] at h1
    obtain ⟨N, hN⟩ : ∃ N : Nat → List Nat, N = fun i => bif Nat.blt i ops.size then withOwn i (ws.getD i false) (bitsOf (masks.getD i 0) all ws i i) else [] := ⟨_, rfl⟩
    have opAt : ∀ i o, ops[i]? = some o → all[i]? = some (lowOper P ops o) ∧ (withChk all masks s (withAnc all masks ws all 0) 0)[i]? = some (withChk1 all (masks.getD i 0) i s { lowOper P ops o with anc := N i }) := by
     intro i o ho
     have h1 : all[i]? = some (lowOper P ops o) := by rw [hall]; simp [ho]
     refine ⟨h1, ?_⟩
     have hlt : i < ops.size := (Array.getElem?_eq_some_iff.1 ho).1
     have hb : Nat.blt i ops.size = true := by rw [Nat.blt_eq]; exact hlt
     rw [chk_at, anc_at, h1, hN, Nat.zero_add]
     simp [hb]
    have hlen : (withChk all masks s (withAnc all masks ws all 0) 0).length = ops.size := by
     have c : ∀ (os : List zb) (k : Nat), (withChk all masks s os k).length = os.length := by
      intro os
      induction os with
      | nil => intro k; rfl
      | cons o os ih => intro k; simp [withChk, ih]
     rw [c]
     have : ∀ (os : List zb) (k : Nat), (withAnc all masks ws os k).length = os.length := by
      intro os
      induction os with
      | nil => intro k; rfl
      | cons o os ih => intro k; simp [withAnc, ih]
     rw [this, hall]; simp
    have hNanc : ∀ (k : Nat) (o : zb), (withChk all masks s (withAnc all masks ws all 0) 0)[k]? = some o → o.anc = N (0 + k) := by
     intro k o ho
     have hlt : k < ops.size := by
      rcases Nat.lt_or_ge k ops.size with h | h
      ·exact h
      ·rw [List.getElem?_eq_none (by omega)] at ho; cases ho
     have h2 := (opAt k ops[k] (by simp [hlt])).2
     rw [ho] at h2
     cases h2
     rw [Nat.zero_add, yy.2]
    obtain ⟨v, A, S, S', z, e1, e2, e3, e4, t⟩ := yH (N := N) _ 0 [] a a' σ.nx σ' hNanc h1
    rw [hlen, Nat.zero_add] at e3 e4
    have inN : ∀ i k, k ∈ N i → i < ops.size ∧ ((k = i ∧ ws.getD i false = true) ∨ ((masks.getD i 0).testBit k = true ∧ k < i ∧ ∃ o, all[k]? = some o ∧ (o.op.makes = true ∨ ws.getD k false = true))) := by
     intro i k hk
     rw [hN] at hk
     dsimp only at hk
     revert hk
     cases hc : Nat.blt i ops.size with
     | false => intro hk; cases hk
     | true =>
      intro hk
      refine ⟨yq hc, (own_mem hk).imp (fun h => h) fun h => vC h⟩
    have mayW : ∀ i, ws.getD i false = true → ∃ o, all[i]? = some o ∧ i < s ∧ o.op.writes = true ∧ ancOk all masks i i = true := by
     intro i hi
     rw [hws] at hi
     obtain ⟨o, h1, h2, h3, h4⟩ := may_at hi
     rw [Nat.zero_add] at h2 h4
     exact ⟨o, h1, h2, h3, h4⟩
    have flW : ∀ i, Fl N i → ws.getD i false = true := by
     intro i hi
     have hm : i ∈ N i := by unfold Fl at hi; simpa using hi
     rcases (inN i i hm).2 with h | h
     ·exact h.2
     ·omega
    have zN : z ≤ ops.size := by have := t.hi; omega
    have nxt : ∀ i, i < ops.size → (S i).nx ≤ (S (i + 1)).nx ∧ (S (i + 1)).nx = (S' i).nx := by
     intro i hi
     have ho : ops[i]? = some ops[i] := by simp [hi]
     obtain ⟨_, ho2⟩ := opAt i _ ho
     by_cases hz : i < z
     ·have := t.pure i _ ho2 (by omega)
      rw [Nat.zero_add] at this
      omega
     ·have := t.zone i _ ho2 (by omega)
      rw [Nat.zero_add] at this
      have h3 := z9 hle this.1
      rw [this.2]
      exact ⟨h3, rfl⟩
    have mono : ∀ i, i ≤ ops.size → σ.nx ≤ (S i).nx := by
     intro i
     induction i with
     | zero => intro _; rw [e2]; exact Nat.le_refl _
     | succ i ih => intro hi; exact Nat.le_trans (ih (by omega)) (nxt i (by omega)).1
    have zs : ∀ i o, ops[i]? = some o → z ≤ i → zoneAt all masks all 0 0 ≤ i := by
     intro i o ho hz
     have hlt : i < ops.size := (Array.getElem?_eq_some_iff.1 ho).1
     have := t.side i (by omega)
     omega
    have hanc' : ∀ i o, ops[i]? = some o → ∀ j, (masks.getD i 0).testBit j = true → ∃ e ∈ o.after, Region.binds .any e = true ∧ (j = e.on ∨ (masks.getD e.on 0).testBit j = true) := by
     intro i o ho j hj
     rw [hmasks] at hj ⊢
     obtain ⟨e, h1, h2, h3⟩ := uI (os := ops.toList) (i := i) (o := o) (by simpa using ho) hj
     exact ⟨e, by simpa using h1, h2, h3⟩
    have d : DF P lp ex ops fl z σ v A S S' (fun i => masks.getD i 0) N := by
     refine ⟨zN, hfl, hd, e2, fun i o ho e he hb => ?_, hanc', fun i o ho j hj => ?_, fun i o ho j hj => ?_, fun i o ho hf k hk hne j x hx htx hjk => ?_, fun i o ho hf => ?_, fun i o j x ho hx hj => ?_, fun i o j x ho hx hj hz => ?_, fun i o ho => ?_, fun i o ho hz => ?_, nxt, fun i hi hz b x hx => ?_, fun i o ho hz => ?_, fun b x hx => ?_, fun b hb => ?_⟩
     ·have := vz (k := 0) hok.2 (i := i) (o := o) (by simpa using ho) e (by simpa using he) hb
      omega
     ·rw [hmasks] at hj
      exact mask_lt hok.2 i (o := o) (by simpa using ho) hj
     ·rcases (inN i j hj).2 with h | h
      ·exact .inl h.1
      ·exact .inr h.1
     ·obtain ⟨o2, h1, h2, h3, h4⟩ := mayW i (flW i hf)
      rcases (inN i k hk).2 with h | ⟨h5, h6, o3, h7, h8⟩
      ·exact absurd h.1 hne
      ·have h9 : o3.op.makes = true ∨ o3.op.writes = true := by
        rcases h8 with h8 | h8
        ·exact .inl h8
        ·obtain ⟨o4, g1, _, g3, _⟩ := mayW k h8
         rw [h7] at g1; cases g1
         exact .inr g3
       have h10 := anc_ok h4 k o3 h6 h5 h7 h9
       have hjl : j < all.length := by
        rcases Nat.lt_or_ge j all.length with h | h
        ·exact h
        ·have := (opAt j x hx).1
         rw [List.getElem?_eq_none h] at this; cases this
       exact uK h10 j _ hjl (opAt j x hx).1 htx hjk
     ·obtain ⟨o2, h1, h2, h3, h4⟩ := mayW i (flW i hf)
      rw [(opAt i o ho).1] at h1
      cases h1
      exact h3
     ·have := jq hok.1 i _ (opAt i o ho).1 j _ (by omega) (opAt j x hx).1
      rwa [Nat.zero_add] at this
     ·have hlt : i < ops.size := (Array.getElem?_eq_some_iff.1 ho).1
      have hzs := zs i o ho hz
      have hzo := vV (all := all) (masks := masks) (os := all) (k := 0) (s := 0) (Nat.le_refl _) i _ (opAt i o ho).1 (by omega)
      rw [Nat.zero_add] at hzo
      rcases ud hzo j _ hj (opAt j x hx).1 with h | h | h | h | ⟨g1, g2, p, g3⟩
      ·exact .inl h
      ·exact .inr (.inl h)
      ·exact .inr (.inr (.inl h))
      ·exact .inr (.inr (.inr (.inl h)))
      ·cases hmj : (masks.getD i 0).testBit j with
       | true => exact .inl rfl
       | false =>
        rw [← hs] at g2 hzs
        have hjl : j < ops.size := (Array.getElem?_eq_some_iff.1 hx).1
        have hzj : z ≤ j := by
         rcases Nat.lt_or_ge j z with c | c
         ·have := (t.side j (by omega)).1 (by omega)
          omega
         ·exact c
        obtain ⟨an, p1, p2, p3⟩ := pair_of g3
        rw [(opAt j x hx).1] at p1
        have hx1 : lowOper P ops x = ⟨some p.2.2.2, .load p.1 p.2.1 p.2.2.1, none, an⟩ := Option.some.inj p1
        have st := (t.zone i _ (opAt i o ho).2 (by omega)).1
        rw [Nat.zero_add] at st
        have hck := (vB st).2 hzs g1 p (ur g2 hmj g3 hj)
        have stj := (t.zone j _ (opAt j x hx).2 (by omega)).1
        rw [Nat.zero_add] at stj
        have stj := (vB stj).1
        -- what it needs and makes stands as it was
        have actj : A (j + 1) = (A j).put (some p.2.2.2) (v j) := by
         have := t.act j _ (opAt j x hx).2
         rw [Nat.zero_add] at this
         rw [this, yy.1]
         show (A j).put (lowOper P ops x).dst (v j) = _
         rw [hx1]
        have keep : ∀ d, j + 1 + d ≤ i → (A (j + 1 + d)).nt = (A (j + 1)).nt ∧ ∀ t' ∈ p.2.2.2 :: p.2.2.1.tmps, (A (j + 1 + d)).tmp t' = (A (j + 1)).tmp t' := by
         intro d
         induction d with
         | zero => intro _; exact ⟨rfl, fun _ _ => rfl⟩
         | succ d ih =>
          intro hd
          obtain ⟨i1, i2⟩ := ih (by omega)
          have hml : j + 1 + d < ops.size := by omega
          have hmo : ops[j + 1 + d]? = some ops[j + 1 + d] := by simp [hml]
          have hact := t.act (j + 1 + d) _ (opAt _ _ hmo).2
          rw [Nat.zero_add, yy.1] at hact
          refine ⟨by rw [show j + 1 + (d + 1) = j + 1 + d + 1 by omega, hact, yW, i1], fun t' ht' => ?_⟩
          rw [show j + 1 + (d + 1) = j + 1 + d + 1 by omega, hact, zt, if_neg, i2 t' ht']
          rintro ⟨e, _⟩
          exact jm p3 (j + 1 + d) _ t' (by omega) (by omega) (opAt _ _ hmo).1 e ht'
        obtain ⟨k1, k2⟩ := keep (i - (j + 1)) (by omega)
        rw [show j + 1 + (i - (j + 1)) = i by omega] at k1 k2
        refine .inr (.inr (.inr (.inr ⟨hzj, by rw [hx1]; rfl, ?_⟩)))
        rw [hx1]
        have evs : (A i).ev p.2.2.1 = (A j).ev p.2.2.1 := zd fun t' ht' => by
         rw [k2 t' (List.mem_cons_of_mem _ ht'), actj, zt, if_neg]
         rintro ⟨e, _⟩
         cases e
         exact p2 ht'
        unfold chk1 at hck
        split at hck
        ·rename_i u σ2 hu
         simp only [Bool.and_eq_true, Nat.blt_eq] at hck
         have hu2 : u = v j := by
          rw [hvEq_eq hck.2, k2 _ (List.mem_cons_self ..), actj, zt, if_pos]
          refine ⟨rfl, ?_⟩
          have := hck.1
          rw [k1, actj, yW] at this
          exact this
         have hs2 : σ2 = S' i := um (lp := lp) (ex := ex) (fl := fl) (l := .load p.1 p.2.1 p.2.2.1) rfl hu
         subst hu2
         subst hs2
         show oLoad p.1 p.2.1 p.2.2.1 (A j) (S' i) = _
         have : oLoad p.1 p.2.1 p.2.2.1 (A j) (S' i) = oLoad p.1 p.2.1 p.2.2.1 (A i) (S' i) := by simp only [oLoad, evs]
         rw [this]; exact hu
        ·cases hck
     ·have := t.act i _ (opAt i o ho).2
      rw [Nat.zero_add] at this
      rw [this, yy.1]
      show (A i).put (lowOper P ops o).dst (v i) = _
      rw [yN]
     ·have := (t.pure i _ (opAt i o ho).2 (by omega)).1
      have hlt : i < ops.size := (Array.getElem?_eq_some_iff.1 ho).1
      rw [Nat.zero_add, chk1_low ((t.side i (by omega)).1 (by omega) |> fun h => by omega)] at this
      have hmx : Nat.max fl (S i).nx = (S i).nx := by
       have := mono i (by omega)
       exact Nat.max_eq_right (by omega)
      have hmy : Nat.max fl σ.nx = σ.nx := Nat.max_eq_right (by omega)
      rw [hmx, hmy] at this
      exact this
     ·have := t.from_ i (by omega) (by omega) b x (by rw [Nat.zero_add]; exact hx)
      rw [Nat.zero_add] at this
      rcases this with h | ⟨j, l, h, _⟩ | ⟨j, _, h2, h3, h4, h5, h6⟩
      ·exact .inl h
      ·cases h
      ·exact .inr ⟨j, h2, h3, h4, h5, h6⟩
     ·have := t.zone i _ (opAt i o ho).2 (by omega)
      rw [Nat.zero_add] at this
      exact ⟨(vB this.1).1, this.2⟩
     ·rcases t.all b x hx with h | ⟨j, l, h, _⟩ | ⟨j, _, h2, h3⟩
      ·exact .inl h
      ·cases h
      ·exact .inr ⟨j, h2, h3⟩
     ·exact t.other b (fun j l h => by cases h) (fun j _ h2 => hb j h2)
    intro base ρ A0 W R hin ha hrd
    have key : (Code.region id ops true).wpIn (FR R) 0 P (fun E A' W' => HFS fl σ σ' ∧ PQ P base fl σ σ' ρ W .normal a' E A' W') A0 W := by
     refine wpIn_region_any hm ?_
     refine vU hlp hle hex d (base := base) (ρ0 := ρ) (W0 := W) hin.low ?_ ops.size _ A0 _ ρ σ.h.get a (by simp) ?_ ?_
     ·intro A1 W1 ρ1 h1 h2 h3
      rw [e4] at h1 h2
      rw [e3] at h3
      exact ⟨h1, ρ1, h2, rfl, h3⟩
     ·refine uD (fun i => ?_) _
      simp only [Array.getD_eq_getD_getElem?, Array.getElem?_replicate]
      split <;> rfl
     ·have off : ∀ i, (Array.replicate ops.size false).getD i false = false := by
       intro i
       simp only [Array.getD_eq_getD_getElem?, Array.getElem?_replicate]
       split <;> rfl
      have none : ∀ k, actL ops v (fun i => (Array.replicate ops.size false).getD i false) (A 0) k = A 0 := by
       intro k
       induction k with
       | zero => rfl
       | succ k ih => unfold actL; rw [off k, cond_false, ih]
      have hsim : Sim P base σ.h.get ρ { heap := W.heap, tape := W.tape, drawn := W.drawn + 1, os := W.os, output := W.output } :=
       ⟨fun b x hx => (hin.sim.ok b x hx).keep (Rho.le_refl ρ) fun r _ => rfl, hin.sim.inj⟩
      refine ⟨ha, by rw [e1], by rw [e1], fun t => by rw [none, e1], fun i hi _ b h1 h2 => ?_, ?_, fun k hk => ?_, fun i _ hL => ?_, .inl ⟨fun b x hx => hx, fun j _ hL => ?_, fun i o _ _ _ => off i⟩⟩
      ·refine hin.fresh b ?_ ?_
       ·have := mono i (by omega); omega
       ·have h3 := (nxt i hi).2
        have h4 : (S (i + 1)).nx ≤ (S ops.size).nx := d.mono hi (Nat.le_refl _)
        rw [e4] at h4
        omega
      ·exact ⟨fun _ _ h => h, fun _ _ => rfl, hsim, rfl, rfl, rfl, fun _ => rfl, Nat.le_refl _, fun _ _ _ => rfl, fun _ h => .inr h⟩
      ·rw [off k] at hk; cases hk
      ·rw [off i] at hL; cases hL
      ·rw [off j] at hL; cases hL
    obtain ⟨_, _, _, hf, _⟩ := yT key
    exact ⟨hf, wpIn_mono key fun E A' W' h => h.2⟩
   ·cases h
theorem jf (hm : P.follows .mixedOrders = true) (hlp : LpOk P lp) : ∀ n, (∀ j, j < n → ExSound P (exec lp j) ∧ ExLe (exec lp j)) → ExSound P (exec lp n) ∧ ExLe (exec lp n)
 | 0, _ => ⟨(fun c fl rd a σ e a' σ' h => by cases h), (fun fl rd lc a σ e a' σ' h => by cases h)⟩
 | n + 1, hall => by
  obtain ⟨hex, hle⟩ := hall n (by omega)
  refine ⟨?_, exec_le n (fun fl s ops a a' σ σ' _ h => draw_le hle fl s ops a a' σ σ' h) hle⟩
  intro c fl rd a σ e a' σ' h hd
  have h0 : exec lp (n + 1) fl rd (lowC P c) a σ = some (e, a', σ') := h
  simp only [exec] at h
  have nothing : ∀ base ρ A W R, In P base σ σ ρ W → AR ρ a A → RdOk ρ rd R → ∀ E : HExit, PQ P base fl σ σ ρ W E a (exitOf E) A W := fun base ρ A W R hin ha _ E => ⟨ρ, Post.refl hin.sim, rfl, ha⟩
  cases c with
  | skip =>
   cases h
   exact fun base ρ A W R hin ha hrd => ⟨HF.refl _ _ _, wpIn_skip (nothing base ρ A W R hin ha hrd .normal)⟩
  | region id ops draw =>
   cases draw with
   | false => exact vY hlp hle hex h hd
   | true => exact jc hm hlp hle hex id ops fl rd a σ e a' σ' h hd
  | seq x y => exact jw hle hex h hd
  | cond c x y =>
   simp only [lowC] at h
   split at h
   ·rename_i lc hc
    exact je hex hc h hd
   ·cases h
  | block id x => exact uG hex h hd
  | loop x =>
   intro base ρ A W R hin ha hrd
   obtain ⟨f1, h2⟩ := vu hlp (c := x) (n + 1) hall h0 hd base ρ A W R hin ha hrd
   exact ⟨f1, wpIn_loop_rounds (n + 1) (h2 _ fun _ _ _ h => h)⟩
  | rangeFunc g ps assign body =>
   simp only [lowC] at h
   split at h
   ·rename_i lg hg
    exact ul hlp hle hex hg h hd
   ·cases h
  | exit id =>
   cases h
   exact fun base ρ A W R hin ha hrd => ⟨HF.refl _ _ _, wpIn_exit (nothing base ρ A W R hin ha hrd (.exit id))⟩
  | scope x => exact ug hex h hd
  | label l =>
   cases h
   exact fun base ρ A W R hin ha hrd => ⟨HF.refl _ _ _, wpIn_label (nothing base ρ A W R hin ha hrd .normal)⟩
  | ret =>
   cases h
   exact fun base ρ A W R hin ha hrd => ⟨HF.refl _ _ _, wpIn_ret (nothing base ρ A W R hin ha hrd .ret)⟩
  | goto l => cases h
  | refuse s => cases h
theorem ye (hm : P.follows .mixedOrders = true) (hlp : LpOk P lp) (n : Nat) : ExSound P (exec lp n) ∧ ExLe (exec lp n) := by
 induction n using Nat.strongRecOn with
 | ind n ih => exact jf hm hlp n ih
theorem jx (hm : P.follows .mixedOrders = true) {lp : Nat → Option ze} (hlp : LpOk P lp) {n fl f : Nat} {args : List HV} {σ σ' : HS} {v : HV} (h : callF lp (exec lp n) fl f args σ = some (v, σ')) (hd : Dom σ) :
  ∀ (base : Nat) (ρ : Rho) (Args : Array Value) (W : World), In P base σ σ' ρ W → LR ρ args Args.toList →
   CallsIn (FR none) 0 P f Args W (fun E W' => ∃ V ρ', E = .returned V ∧ VR ρ' v V ∧ PostS P base fl σ σ' ρ ρ' W W') :=
 fun base ρ Args W hin hargs => (zT hlp (ye hm hlp n).2 (ye hm hlp n).1 h hd base ρ Args W hin hargs).2.2
end Go.Hx

namespace Go.Hx
variable {lp : Nat → Option ze} {ex ex' : Ex}
def ExMon (ex ex' : Ex) : Prop := ∀ fl rd c a σ r, ex fl rd c a σ = some r → ex' fl rd c a σ = some r
theorem vT (h : ExMon ex ex') {fl : Nat} {lf : ze} {args : List HV} {σ : HS} {r : HV × HS} (hr : callB ex fl lf args σ = some r) : callB ex' fl lf args σ = some r := by
 unfold callB at hr ⊢
 cases he : ex fl none lf.body ⟨Nat.max lf.nt args.length, putAll .e 0 args, []⟩ σ with
 | none => rw [he] at hr; cases hr
 | some x => rw [he] at hr; rw [h _ _ _ _ _ _ he]; exact hr
theorem y3 (h : ExMon ex ex') {fl f : Nat} {args : List HV} {σ : HS} {r : HV × HS} (hr : callF lp ex fl f args σ = some r) : callF lp ex' fl f args σ = some r := by
 unfold callF at hr ⊢
 cases hl : lp f with
 | none => rw [hl] at hr; cases hr
 | some lf =>
  rw [hl] at hr
  dsimp only at hr ⊢
  cases hsp : lf.spec with
  | some g => rw [hsp] at hr; exact hr
  | none =>
  rw [hsp] at hr
  dsimp only at hr ⊢
  cases hi : lf.imp with
  | true => rw [hi] at hr; exact vT h hr
  | false =>
   rw [hi] at hr
   simp only [cond_false] at hr ⊢
   cases he : callB ex σ.nx lf args σ with
   | none => rw [he] at hr; cases hr
   | some x => rw [he] at hr; rw [vT h he]; exact hr
theorem uV (h : ExMon ex ex') {fl l : Nat} {args : List HV} {σ : HS} {r : HV × HS} (hr : roundH ex fl l args σ = some r) : roundH ex' fl l args σ = some r := by
 unfold roundH at hr ⊢
 cases hl : σ.h.get l with
 | none => rw [hl] at hr; cases hr
 | some b =>
  rw [hl] at hr
  cases b with
  | loop q =>
   dsimp only at hr ⊢
   cases hz : zipPut q.nt q.tmps q.params args with
   | none => rw [hz] at hr; cases hr
   | some tmps =>
    rw [hz] at hr
    dsimp only at hr ⊢
    cases he : ex fl (some l) q.assign ⟨q.nt, tmps, []⟩ σ with
    | none => rw [he] at hr; cases hr
    | some x =>
     rw [he] at hr
     rw [h _ _ _ _ _ _ he]
     obtain ⟨e, a, σ1⟩ := x
     cases e with
     | normal =>
      dsimp only at hr ⊢
      cases hb : beginRoundH fl l σ1 with
      | none => rw [hb] at hr; cases hr
      | some σ2 =>
       rw [hb] at hr
       dsimp only at hr ⊢
       cases he2 : ex fl (some l) q.body a σ2 with
       | none => rw [he2] at hr; cases hr
       | some y => rw [he2] at hr; rw [h _ _ _ _ _ _ he2]; exact hr
     | exit id => exact hr
     | ret => exact hr
  | cells cs k => cases hr
  | map es => cases hr
  | marks => cases hr
theorem vS (h : ExMon ex ex') {fl : Nat} {f : HV} {args : List HV} {σ : HS} {r : HV × HS} (hr : callH lp ex fl f args σ = some r) : callH lp ex' fl f args σ = some r := by
 unfold callH at hr ⊢
 split at hr
 ·exact y3 h hr
 ·exact uV h hr
 ·unfold callV at hr ⊢
  split at hr
  ·exact y3 h hr
  ·cases hr
 ·cases hr
theorem op_mon (h : ExMon ex ex') {fl : Nat} {o : LOp} {a : HAct} {σ : HS} {r : HV × HS} (hr : opH lp ex fl o a σ = some r) : opH lp ex' fl o a σ = some r := by
 cases o <;> first | exact hr | skip
 case call f args => exact vS h hr
 case callC f args cs =>
  simp only [opH] at hr ⊢
  unfold oCallC at hr ⊢
  cases e : callH lp ex fl (a.ev f) (args.map a.ev) σ with
  | none => rw [e] at hr; cases hr
  | some y => rw [e] at hr; rw [vS h e]; exact hr
theorem zL (h : ExMon ex ex') {fl : Nat} {o : zb} {a : HAct} {σ : HS} {r : HAct × HS} (hr : stepOp lp ex fl o a σ = some r) : stepOp lp ex' fl o a σ = some r := by
 unfold stepOp at hr ⊢
 cases hw : wantedH o.g a with
 | false => rw [hw] at hr; exact hr
 | true =>
  rw [hw] at hr
  simp only [cond_true] at hr ⊢
  cases ho : opH lp ex fl o.op a σ with
  | none => rw [ho] at hr; cases hr
  | some x => rw [ho] at hr; rw [op_mon h ho]; exact hr
theorem ya (h : ExMon ex ex') {fl : Nat} : ∀ {ops : List zb} {a : HAct} {σ : HS} {r : HAct × HS}, runOps lp ex fl ops a σ = some r → runOps lp ex' fl ops a σ = some r
 | [], _, _, _, hr => hr
 | o :: os, a, σ, r, hr => by
  unfold runOps at hr ⊢
  cases ho : stepOp lp ex fl o a σ with
  | none => rw [ho] at hr; cases hr
  | some x => rw [ho] at hr; rw [zL h ho]; exact ya h hr
theorem zR (h : ExMon ex ex') {fl s n0 : Nat} {h0 : Tr HBlk} : ∀ {ops : List zb} {i : Nat} {done : List (Nat × List (Nat × HBlk))} {a : HAct} {nx : Nat} {r : HAct × HS}, drawOps lp ex fl s n0 h0 ops i done a nx = some r → drawOps lp ex' fl s n0 h0 ops i done a nx = some r
 | [], _, _, _, _, _, hr => hr
 | o :: os, i, done, a, nx, r, hr => by
  unfold drawOps at hr ⊢
  cases hc : Nat.blt i s with
  | false => rw [hc] at hr; exact ya h hr
  | true =>
   rw [hc] at hr
   simp only [cond_true] at hr ⊢
   cases hw : o.anc.contains i with
   | true =>
    rw [hw] at hr
    simp only [cond_true] at hr ⊢
    cases ho : stepOp lp ex (Nat.max fl n0) o a ⟨merge h0 (some o.anc) done, nx⟩ with
    | none => rw [ho] at hr; cases hr
    | some x =>
     obtain ⟨a1, σ1⟩ := x
     rw [ho] at hr
     rw [zL h ho]
     dsimp only at hr ⊢
     cases hb : Nat.ble nx σ1.nx with
     | false => rw [hb] at hr; cases hr
     | true => rw [hb] at hr; exact zR h hr
   | false =>
    rw [hw] at hr
    simp only [cond_false] at hr ⊢
    cases ho : stepOp lp ex (Nat.max fl nx) o a ⟨merge h0 (some o.anc) done, nx⟩ with
    | none => rw [ho] at hr; cases hr
    | some x =>
     obtain ⟨a1, σ1⟩ := x
     rw [ho] at hr
     rw [zL h ho]
     dsimp only at hr ⊢
     cases hb : Nat.ble nx σ1.nx with
     | false => rw [hb] at hr; cases hr
     | true => rw [hb] at hr; exact zR h hr
theorem vt {x x' : Option (HAct × HS)} (h : ∀ r, x = some r → x' = some r) {r : HExit × HAct × HS} (hr : xNormal x = some r) : xNormal x' = some r := by
 cases hx : x with
 | none => rw [hx] at hr; cases hr
 | some y => rw [hx] at hr; rw [h y hx]; exact hr
theorem jv (h : ExMon ex ex') : ExMon (xCode lp ex) (xCode lp ex') := by
 intro fl rd c a σ r hr
 have seq : ∀ x y, xSeq ex fl rd x y a σ = some r → xSeq ex' fl rd x y a σ = some r := by
  intro x y hr
  unfold xSeq at hr ⊢
  cases hx : ex fl rd x a σ with
  | none => rw [hx] at hr; cases hr
  | some q =>
   rw [hx] at hr
   rw [h _ _ _ _ _ _ hx]
   obtain ⟨e, a1, σ1⟩ := q
   cases e with
   | normal => exact h _ _ _ _ _ _ hr
   | exit id => exact hr
   | ret => exact hr
 cases c with
 | skip => exact hr
 | seq x y => exact seq x y hr
 | cond c x y =>
  simp only [xCode] at hr ⊢
  unfold xCond at hr ⊢
  split at hr
  ·rename_i b _
   cases b <;> exact h _ _ _ _ _ _ hr
  ·cases hr
 | block id x =>
  simp only [xCode] at hr ⊢
  unfold xBlock at hr ⊢
  cases hx : ex fl rd x a σ with
  | none => rw [hx] at hr; cases hr
  | some q => rw [hx] at hr; rw [h _ _ _ _ _ _ hx]; exact hr
 | loop x => exact seq x (.loop x) hr
 | scope x => exact h _ _ _ _ _ _ hr
 | exit id => exact hr
 | ret => exact hr
 | reg ops => exact vt (fun _ => ya h) hr
 | draw s ops =>
  simp only [xCode] at hr ⊢
  unfold xDraw at hr ⊢
  cases hb : Nat.ble fl σ.nx with
  | false => rw [hb] at hr; cases hr
  | true => rw [hb] at hr; exact vt (fun _ => zR h) hr
 | rangeFunc f ps assign body =>
  simp only [xCode] at hr ⊢
  unfold xRange at hr ⊢
  split at hr
  ·split at hr
   ·rename_i hc; rw [y3 h hc]; exact hr
   ·cases hr
  ·cases hr
 | bad => exact hr
theorem jI (n : Nat) : ExMon (exec lp n) (exec lp (n + 1)) := by
 induction n with
 | zero => intro fl rd c a σ r hr; cases hr
 | succ n ih => exact fun fl rd c a σ r hr => jv ih fl rd c a σ r hr
theorem zw {m n : Nat} (h : m ≤ n) : ExMon (exec lp m) (exec lp n) := by
 induction n with
 | zero => rw [show m = 0 by omega]; exact fun _ _ _ _ _ _ h => h
 | succ n ih =>
  by_cases e : m = n + 1
  ·rw [e]; exact fun _ _ _ _ _ _ h => h
  ·exact fun fl rd c a σ r hr => jI n _ _ _ _ _ _ (ih (by omega) _ _ _ _ _ _ hr)
def W (lp : Nat → Option ze) (fl : Nat) (rd : Option Nat) (c : zk) (Q : HExit → HAct → HS → Prop) (a : HAct) (σ : HS) : Prop := ∃ n e a' σ', exec lp n fl rd c a σ = some (e, a', σ') ∧ Q e a' σ'
def C (lp : Nat → Option ze) (fl f : Nat) (args : List HV) (σ : HS) (Q : HV → HS → Prop) : Prop := ∃ n v σ', callF lp (exec lp n) fl f args σ = some (v, σ') ∧ Q v σ'
variable {fl : Nat} {rd : Option Nat} {Q : HExit → HAct → HS → Prop} {a : HAct} {σ : HS}
def R (lp : Nat → Option ze) (fl : Nat) (ops : List zb) (N : HAct → HS → Prop) (a : HAct) (σ : HS) : Prop := ∃ n a' σ', runOps lp (exec lp n) fl ops a σ = some (a', σ') ∧ N a' σ'
end Go.Hx

namespace Go.Hx
open Go.RowKit
variable {P : Program}
theorem fr_none : FR none = Fence.wide := rfl
theorem vI {base nx nx' : Nat} {g g' : Hp} {ρ ρ' : Rho} {W W' : World} (h : Post P base 0 nx nx' g g' ρ ρ' W W') (hro : ∀ b x, g b = some x → x.own = false) : Grown W W' := by
 have keep : ∀ k, k < W.heap.size → W'.heap[k]? = W.heap[k]? := fun k hk => h.same k hk fun ⟨b, x, r, h1, h2, _⟩ => by rw [hro b x h1] at h2; cases h2
 refine ⟨⟨h.os, h.output, fun i hi => ?_⟩, h.frz, h.size⟩
 rw [keep i hi]
 cases hw : W.heap[i]? with
 | none => rfl
 | some o => cases o <;> first | exact ⟨rfl, rfl, rfl, fun _ _ => rfl⟩ | exact .inr ⟨rfl, rfl⟩ | rfl
theorem calls_of {lp : Nat → Option ze} (hm : P.follows .mixedOrders = true) (hlp : LpOk P lp) {f : Nat} {args : List HV} {σ : HS} {K : HV → Prop} (h : C lp 0 f args σ fun v _ => K v) (hd : Dom σ) (hro : ∀ b x, σ.h.get b = some x → x.own = false)
  {ρ : Rho} {Args : Array Value} {W : World} (hs : Sim P W.heap.size σ.h.get ρ W) (hf : ∀ b, σ.nx ≤ b → ρ b = none) (ha : LR ρ args Args.toList) :
  Calls P f Args W fun e W' => (∃ v V ρ', K v ∧ e = .returned V ∧ VR ρ' v V) ∧ Grown W W' := by
 obtain ⟨n, v, σ', h1, h2⟩ := h
 have hin : In P W.heap.size σ σ' ρ W := ⟨Nat.le_refl _, hs, fun b hb _ => hf b hb⟩
 have := jx hm hlp h1 hd W.heap.size ρ Args W hin ha
 rw [fr_none] at this
 refine (callsIn_wide.1 this).mono ?_
 rintro e W' ⟨V, ρ', rfl, hv, hp⟩
 exact ⟨⟨v, V, ρ', h2, rfl, hv⟩, vI hp hro⟩
theorem calls_closed {lp : Nat → Option ze} (hm : P.follows .mixedOrders = true) (hlp : LpOk P lp) {f : Nat} (h : C lp 0 f [] ⟨.e, 0⟩ fun v _ => v = .bool true) (W : World) : Calls P f #[] W fun e W' => e = .returned (.bool true) ∧ Grown W W' := by
 have no : ∀ b x, (⟨.e, 0⟩ : HS).h.get b = some x → False := fun b x hx => by rw [show (⟨.e, 0⟩ : HS).h = .e from rfl, Tr.get_e] at hx; cases hx
 refine (calls_of hm hlp h (fun b x hx => (no b x hx).elim) (fun b x hx => (no b x hx).elim) (ρ := fun _ => none) (Args := #[]) ⟨(fun b x hx => (no b x hx).elim), (fun b b' x x' r r' hx => (no b x hx).elim)⟩ (fun _ _ => rfl) (LR.nil _)).mono ?_
 rintro e W' ⟨⟨v, V, ρ', rfl, rfl, hv⟩, hg⟩
 cases hv
 exact ⟨rfl, hg⟩
end Go.Hx

namespace Go.Hx
variable {P : Program}
def flat1 : HV → Bool
 | .bool _ | .int _ _ | .str _ | .ptr none | .slice none _ _ | .map none | .nilFunc | .nilIface | .func _ [] [] | .via _ _ _ => true
 | _ => false
def flat : HV → Bool
 | .agg cs => cs.all flat1
 | v => flat1 v
def flatV : HV → Bool
 | .tuple vs => vs.all flat
 | v => flat v
theorem VR.f1 {ρ ρ' : Rho} {v : HV} {V : Value} (hf : flat1 v = true) (h : VR ρ v V) : VR ρ' v V := by
 cases h with
 | bool b => exact .bool b
 | int k n => exact .int k n
 | str s => exact .str s
 | ptr0 => exact .ptr0
 | slice0 => exact .slice0
 | map0 => exact .map0
 | nilFunc => exact .nilFunc
 | nilIface => exact .nilIface
 | via t path f => exact .via t path f
 | func h1 h2 h3 h4 =>
  rename_i f first captured F C
  cases first with
  | cons _ _ => cases hf
  | nil =>
   cases captured with
   | cons _ _ => cases hf
   | nil => exact .func h1 h2 (fun i v u hv _ => by simp at hv) (fun i v u hv _ => by simp at hv)
 | ptr _ => cases hf
 | slice _ => cases hf
 | slice00 _ => cases hf
 | map _ => cases hf
 | yield _ => cases hf
 | agg _ _ => cases hf
 | tuple _ _ => cases hf
theorem VR.flat {ρ ρ' : Rho} {v : HV} {V : Value} (hf : Hx.flat v = true) (h : VR ρ v V) : VR ρ' v V := by
 cases v with
 | agg cs =>
  cases h with
  | agg hl h => exact .agg hl fun i v u hv hu => (h i v u hv hu).f1 (List.all_eq_true.1 hf v (List.mem_of_getElem? hv))
 | _ => exact h.f1 hf
theorem VR.flatV {ρ ρ' : Rho} {v : HV} {V : Value} (hf : Hx.flatV v = true) (h : VR ρ v V) : VR ρ' v V := by
 cases v with
 | tuple cs =>
  cases h with
  | tuple hl h => exact .tuple hl fun i v u hv hu => (h i v u hv hu).flat (List.all_eq_true.1 hf v (List.mem_of_getElem? hv))
 | _ => exact h.flat hf
theorem LR.flat {ρ ρ' : Rho} {vs : List HV} {V : List Value} (hf : vs.all Hx.flat = true) (h : LR ρ vs V) : LR ρ' vs V :=
 ⟨h.1, fun i v u hv hu => (h.2 i v u hv hu).flat (List.all_eq_true.1 hf v (List.mem_of_getElem? hv))⟩
theorem jy {base fl nx0 nx0' : Nat} {g0 g0' : Hp} {ρ0 ρ0' ρ : Rho} {σ : HS} {W W' : World} (p : Post P W.heap.size 0 nx0 nx0' g0 g0' ρ0 ρ0' W W') (hro : ∀ b x, g0 b = some x → x.own = false) (hs : Sim P base σ.h.get ρ W) : PostS P base fl σ σ ρ ρ W W' := by
 have keep : ∀ k, k < W.heap.size → W'.heap[k]? = W.heap[k]? := fun k hk => p.same k hk fun ⟨b, x, r, h1, h2, _⟩ => by rw [hro b x h1] at h2; cases h2
 exact ⟨fun _ _ h => h, fun _ _ => rfl, ⟨fun b x hx => by
   obtain ⟨r, hr, hlt, _⟩ := (hs.ok b x hx).has
   exact (hs.ok b x hx).keep (fun _ _ h => h) fun r' hr' => by rw [hr] at hr'; cases hr'; exact keep _ hlt, hs.inj⟩,
  p.os, p.tape, p.output, p.frz, p.size, fun k hk _ => keep k hk, fun k hk => .inr hk⟩
theorem uT (hm : P.follows .mixedOrders = true) {lp : Nat → Option ze} (hlp : LpOk P lp) {n fl f : Nat} {args : List HV} {σ σ' : HS} {v : HV} (h : callF lp (exec lp n) fl f args σ = some (v, σ')) (hd : Dom σ) :
  ∀ (base : Nat) (ρ : Rho) (Args : Array Value) (W : World), In P base σ σ' ρ W → LR ρ args Args.toList →
   HFS fl σ σ' ∧ (∃ fn, P.funcs[f]? = some fn ∧ fn.body.isSome = true ∧ (fn.name == "runtime.NumGoroutine") = false) ∧
   CallsIn (FR none) 0 P f Args W (fun E W' => ∃ V ρ', E = .returned V ∧ VR ρ' v V ∧ PostS P base fl σ σ' ρ ρ' W W') :=
 fun base ρ Args W hin hargs => zT hlp (ye hm hlp n).2 (ye hm hlp n).1 h hd base ρ Args W hin hargs
theorem uQ (hm : P.follows .mixedOrders = true) {lp : Nat → Option ze} (hlp : LpOk P lp) {f : Nat} {g : List HV → HS → Option (HV × HS)}
  (h : ∀ args σ v σ', g args σ = some (v, σ') → σ' = σ ∧ args.all flat = true ∧ flatV v = true ∧ C lp 0 f args ⟨.e, 0⟩ (fun v' _ => v' = v)) : SpecOk P f g := by
 intro args σ v σ' hg hd fl base ρ Args W hin hargs
 obtain ⟨rfl, hfa, hfv, n, v', σ1, h1, rfl⟩ := h _ _ _ _ hg
 have no : ∀ b x, (⟨.e, 0⟩ : HS).h.get b = some x → False := fun b x hx => by rw [show (⟨.e, 0⟩ : HS).h = .e from rfl, Tr.get_e] at hx; cases hx
 obtain ⟨_, hfn, hc⟩ := uT hm hlp h1 (fun b x hx => (no b x hx).elim) W.heap.size (fun _ => none) Args W
  ⟨Nat.le_refl _, ⟨(fun b x hx => (no b x hx).elim), (fun b b' x x' r r' hx => (no b x hx).elim)⟩, fun _ _ _ => rfl⟩ (hargs.flat hfa)
 refine ⟨HF.refl _ _ _, hfn, hc.mono ?_⟩
 rintro E W' ⟨V, ρ', rfl, hv, hp⟩
 exact ⟨V, ρ, rfl, hv.flatV hfv, jy hp (fun b x hx => (no b x hx).elim) hin.sim⟩
def withS (lp : Nat → Option ze) (f : Nat) (g : List HV → HS → Option (HV × HS)) : Nat → Option ze := fun i => bif Nat.beq i f then some ⟨0, .bad, [], false, some g, fun _ _ => none⟩ else lp i
theorem withS_ok {lp : Nat → Option ze} (hlp : LpOk P lp) {f : Nat} {g : List HV → HS → Option (HV × HS)} (hg : SpecOk P f g) : LpOk P (withS lp f g) := by
 intro i lf h
 unfold withS at h
 cases hb : Nat.beq i f with
 | true =>
  rw [hb] at h
  cases h
  have := Nat.eq_of_beq_eq_true hb
  subst this
  exact ⟨fun g' hg' => (by cases hg'; exact hg), fun h => (by cases h), fun _ _ _ h => (by cases h)⟩
 | false => rw [hb] at h; exact hlp i lf h
end Go.Hx

namespace Go.Hx
noncomputable section
abbrev Kt := Tr HV → List Nat → Tr HBlk → Nat → Option (HV × HS)
abbrev Kv := HV → Tr HBlk → Nat → Option (HV × HS)
abbrev Ko := Nat → Tr HV → Tr HBlk → Nat → Kv → Option (HV × HS)
abbrev Kc := Nat → Option Nat → Kt → (Nat → Kt) → Kt → Kt
abbrev Kf := Nat → List HV → Tr HBlk → Nat → Kv → Option (HV × HS)
def Pa.tmp (p : Pa) (a : Tr HV) : HV := Option.rec (motive := fun _ => HV) .undef (fun v => v) (Tr.getP p a)
inductive Bx (α : Type) where
  | mk (f : α)
def Bx.run {α : Type} (b : Bx α) : α := Bx.rec (motive := fun _ => α) (fun f => f) b
def Bx.then {α β : Type} (b : Bx α) (g : α → Bx β) : Bx β := Bx.rec (motive := fun _ => Bx β) g b
def Pa.then {β : Type} (p : Pa) (g : Pa → Bx β) : Bx β := Pa.rec (motive := fun _ => Bx β) (g .z) (fun q _ => g (.a q)) (fun q _ => g (.b q)) (fun q _ => g (.c q)) (fun q _ => g (.d q)) p
def evK (x : Lo) : Bx (Tr HV → HV) :=
  match x with
  | .t n => .mk (Pa.tmp (pa n))
  | .c v => .mk (fun _ => v)
def evL (x : Lo) (a : Tr HV) : HV := (evK x).run a
def slowK (lp : Nat → Option ze) (nt : Nat) (o : LOp) : Ko := fun fl a h nx k =>
  match opH lp (exec lp 0) fl o ⟨nt, a, []⟩ ⟨h, nx⟩ with
  | some (v, σ) => k v σ.h σ.nx
  | none => none
def viaK (lp : Nat → Option ze) (fn : Nat → Bx Kf) (t : Nat) (name : String) (g : Nat) (args : List HV) : Nat → Tr HBlk → Nat → Kv → Option (HV × HS) := fun fl h nx k =>
  match viaOf lp g t name, args with
  | some off, .ptr (some (b, o)) :: rest => (fn g).run fl (.ptr (some (b, Nat.add o off)) :: rest) h nx k
  | _, _ => none
def callK (lp : Nat → Option ze) (fn : Nat → Bx Kf) (ro : Nat → Nat → List HV → Tr HBlk → Nat → Kv → Option (HV × HS)) (f : Tr HV → HV) (xs : List Lo) : Ko := fun fl a h nx k =>
  match f a with
  | .func g first captured => (fn g).run fl (first ++ xs.map (fun x => evL x a) ++ captured) h nx k
  | .yield l => ro fl l (xs.map fun x => evL x a) h nx k
  | .via t name g => viaK lp fn t name g (xs.map fun x => evL x a) fl h nx k
  | _ => none
def binK (g : IntKind → Int → Int → Option HV) (x y : HV) (h : Tr HBlk) (nx : Nat) (k : Kv) : Option (HV × HS) :=
  match x, y with
  | .int k1 m, .int k2 n => bif sameK k1 k2 then (match g k1 m n with | some v => k v h nx | none => none) else none
  | _, _ => none
def addrK (off : Nat) (x : HV) (h : Tr HBlk) (nx : Nat) (k : Kv) : Option (HV × HS) :=
  match x with
  | .ptr (some (b, o)) => k (.ptr (some (b, Nat.add o off))) h nx
  | _ => none
def idxK (len size : Nat) (x i : HV) (h : Tr HBlk) (nx : Nat) (k : Kv) : Option (HV × HS) :=
  match x, i with
  | .ptr (some (b, o)), .int _ (.ofNat i) => bif Nat.blt i len then k (.ptr (some (b, Nat.add o (Nat.mul i size)))) h nx else none
  | _, _ => none
def nilK (x : HV) (h : Tr HBlk) (nx : Nat) (k : Kv) : Option (HV × HS) :=
  match x with
  | .ptr (some p) => k (.ptr (some p)) h nx
  | .func f first captured => k (.func f first captured) h nx
  | _ => none
def nthK (i : Nat) : List HV → Option HV :=
  Nat.rec (motive := fun _ => List HV → Option HV) (fun l => List.rec (motive := fun _ => Option HV) none (fun v _ _ => some v) l) (fun _ ih l => List.rec (motive := fun _ => Option HV) none (fun _ t _ => ih t) l) i
def setR (i : Nat) (v : HV) : List HV → List HV :=
  Nat.rec (motive := fun _ => List HV → List HV) (fun l => List.rec (motive := fun _ => List HV) [] (fun _ t _ => v :: t) l) (fun _ ih l => List.rec (motive := fun _ => List HV) [] (fun x t _ => x :: ih t) l) i
def loadK (x : HV) (h : Tr HBlk) (nx : Nat) (k : Kv) : Option (HV × HS) :=
  match x with
  | .ptr (some (b, o)) =>
    match h.get b with
    | some (.cells cs _) =>
      match nthK o cs with
      | some v => k v h nx
      | none => none
    | _ => none
  | _ => none
def wrOk : BK → Bool
  | .ro => false
  | _ => true
def storeK (fl : Nat) (x v : HV) (h : Tr HBlk) (nx : Nat) (k : Kv) : Option (HV × HS) :=
  match x with
  | .ptr (some (b, o)) =>
    match h.get b with
    | some (.cells cs bk) =>
      bif Nat.ble fl b && v.one && wrOk bk then
        match nthK o cs with
        | some _ => k .undef (h.set b (some (.cells (setR o v cs) bk))) nx
        | none => none
      else none
    | _ => none
  | _ => none
def compOp (lp : Nat → Option ze) (fn : Nat → Bx Kf) (ro : Nat → Nat → List HV → Tr HBlk → Nat → Kv → Option (HV × HS)) (nt : Nat) (o : LOp) : Bx Ko :=
  match o with
  | .move x => (evK x).then fun e => .mk fun _ a h nx k => k (e a) h nx
  | .bin op x y => (evK x).then fun e => (evK y).then fun f => .mk fun _ a h nx k => binK (bif isShift op then shiftH op else intFast op) (e a) (f a) h nx k
  | .fieldAddr off x => (evK x).then fun e => .mk fun _ a h nx k => addrK off (e a) h nx k
  | .indexAddrA len size x i => (evK x).then fun e => (evK i).then fun f => .mk fun _ a h nx k => idxK len size (e a) (f a) h nx k
  | .nilCheck x => (evK x).then fun e => .mk fun _ a h nx k => nilK (e a) h nx k
  | .load false 1 x => (evK x).then fun e => .mk fun _ a h nx k => loadK (e a) h nx k
  | .store 1 x v => (evK x).then fun e => (evK v).then fun f => .mk fun fl a h nx k => bif (f a).one then storeK fl (e a) (f a) h nx k else slowK lp nt (.store 1 x v) fl a h nx k
  | .call f xs => (evK f).then fun e => .mk (callK lp fn ro e xs)
  | .callC f xs cs => (evK f).then fun e => .mk fun fl a h nx k => callK lp fn ro e xs fl a h nx fun v h nx => bif chkH ⟨nt, a, []⟩ ⟨h, nx⟩ cs then k v h nx else none
  | o => .mk (slowK lp nt o)
def putK (nt : Nat) (dst : Option Nat) : Bx (Tr HV → HV → Tr HV) :=
  match dst with
  | none => .mk fun a _ => a
  | some d => bif Nat.blt d nt then (pa d).then fun p => .mk (fun a v => Tr.setP (some v) p a) else .mk fun a _ => a
def isB (want : Bool) : HV → Bool
  | .bool b => b == want
  | _ => false
def guardK (g : Option (Nat × Bool)) (o : Bx Ko) : Bx Ko :=
  match g with
  | none => o
  | some (t, want) => (evK (.t t)).then fun e => o.then fun o => .mk fun fl a h nx k =>
      bif isB want (e a) then o fl a h nx k else k .undef h nx
def compOps (op : LOp → Bx Ko) (nt : Nat) : List zb → Bx (Nat → Kt → Kt)
  | [] => .mk fun _ k => k
  | o :: os => (guardK o.g (op o.op)).then fun f => (putK nt o.dst).then fun p => (compOps op nt os).then fun r => .mk fun fl k a ds h nx => f fl a h nx fun v h nx => r fl k (p a v) ds h nx
def drawK (op : LOp → Bx Ko) (nt s : Nat) : List zb → Bx (Nat → Nat → Nat → Tr HBlk → List (Nat × List (Nat × HBlk)) → Kt → Tr HV → List Nat → Nat → Option (HV × HS))
  | [] => .mk fun _ _ _ h0 done k a ds nx => k a ds (merge h0 none done) nx
  | o :: os => (guardK o.g (op o.op)).then fun f => (putK nt o.dst).then fun p => (drawK op nt s os).then fun r => (compOps op nt (o :: os)).then fun q => .mk fun fl n0 i h0 done k a ds nx =>
      bif Nat.blt i s then
        bif o.anc.contains i then
          f n0 a (merge h0 (some o.anc) done) nx fun v h nx' => bif Nat.ble nx nx' then r fl n0 (Nat.succ i) h0 ((i, newFrom h n0 (Nat.sub nx' n0)) :: dropAll o.anc done) k (p a v) ds nx' else none
        else
          f nx a (merge h0 (some o.anc) done) nx fun v h nx' => bif Nat.ble nx nx' then r fl n0 (Nat.succ i) h0 (bif Nat.beq nx nx' then done else (i, newFrom h nx (Nat.sub nx' nx)) :: done) k (p a v) ds nx' else none
      else q fl k a ds (merge h0 none done) nx
def loopK (b : Option HBlk) (k : LState → HExit → Nat → Tr HV → List Nat → zk → zk → Nat → Option (HV × HS)) : Option (HV × HS) :=
  match b with
  | some (.loop ⟨st, pe, nt, tm, ps, asg, bo, mk⟩) => k st pe nt tm ps asg bo mk
  | _ => none
def marksK (rd : Option Nat) (h : Tr HBlk) (nx : Nat) (k : Nat → List Nat → Tr HBlk → Nat → Option (HV × HS)) : Option (HV × HS) :=
  match rd with
  | none => k nx [nx] (h.set nx (some .marks)) (Nat.succ nx)
  | some l => loopK (h.get l) fun _ _ _ _ _ _ _ mk => k mk [] h nx
def notBusy : LState → Bool
  | .busy => false
  | _ => true
def isReady : LState → Bool
  | .ready => true
  | _ => false
def jumpK (e : HExit) (kn : Kt) (kx : Nat → Kt) (kr : Kt) : Kt :=
  match e with
  | .normal => kn
  | .exit i => kx i
  | .ret => kr
def rangeK (fn : Nat → Bx Kf) (nt : Nat) (e : Tr HV → HV) (ps : List Nat) (assign body : zk) : Kc := fun fl rd kn kx kr a ds h nx =>
  match e a with
  | .func g first captured =>
    marksK rd h nx fun mk ms h1 n1 =>
      (fn g).run fl (first ++ [.yield n1] ++ captured) (h1.set n1 (some (.loop ⟨.ready, .normal, nt, a, ps, assign, body, mk⟩))) (Nat.succ n1) fun _ h3 n3 =>
        loopK (h3.get n1) fun st pe nt' tm ps' asg bo mk' =>
          bif notBusy st && Nat.ble fl n1 then jumpK pe kn kx kr a (ms ++ ds) (h3.set n1 (some (.loop ⟨.exhausted, pe, nt', tm, ps', asg, bo, mk'⟩))) n3 else none
  | _ => none
def endK (l : Nat) (e : HExit) (k : Kv) (h : Tr HBlk) (nx : Nat) : Option (HV × HS) :=
  loopK (h.get l) fun _ _ nt tm ps asg bo mk =>
    match e with
    | .normal => k (.bool true) (h.set l (some (.loop ⟨.ready, .normal, nt, tm, ps, asg, bo, mk⟩))) nx
    | e => k (.bool false) (h.set l (some (.loop ⟨.done, e, nt, tm, ps, asg, bo, mk⟩))) nx
def roundK (co : Nat → zk → Bx Kc) : Nat → Nat → List HV → Tr HBlk → Nat → Kv → Option (HV × HS) := fun fl l args h nx k =>
  loopK (h.get l) fun _ _ nt tm ps asg bo _ =>
    match zipPut nt tm ps args with
    | some tm1 =>
      (co nt asg).run fl (some l)
        (fun a1 ds1 h1 n1 => loopK (h1.get l) fun st pe nt' tm' ps' asg' bo' mk' =>
          bif isReady st && Nat.ble fl l then
            (co nt bo).run fl (some l) (fun _ _ => endK l .normal k) (fun i _ _ => endK l (.exit i) k) (fun _ _ => endK l .ret k) a1 ds1 (h1.set l (some (.loop ⟨.busy, pe, nt', tm', ps', asg', bo', mk'⟩))) n1
          else none)
        (fun _ _ _ _ _ => none) (fun _ _ _ _ => none) tm1 [] h nx
    | none => none
def comp (op : LOp → Bx Ko) (fn : Nat → Bx Kf) (nt : Nat) : zk → Bx Kc
  | .skip => .mk fun _ _ kn _ _ => kn
  | .seq x y => (comp op fn nt x).then fun f => (comp op fn nt y).then fun g => .mk fun fl rd kn kx kr => f fl rd (g fl rd kn kx kr) kx kr
  | .cond c x y => (evK c).then fun e => (comp op fn nt x).then fun f => (comp op fn nt y).then fun g => .mk fun fl rd kn kx kr a ds h nx =>
      match e a with
      | .bool b => bif b then f fl rd kn kx kr a ds h nx else g fl rd kn kx kr a ds h nx
      | _ => none
  | .block id x => (comp op fn nt x).then fun f => .mk fun fl rd kn kx kr => f fl rd kn (fun i => bif Nat.beq i id then kn else kx i) kr
  | .loop x => (comp op fn nt x).then fun f => .mk fun fl rd _ kx kr => Nat.rec (motive := fun _ => Kt) (fun _ _ _ _ => none) (fun _ ih => f fl rd ih kx kr) 1000000
  | .scope x => comp op fn nt x
  | .exit id => .mk fun _ _ _ kx _ => kx id
  | .ret => .mk fun _ _ _ _ kr => kr
  | .reg ops => (compOps op nt ops).then fun f => .mk fun fl _ kn _ _ => f fl kn
  | .draw s ops => (drawK op nt s ops).then fun f => .mk fun fl _ kn _ _ a ds h nx => bif Nat.ble fl nx then f fl nx 0 h [] kn a ds nx else none
  | .rangeFunc f ps assign body => (evK f).then fun e => .mk (rangeK fn nt e ps assign body)
  | .bad => .mk fun _ _ _ _ _ _ _ _ _ => none
def leaveK (fl : Nat) (nt : Nat) (res : List LRes) (k : Kv) : Kt := fun a ds h nx =>
  match leaveH fl ⟨nt, a, ds⟩ res ⟨h, nx⟩ with
  | some (v, σ) => k v σ.h σ.nx
  | none => none
abbrev Kr := Nat → Nat → List HV → Tr HBlk → Nat → Kv → Option (HV × HS)
def gcK (h : Tr HBlk) (nx : Nat) (k : Kv) : Kv := fun v h' nx' => k v (keepD h' nx 5 [v] h) nx'
def specK (g : List HV → HS → Option (HV × HS)) : Kf := fun _ args h nx k =>
  match g args ⟨h, nx⟩ with
  | some (v, σ) => bif Nat.ble nx σ.nx then k v σ.h σ.nx else none
  | none => none
def enterK (lf : ze) (body : Kc) : Bx Kf :=
  bif lf.imp then .mk fun fl args h nx k => bif Nat.ble args.length lf.nt then body fl none (leaveK fl lf.nt lf.res k) (fun _ _ _ _ _ => none) (leaveK fl lf.nt lf.res k) (putAll .e 0 args) [] h nx else none
  else .mk fun _ args h nx k => bif Nat.ble args.length lf.nt then body nx none (leaveK nx lf.nt lf.res (gcK h nx k)) (fun _ _ _ _ _ => none) (leaveK nx lf.nt lf.res (gcK h nx k)) (putAll .e 0 args) [] h nx else none
def bothK (lp : Nat → Option ze) : Nat → (Nat → Bx Kf) × Kr
  | 0 => (fun _ => .mk fun _ _ _ _ _ => none, fun _ _ _ _ _ _ => none)
  | n + 1 =>
    (fun f =>
      match lp f with
      | none => .mk fun _ _ _ _ _ => none
      | some lf =>
        match lf.spec with
        | some g => .mk (specK g)
        | none => (comp (compOp lp (bothK lp n).1 (bothK lp n).2 lf.nt) (bothK lp n).1 lf.nt lf.body).then (enterK lf),
     roundK fun nt c => comp (compOp lp (bothK lp n).1 (bothK lp n).2 nt) (bothK lp n).1 nt c)
def fnK (lp : Nat → Option ze) (n : Nat) : Nat → Bx Kf := (bothK lp n).1
end
end Go.Hx

namespace Go.Hx
variable {lp : Nat → Option ze} {nt : Nat}
theorem zo {α : Type} (f : α) : (Bx.mk f).run = f := rfl
theorem zh {α β : Type} (b : Bx α) (g : α → Bx β) : b.then g = g b.run := by cases b; rfl
theorem pa_then {β : Type} (p : Pa) (g : Pa → Bx β) : p.then g = g p := by cases p <;> rfl
theorem tmp_eq (a : Tr HV) (ds : List Nat) (n : Nat) : (pa n).tmp a = (⟨nt, a, ds⟩ : HAct).tmp n := by
 show Option.rec (motive := fun _ => HV) HV.undef (fun v => v) (a.get n) = (a.get n).getD .undef
 cases a.get n <;> rfl
theorem zW (x : Lo) (a : Tr HV) (ds : List Nat) : (evK x).run a = (⟨nt, a, ds⟩ : HAct).ev x := by
 cases x with
 | t n => exact tmp_eq a ds n
 | c v => rfl
theorem evs_eq (xs : List Lo) (a : Tr HV) (ds : List Nat) : (xs.map fun x => evL x a) = xs.map (⟨nt, a, ds⟩ : HAct).ev := by
 apply List.map_congr_left
 intro x _
 exact zW x a ds
def KoOk (lp : Nat → Option ze) (nt : Nat) (G : Ko) (o : LOp) : Prop := ∀ fl a ds h nx (k : Kv) r, G fl a h nx k = some r → ∃ n v σ', opH lp (exec lp n) fl o ⟨nt, a, ds⟩ ⟨h, nx⟩ = some (v, σ') ∧ k v σ'.h σ'.nx = some r
def KosOk (lp : Nat → Option ze) (nt : Nat) (G : Nat → Kt → Kt) (os : List zb) : Prop := ∀ fl (k : Kt) a ds h nx r, G fl k a ds h nx = some r → ∃ n a' σ', runOps lp (exec lp n) fl os ⟨nt, a, ds⟩ ⟨h, nx⟩ = some (a', σ') ∧ a'.nt = nt ∧ k a'.tmps a'.defers σ'.h σ'.nx = some r
def contK (e : HExit) (kn : Kt) (kx : Nat → Kt) (kr : Kt) (a : HAct) (σ : HS) : Option (HV × HS) :=
 match e with
 | .normal => kn a.tmps a.defers σ.h σ.nx
 | .exit i => kx i a.tmps a.defers σ.h σ.nx
 | .ret => kr a.tmps a.defers σ.h σ.nx
def KcOk (lp : Nat → Option ze) (nt : Nat) (F : Kc) (c : zk) : Prop := ∀ fl rd kn kx kr a ds h nx r, F fl rd kn kx kr a ds h nx = some r → ∃ n e a' σ', exec lp n fl rd c ⟨nt, a, ds⟩ ⟨h, nx⟩ = some (e, a', σ') ∧ a'.nt = nt ∧ contK e kn kx kr a' σ' = some r
def KfOk (lp : Nat → Option ze) (F : Kf) (f : Nat) : Prop := ∀ fl args h nx (k : Kv) r, F fl args h nx k = some r → ∃ n v σ', callF lp (exec lp n) fl f args ⟨h, nx⟩ = some (v, σ') ∧ k v σ'.h σ'.nx = some r
def KrOk (lp : Nat → Option ze) (ro : Kr) : Prop := ∀ fl l args h nx (k : Kv) r, ro fl l args h nx k = some r → ∃ n v σ', roundH (exec lp n) fl l args ⟨h, nx⟩ = some (v, σ') ∧ k v σ'.h σ'.nx = some r
theorem slow_ok (o : LOp) : KoOk lp nt (slowK lp nt o) o := by
 intro fl a ds h nx k r hr
 unfold slowK at hr
 rw [uq (a := ⟨nt, a, []⟩) (b := ⟨nt, a, ds⟩) ⟨h, nx⟩ rfl (fun _ _ => rfl)] at hr
 split at hr
 ·rename_i v σ' ho; exact ⟨0, v, σ', ho, hr⟩
 ·cases hr
theorem chk_ds {nt : Nat} {a : Tr HV} {ds ds' : List Nat} {σ : HS} : ∀ (cs : List (Bool × Nat × Lo × Nat)), chkH ⟨nt, a, ds⟩ σ cs = chkH ⟨nt, a, ds'⟩ σ cs
 | [] => rfl
 | (g, n, x, t) :: cs => by
  unfold chkH
  rw [chk_ds (ds' := ds') cs]
  rfl
theorem js {fn : Nat → Bx Kf} {ro : Kr} (hfn : ∀ f, KfOk lp (fn f).run f) (hro : KrOk lp ro) (f : Lo) (xs : List Lo) : KoOk lp nt (callK lp fn ro (evK f).run xs) (.call f xs) := by
 intro fl a ds h nx k r hr
 unfold callK at hr
 rw [zW (nt := nt) f a ds, evs_eq (nt := nt) xs a ds] at hr
 split at hr
 ·rename_i g first captured hf
  obtain ⟨n, v, σ', h1, h2⟩ := hfn g _ _ _ _ _ _ hr
  refine ⟨n, v, σ', ?_, h2⟩
  show callH lp _ fl _ _ _ = _
  unfold callH
  rw [hf]
  exact h1
 ·rename_i l hf
  obtain ⟨n, v, σ', h1, h2⟩ := hro _ _ _ _ _ _ _ hr
  refine ⟨n, v, σ', ?_, h2⟩
  show callH lp _ fl _ _ _ = _
  unfold callH
  rw [hf]
  exact h1
 ·rename_i t name g hf
  unfold viaK at hr
  split at hr
  ·rename_i off b o rest e1 e2
   obtain ⟨n, v, σ', h1, h2⟩ := hfn g _ _ _ _ _ _ hr
   refine ⟨n, v, σ', ?_, h2⟩
   show callH lp _ fl _ _ _ = _
   unfold callH
   rw [hf]
   show callV lp _ fl t name g _ _ = _
   unfold callV
   rw [e1, e2]
   exact h1
  ·cases hr
 ·cases hr
theorem u6 : ∀ (i : Nat) (l : List HV), nthK i l = l[i]?
 | 0, [] => rfl
 | 0, v :: l => rfl
 | i + 1, [] => rfl
 | i + 1, v :: l => (u6 i l).trans (by simp)
theorem uS (v : HV) : ∀ (i : Nat) (l : List HV), i < l.length → overwrite l i [v] = some (setR i v l)
 | _, [], h => by simp at h
 | 0, x :: l, _ => by cases l <;> rfl
 | i + 1, x :: l, h => by
  unfold overwrite
  rw [uS v i l (by simpa using h)]
  rfl
theorem op_ok {fn : Nat → Bx Kf} {ro : Kr} (hfn : ∀ f, KfOk lp (fn f).run f) (hro : KrOk lp ro) (o : LOp) : KoOk lp nt (compOp lp fn ro nt o).run o := by
 have slow := slow_ok (lp := lp) (nt := nt) o
 unfold compOp
 split
 case h_1 x =>
  rw [zh, zo]
  intro fl a ds h nx k r hr
  dsimp only at hr
  rw [zW (nt := nt) x a ds] at hr
  exact ⟨0, _, ⟨h, nx⟩, rfl, hr⟩
 case h_2 op x y =>
  rw [zh, zh, zo]
  intro fl a ds h nx k r hr
  dsimp only at hr
  rw [zW (nt := nt) x a ds, zW (nt := nt) y a ds] at hr
  unfold binK at hr
  split at hr
  ·rename_i k1 m k2 n e1 e2
   cases hk : sameK k1 k2 with
   | false => rw [hk] at hr; cases hr
   | true =>
    rw [hk] at hr
    simp only [cond_true] at hr
    split at hr
    ·rename_i v e3
     refine ⟨0, v, ⟨h, nx⟩, ?_, hr⟩
     show keep _ (binH op _ _) = _
     rw [e1, e2]
     unfold binH
     dsimp only
     cases hsh : isShift op with
     | true => rw [hsh] at e3; simp only [cond_true] at e3 ⊢; rw [e3]; rfl
     | false => rw [hsh] at e3; simp only [cond_false] at e3 ⊢; rw [hk, e3]; rfl
    ·cases hr
  ·cases hr
 case h_3 off x =>
  rw [zh, zo]
  intro fl a ds h nx k r hr
  dsimp only at hr
  rw [zW (nt := nt) x a ds] at hr
  unfold addrK at hr
  split at hr
  ·rename_i b o e1
   refine ⟨0, _, ⟨h, nx⟩, ?_, hr⟩
   show oFieldAddr off x _ _ = _
   unfold oFieldAddr
   rw [e1]
  ·cases hr
 case h_4 len size x i =>
  rw [zh, zh, zo]
  intro fl a ds h nx k r hr
  dsimp only at hr
  rw [zW (nt := nt) x a ds, zW (nt := nt) i a ds] at hr
  unfold idxK at hr
  split at hr
  ·rename_i b o kk j e1 e2
   cases hb : Nat.blt j len with
   | false => rw [hb] at hr; cases hr
   | true =>
    rw [hb] at hr
    refine ⟨0, _, ⟨h, nx⟩, ?_, hr⟩
    show oIndexAddrA len size x i _ _ = _
    unfold oIndexAddrA
    rw [e1, e2]
    simp only [natOf, stepTo, hb, cond_true]
  ·cases hr
 case h_5 x =>
  rw [zh, zo]
  intro fl a ds h nx k r hr
  dsimp only at hr
  rw [zW (nt := nt) x a ds] at hr
  unfold nilK at hr
  split at hr
  ·rename_i p e1
   refine ⟨0, _, ⟨h, nx⟩, ?_, hr⟩
   show oNilCheck x _ _ = _
   unfold oNilCheck
   rw [e1]
  ·rename_i f first captured e1
   refine ⟨0, _, ⟨h, nx⟩, ?_, hr⟩
   show oNilCheck x _ _ = _
   unfold oNilCheck
   rw [e1]
  ·cases hr
 case h_6 x =>
  rw [zh, zo]
  intro fl a ds h nx k r hr
  dsimp only at hr
  rw [zW (nt := nt) x a ds] at hr
  unfold loadK at hr
  split at hr
  ·rename_i b o e1
   split at hr
   ·rename_i cs bk e2
    rw [u6] at hr
    split at hr
    ·rename_i v e3
     refine ⟨0, v, ⟨h, nx⟩, ?_, hr⟩
     show oLoad false 1 x _ _ = _
     unfold oLoad
     rw [e1]
     have hc : (⟨h, nx⟩ : HS).cells b = some cs := by unfold HS.cells; rw [e2]
     have hr2 : (⟨h, nx⟩ : HS).read (b, o) 1 = some [v] := by
      unfold HS.read
      simp only [hc, Option.bind_eq_bind, Option.bind_some]
      have hlt : o < cs.length := by
       rcases Nat.lt_or_ge o cs.length with h | h
       ·exact h
       ·rw [List.getElem?_eq_none h] at e3; cases e3
      rw [List.drop_eq_getElem_cons hlt]
      rw [List.getElem?_eq_getElem hlt] at e3
      cases e3
      simp [takeN]
     simp only [hr2, whole, keep]
    ·cases hr
   ·cases hr
  ·cases hr
 case h_7 x y =>
  rw [zh, zh, zo]
  intro fl a ds h nx k r hr
  dsimp only at hr
  rw [zW (nt := nt) x a ds, zW (nt := nt) y a ds] at hr
  revert hr
  cases h1 : ((⟨nt, a, ds⟩ : HAct).ev y).one with
  | false => exact fun hr => slow fl a ds h nx k r hr
  | true =>
  intro hr
  simp only [cond_true] at hr
  unfold storeK at hr
  split at hr
  ·rename_i b o e1
   split at hr
   ·rename_i cs bk e2
    revert hr
    cases hc : (Nat.ble fl b && ((⟨nt, a, ds⟩ : HAct).ev y).one && wrOk bk) with
    | false => intro hr; cases hr
    | true =>
     intro hr
     simp only [cond_true] at hr
     simp only [Bool.and_eq_true] at hc
     obtain ⟨⟨c1, c2⟩, c3⟩ := hc
     rw [u6] at hr
     split at hr
     ·rename_i u e3
      have hlt : o < cs.length := by
       rcases Nat.lt_or_ge o cs.length with h | h
       ·exact h
       ·rw [List.getElem?_eq_none h] at e3; cases e3
      refine ⟨0, .undef, ⟨h.set b (some (.cells (setR o ((⟨nt, a, ds⟩ : HAct).ev y) cs) bk)), nx⟩, ?_, hr⟩
      have hcells : ((⟨nt, a, ds⟩ : HAct).ev y).cells = [(⟨nt, a, ds⟩ : HAct).ev y] := by
       generalize (⟨nt, a, ds⟩ : HAct).ev y = v at c2
       cases v <;> first | rfl | cases c2
      show oStore fl 1 x y _ _ = _
      unfold oStore
      rw [e1, hcells]
      have hw : (⟨h, nx⟩ : HS).write fl (b, o) [(⟨nt, a, ds⟩ : HAct).ev y] = some ⟨h.set b (some (.cells (setR o ((⟨nt, a, ds⟩ : HAct).ev y) cs) bk)), nx⟩ := by
       unfold HS.write
       simp only [e2]
       cases bk with
       | ro => cases c3
       | exact => simp only [c1, List.all_cons, c2, List.all_nil, Bool.and_true, cond_true, uS _ _ _ hlt, Option.map_some]; rfl
       | opn z => simp only [c1, List.all_cons, c2, List.all_nil, Bool.and_true, cond_true, uS _ _ _ hlt, Option.map_some]; rfl
      simp only [hw]
      rfl
     ·cases hr
   ·cases hr
  ·cases hr
 case h_8 f xs =>
  rw [zh, zo]
  exact js hfn hro f xs
 case h_9 f xs cs =>
  rw [zh, zo]
  intro fl a ds h nx k r hr
  obtain ⟨n, v, σ', h1, h2⟩ := js hfn hro f xs _ _ ds _ _ _ _ hr
  refine ⟨n, v, σ', ?_, ?_⟩
  ·cases hc : chkH ⟨nt, a, []⟩ ⟨σ'.h, σ'.nx⟩ cs with
   | false => rw [hc] at h2; cases h2
   | true =>
    have h1 : callH lp (exec lp n) fl ((⟨nt, a, ds⟩ : HAct).ev f) (xs.map (⟨nt, a, ds⟩ : HAct).ev) ⟨h, nx⟩ = some (v, σ') := h1
    have hc : chkH ⟨nt, a, ds⟩ σ' cs = true := by rw [← hc]; exact chk_ds cs
    show oCallC lp _ fl f xs cs _ _ = _
    unfold oCallC
    rw [h1]
    simp only [hc, cond_true]
  ·cases hc : chkH ⟨nt, a, []⟩ ⟨σ'.h, σ'.nx⟩ cs with
   | false => rw [hc] at h2; cases h2
   | true => rw [hc] at h2; exact h2
 case h_10 => exact slow
theorem guard_k {G : Bx Ko} {o : zb} (h : KoOk lp nt G.run o.op) : ∀ fl a ds hp nx (k : Kv) r, (guardK o.g G).run fl a hp nx k = some r →
  ∃ n v σ', (bif wantedH o.g ⟨nt, a, ds⟩ then opH lp (exec lp n) fl o.op ⟨nt, a, ds⟩ ⟨hp, nx⟩ else some (.undef, ⟨hp, nx⟩)) = some (v, σ') ∧ k v σ'.h σ'.nx = some r := by
 intro fl a ds hp nx k r hr
 unfold guardK at hr
 split at hr
 ·rename_i hg
  obtain ⟨n, v, σ', h1, h2⟩ := h fl a ds hp nx k r hr
  refine ⟨n, v, σ', ?_, h2⟩
  rw [hg]
  exact h1
 ·rename_i t want hg
  rw [zh, zh, zo] at hr
  rw [zW (nt := nt) (.t t) a ds] at hr
  have hw : wantedH o.g ⟨nt, a, ds⟩ = isB want ((⟨nt, a, ds⟩ : HAct).ev (.t t)) := by
   rw [hg]
   unfold wantedH isB
   dsimp only [HAct.ev]
   generalize (⟨nt, a, ds⟩ : HAct).tmp t = x
   cases x <;> rfl
  rw [hw]
  cases hb : isB want ((⟨nt, a, ds⟩ : HAct).ev (.t t)) with
  | true =>
   rw [hb] at hr
   exact h fl a ds hp nx k r hr
  | false =>
   rw [hb] at hr
   exact ⟨0, .undef, ⟨hp, nx⟩, rfl, hr⟩
theorem put_k (dst : Option Nat) (a : Tr HV) (ds : List Nat) (v : HV) : (⟨nt, a, ds⟩ : HAct).put dst v = ⟨nt, (putK nt dst).run a v, ds⟩ := by
 unfold HAct.put putK
 cases dst with
 | none => rfl
 | some d =>
  dsimp only
  cases Nat.blt d nt with
  | false => rfl
  | true => rw [cond_true, cond_true, pa_then]; rfl
theorem uP {G : Bx Ko} {o : zb} (h : KoOk lp nt G.run o.op) : ∀ fl a ds hp nx (k : Kv) r, (guardK o.g G).run fl a hp nx k = some r →
  ∃ n v σ', stepOp lp (exec lp n) fl o ⟨nt, a, ds⟩ ⟨hp, nx⟩ = some (⟨nt, (putK nt o.dst).run a v, ds⟩, σ') ∧ k v σ'.h σ'.nx = some r := by
 intro fl a ds hp nx k r hr
 obtain ⟨n, v, σ', h1, h2⟩ := guard_k h fl a ds hp nx k r hr
 refine ⟨n, v, σ', ?_, h2⟩
 unfold stepOp
 cases hw : wantedH o.g ⟨nt, a, ds⟩ with
 | true => rw [hw] at h1; simp only [cond_true] at h1 ⊢; rw [h1]; simp only [put_k]
 | false =>
  rw [hw] at h1
  cases h1
  simp only [cond_false, put_k]
theorem ops_k {op : LOp → Bx Ko} (hop : ∀ o, KoOk lp nt (op o).run o) : ∀ os, KosOk lp nt (compOps op nt os).run os
 | [] => fun fl k a ds h nx r hr => ⟨0, _, _, rfl, rfl, hr⟩
 | o :: os => by
  intro fl k a ds h nx r hr
  unfold compOps at hr
  rw [zh, zh, zh, zo] at hr
  obtain ⟨n, v, σ1, h1, h2⟩ := uP (hop o.op) fl a ds h nx _ r hr
  obtain ⟨m, a', σ', h3, h4, h5⟩ := ops_k hop os fl k _ ds _ _ r h2
  refine ⟨max n m, a', σ', ?_, h4, h5⟩
  unfold runOps
  rw [zL (zw (Nat.le_max_left n m)) h1]
  exact ya (zw (Nat.le_max_right n m)) h3
theorem jd {op : LOp → Bx Ko} (hop : ∀ o, KoOk lp nt (op o).run o) {s : Nat} : ∀ os fl n0 i h0 done (k : Kt) a ds nx r, fl ≤ n0 → n0 ≤ nx → (drawK op nt s os).run fl n0 i h0 done k a ds nx = some r →
  ∃ n a' σ', drawOps lp (exec lp n) fl s n0 h0 os i done ⟨nt, a, ds⟩ nx = some (a', σ') ∧ a'.nt = nt ∧ k a'.tmps a'.defers σ'.h σ'.nx = some r
 | [], fl, n0, i, h0, done, k, a, ds, nx, r, _, _, hr => ⟨0, _, _, rfl, rfl, hr⟩
 | o :: os, fl, n0, i, h0, done, k, a, ds, nx, r, hfl, hn0, hr => by
  unfold drawK at hr
  rw [zh, zh, zh, zh, zo] at hr
  cases hc : Nat.blt i s with
  | false =>
   rw [hc] at hr
   obtain ⟨n, a', σ', h1, h2, h3⟩ := ops_k hop (o :: os) fl k a ds _ nx r hr
   refine ⟨n, a', σ', ?_, h2, h3⟩
   unfold drawOps
   rw [hc]
   exact h1
  | true =>
   rw [hc] at hr
   simp only [cond_true] at hr
   cases hw : o.anc.contains i with
   | true =>
    rw [hw] at hr
    simp only [cond_true] at hr
    obtain ⟨n, v, σ1, h1, h2⟩ := uP (hop o.op) n0 a ds _ nx _ r hr
    revert h2
    cases hb : Nat.ble nx σ1.nx with
    | false => intro h2; cases h2
    | true =>
     intro h2
     simp only [cond_true] at h2
     have hle := Nat.le_of_ble_eq_true hb
     obtain ⟨m, a', σ', h3, h4, h5⟩ := jd hop os fl n0 (Nat.succ i) h0 _ k _ ds _ r hfl (Nat.le_trans hn0 hle) h2
     refine ⟨max n m, a', σ', ?_, h4, h5⟩
     have hmx : Nat.max fl n0 = n0 := Nat.max_eq_right hfl
     unfold drawOps
     rw [hc, hw]
     simp only [cond_true, hmx]
     rw [zL (zw (Nat.le_max_left n m)) h1]
     simp only [hb, Bool.not_true, cond_false]
     exact zR (zw (Nat.le_max_right n m)) h3
   | false =>
    rw [hw] at hr
    simp only [cond_false] at hr
    obtain ⟨n, v, σ1, h1, h2⟩ := uP (hop o.op) nx a ds _ nx _ r hr
    revert h2
    cases hb : Nat.ble nx σ1.nx with
    | false => intro h2; cases h2
    | true =>
     intro h2
     simp only [cond_true] at h2
     have hle := Nat.le_of_ble_eq_true hb
     obtain ⟨m, a', σ', h3, h4, h5⟩ := jd hop os fl n0 (Nat.succ i) h0 _ k _ ds _ r hfl (Nat.le_trans hn0 hle) h2
     refine ⟨max n m, a', σ', ?_, h4, h5⟩
     have hmx : Nat.max fl nx = nx := Nat.max_eq_right (by omega)
     unfold drawOps
     rw [hc, hw]
     simp only [cond_true, cond_false, hmx]
     rw [zL (zw (Nat.le_max_left n m)) h1]
     simp only [hb, Bool.not_true, cond_false]
     exact zR (zw (Nat.le_max_right n m)) h3
theorem ji {n : Nat} {fl : Nat} {rd : Option Nat} {x y : zk} {a a1 : HAct} {σ σ1 : HS} {q : HExit × HAct × HS} {m : Nat} (h1 : exec lp n fl rd x a σ = some (.normal, a1, σ1)) (h2 : exec lp m fl rd y a1 σ1 = some q) : xSeq (exec lp (max n m)) fl rd x y a σ = some q := by
 unfold xSeq
 rw [zw (Nat.le_max_left n m) _ _ _ _ _ _ h1]
 exact zw (Nat.le_max_right n m) _ _ _ _ _ _ h2
theorem vv {b : Option HBlk} {k : LState → HExit → Nat → Tr HV → List Nat → zk → zk → Nat → Option (HV × HS)} {r : HV × HS} (hr : loopK b k = some r) : ∃ q : HLoop, b = some (.loop q) ∧ k q.state q.pending q.nt q.tmps q.params q.assign q.body q.marks = some r := by
 unfold loopK at hr
 split at hr
 ·exact ⟨_, rfl, hr⟩
 ·cases hr
theorem marks_k {rd : Option Nat} {h : Tr HBlk} {nx : Nat} {k : Nat → List Nat → Tr HBlk → Nat → Option (HV × HS)} {r : HV × HS} (hr : marksK rd h nx k = some r) : ∃ mk ms h1 n1, marksOf rd ⟨h, nx⟩ = some (mk, ms, ⟨h1, n1⟩) ∧ k mk ms h1 n1 = some r := by
 unfold marksK at hr
 cases rd with
 | none => exact ⟨_, _, _, _, rfl, hr⟩
 | some l =>
  obtain ⟨q, hq, hk⟩ := vv hr
  refine ⟨_, _, _, _, ?_, hk⟩
  unfold marksOf
  simp only [hq]
theorem jump_k (e : HExit) (kn : Kt) (kx : Nat → Kt) (kr : Kt) (a : HAct) (σ : HS) : jumpK e kn kx kr a.tmps a.defers σ.h σ.nx = contK e kn kx kr a σ := by cases e <;> rfl
theorem range_k {fn : Nat → Bx Kf} (hfn : ∀ f, KfOk lp (fn f).run f) (f : Lo) (ps : List Nat) (assign body : zk) : KcOk lp nt (rangeK fn nt (evK f).run ps assign body) (.rangeFunc f ps assign body) := by
 intro fl rd kn kx kr a ds h nx r hr
 unfold rangeK at hr
 rw [zW (nt := nt) f a ds] at hr
 split at hr
 ·rename_i g first captured hf
  obtain ⟨mk, ms, h1, n1, hm, hr⟩ := marks_k hr
  obtain ⟨n, v, σ3, hc, hr⟩ := hfn g _ _ _ _ _ _ hr
  obtain ⟨q, hq, hr⟩ := vv hr
  revert hr
  cases hb : (notBusy q.state && Nat.ble fl n1) with
  | false => intro hr; cases hr
  | true =>
   intro hr
   simp only [cond_true] at hr
   simp only [Bool.and_eq_true] at hb
   refine ⟨n + 1, q.pending, ⟨nt, a, ms ++ ds⟩, σ3.upd n1 (some (.loop { q with state := .exhausted })), ?_, rfl, ?_⟩
   ·show xRange lp (exec lp n) fl rd f ps assign body _ _ = _
    unfold xRange
    rw [hf, hm]
    dsimp only
    have hc' : callF lp (exec lp n) fl g (first ++ [.yield n1] ++ captured) ((⟨h1, n1⟩ : HS).new (.loop ⟨.ready, .normal, nt, a, ps, assign, body, mk⟩)) = some (v, σ3) := hc
    rw [hc']
    dsimp only
    unfold endLoopH
    rw [hq]
    dsimp only
    have hnb := hb.1
    cases hst : q.state <;> rw [hst] at hnb <;> first | (exact absurd hnb (by decide)) | (dsimp only; rw [hb.2]; rfl)
   ·rw [← jump_k]; exact hr
 ·cases hr
theorem end_k {l : Nat} {e : HExit} {k : Kv} {h : Tr HBlk} {nx : Nat} {r : HV × HS} (hr : endK l e k h nx = some r) : ∃ v σ', endRoundH l e ⟨h, nx⟩ = some (v, σ') ∧ k v σ'.h σ'.nx = some r := by
 unfold endK at hr
 obtain ⟨q, hq, hr⟩ := vv hr
 cases e with
 | normal =>
  refine ⟨.bool true, (⟨h, nx⟩ : HS).upd l (some (.loop { q with state := .ready, pending := .normal })), ?_, hr⟩
  unfold endRoundH
  simp only [hq]
 | exit id =>
  refine ⟨.bool false, (⟨h, nx⟩ : HS).upd l (some (.loop { q with state := .done, pending := .exit id })), ?_, hr⟩
  unfold endRoundH
  simp only [hq]
 | ret =>
  refine ⟨.bool false, (⟨h, nx⟩ : HS).upd l (some (.loop { q with state := .done, pending := .ret })), ?_, hr⟩
  unfold endRoundH
  simp only [hq]
theorem round_k {co : Nat → zk → Bx Kc} (hco : ∀ nt c, KcOk lp nt (co nt c).run c) : KrOk lp (roundK co) := by
 intro fl l args h nx k r hr
 unfold roundK at hr
 obtain ⟨q, hq, hr⟩ := vv hr
 split at hr
 ·rename_i tm1 hz
  obtain ⟨n, e, a1, σ1, h1, h2, h3⟩ := hco _ _ _ _ _ _ _ _ _ _ _ _ hr
  cases e with
  | normal =>
   dsimp only [contK] at h3
   obtain ⟨q1, hq1, h3⟩ := vv h3
   revert h3
   cases hb : (isReady q1.state && Nat.ble fl l) with
   | false => intro h3; cases h3
   | true =>
    intro h3
    simp only [cond_true] at h3
    simp only [Bool.and_eq_true] at hb
    obtain ⟨m, e, a2, σ2, h4, h5, h6⟩ := hco _ _ _ _ _ _ _ _ _ _ _ _ h3
    have ea : (⟨q.nt, a1.tmps, a1.defers⟩ : HAct) = a1 := by rw [← h2]
    rw [ea] at h4
    have hbegin : beginRoundH fl l σ1 = some ⟨σ1.h.set l (some (.loop { q1 with state := .busy })), σ1.nx⟩ := by
     unfold beginRoundH
     rw [hq1]
     dsimp only
     have hrd := hb.1
     cases hst : q1.state <;> rw [hst] at hrd <;> first | (exact absurd hrd (by decide)) | (dsimp only; rw [hb.2]; rfl)
    have hend : ∃ v σ', endRoundH l e σ2 = some (v, σ') ∧ k v σ'.h σ'.nx = some r := by
     cases e <;> exact end_k h6
    obtain ⟨v, σ', g1, g2⟩ := hend
    refine ⟨max n m, v, σ', ?_, g2⟩
    unfold roundH
    rw [hq]
    dsimp only
    rw [hz]
    dsimp only
    rw [zw (Nat.le_max_left n m) _ _ _ _ _ _ h1]
    dsimp only
    rw [hbegin]
    dsimp only
    rw [zw (Nat.le_max_right n m) _ _ _ _ _ _ h4]
    exact g1
  | exit id => cases h3
  | ret => cases h3
 ·cases hr
theorem yo {op : LOp → Bx Ko} {fn : Nat → Bx Kf} (hop : ∀ o, KoOk lp nt (op o).run o) (hfn : ∀ f, KfOk lp (fn f).run f) : ∀ c, KcOk lp nt (comp op fn nt c).run c
 | .skip => fun fl rd kn kx kr a ds h nx r hr => ⟨1, .normal, _, _, rfl, rfl, hr⟩
 | .seq x y => by
  intro fl rd kn kx kr a ds h nx r hr
  unfold comp at hr
  rw [zh, zh, zo] at hr
  obtain ⟨n, e, a1, σ1, h1, h2, h3⟩ := yo hop hfn x fl rd _ kx kr a ds h nx r hr
  cases e with
  | normal =>
   dsimp only [contK] at h3
   obtain ⟨m, e, a', σ', h4, h5, h6⟩ := yo hop hfn y fl rd kn kx kr a1.tmps a1.defers σ1.h σ1.nx r h3
   have ea : (⟨nt, a1.tmps, a1.defers⟩ : HAct) = a1 := by rw [← h2]
   rw [ea] at h4
   exact ⟨max n m + 1, e, a', σ', ji h1 h4, h5, h6⟩
  | exit id => exact ⟨n + 1, .exit id, a1, σ1, by show xSeq _ _ _ _ _ _ _ = _; unfold xSeq; rw [h1], h2, h3⟩
  | ret => exact ⟨n + 1, .ret, a1, σ1, by show xSeq _ _ _ _ _ _ _ = _; unfold xSeq; rw [h1], h2, h3⟩
 | .cond c x y => by
  intro fl rd kn kx kr a ds h nx r hr
  unfold comp at hr
  rw [zh, zh, zh, zo] at hr
  rw [zW (nt := nt) c a ds] at hr
  split at hr
  ·rename_i b hb
   cases b with
   | true =>
    obtain ⟨n, e, a', σ', h1, h2, h3⟩ := yo hop hfn x fl rd kn kx kr a ds h nx r hr
    refine ⟨n + 1, e, a', σ', ?_, h2, h3⟩
    show xCond _ _ _ _ _ _ _ _ = _
    unfold xCond
    rw [hb]; exact h1
   | false =>
    obtain ⟨n, e, a', σ', h1, h2, h3⟩ := yo hop hfn y fl rd kn kx kr a ds h nx r hr
    refine ⟨n + 1, e, a', σ', ?_, h2, h3⟩
    show xCond _ _ _ _ _ _ _ _ = _
    unfold xCond
    rw [hb]; exact h1
  ·cases hr
 | .block id x => by
  intro fl rd kn kx kr a ds h nx r hr
  unfold comp at hr
  rw [zh, zo] at hr
  obtain ⟨n, e, a', σ', h1, h2, h3⟩ := yo hop hfn x fl rd kn _ kr a ds h nx r hr
  cases e with
  | normal => exact ⟨n + 1, .normal, a', σ', by show xBlock _ _ _ _ _ _ _ = _; unfold xBlock; rw [h1], h2, h3⟩
  | ret => exact ⟨n + 1, .ret, a', σ', by show xBlock _ _ _ _ _ _ _ = _; unfold xBlock; rw [h1], h2, h3⟩
  | exit i =>
   dsimp only [contK] at h3
   refine ⟨n + 1, bif Nat.beq i id then .normal else .exit i, a', σ', by show xBlock _ _ _ _ _ _ _ = _; unfold xBlock; rw [h1], h2, ?_⟩
   revert h3
   cases Nat.beq i id <;> exact fun h => h
 | .loop x => by
  intro fl rd kn kx kr a ds h nx r hr
  unfold comp at hr
  rw [zh, zo] at hr
  have ihx := yo hop hfn x
  revert hr
  generalize 1000000 = m
  induction m generalizing a ds h nx with
  | zero => intro hr; cases hr
  | succ m ih =>
   intro hr
   obtain ⟨n, e, a1, σ1, h1, h2, h3⟩ := ihx fl rd _ kx kr a ds h nx r hr
   cases e with
   | normal =>
    dsimp only [contK] at h3
    obtain ⟨k, e, a', σ', h4, h5, h6⟩ := ih a1.tmps a1.defers σ1.h σ1.nx h3
    have ea : (⟨nt, a1.tmps, a1.defers⟩ : HAct) = a1 := by rw [← h2]
    rw [ea] at h4
    exact ⟨max n k + 1, e, a', σ', ji h1 h4, h5, h6⟩
   | exit id => exact ⟨n + 1, .exit id, a1, σ1, by show xSeq _ _ _ _ _ _ _ = _; unfold xSeq; rw [h1], h2, h3⟩
   | ret => exact ⟨n + 1, .ret, a1, σ1, by show xSeq _ _ _ _ _ _ _ = _; unfold xSeq; rw [h1], h2, h3⟩
 | .scope x => by
  intro fl rd kn kx kr a ds h nx r hr
  obtain ⟨n, e, a', σ', h1, h2, h3⟩ := yo hop hfn x fl rd kn kx kr a ds h nx r hr
  exact ⟨n + 1, e, a', σ', h1, h2, h3⟩
 | .exit id => fun fl rd kn kx kr a ds h nx r hr => ⟨1, .exit id, _, _, rfl, rfl, hr⟩
 | .ret => fun fl rd kn kx kr a ds h nx r hr => ⟨1, .ret, _, _, rfl, rfl, hr⟩
 | .reg ops => by
  intro fl rd kn kx kr a ds h nx r hr
  unfold comp at hr
  rw [zh, zo] at hr
  obtain ⟨n, a', σ', h1, h2, h3⟩ := ops_k hop ops fl kn a ds h nx r hr
  refine ⟨n + 1, .normal, a', σ', ?_, h2, h3⟩
  show xNormal _ = _
  rw [h1]; rfl
 | .draw s ops => by
  intro fl rd kn kx kr a ds h nx r hr
  unfold comp at hr
  rw [zh, zo] at hr
  cases hb : Nat.ble fl nx with
  | false => rw [hb] at hr; cases hr
  | true =>
   rw [hb] at hr
   obtain ⟨n, a', σ', h1, h2, h3⟩ := jd hop ops fl nx 0 h [] kn a ds nx r (Nat.le_of_ble_eq_true hb) (Nat.le_refl _) hr
   refine ⟨n + 1, .normal, a', σ', ?_, h2, h3⟩
   show xDraw lp (exec lp n) fl s ops _ _ = _
   unfold xDraw
   rw [hb]
   simp only [cond_true, h1]
   rfl
 | .rangeFunc f ps assign body => by
  unfold comp
  rw [zh, zo]
  exact range_k hfn f ps assign body
 | .bad => fun fl rd kn kx kr a ds h nx r hr => by cases hr
theorem jp {fl : Nat} {res : List LRes} {k : Kv} {a : HAct} {σ : HS} {r : HV × HS} (hn : a.nt = nt) (hr : leaveK fl nt res k a.tmps a.defers σ.h σ.nx = some r) : ∃ v σ', leaveH fl a res σ = some (v, σ') ∧ k v σ'.h σ'.nx = some r := by
 unfold leaveK at hr
 have ea : (⟨nt, a.tmps, a.defers⟩ : HAct) = a := by rw [← hn]
 rw [ea] at hr
 split at hr
 ·rename_i v σ' h1; exact ⟨v, σ', h1, hr⟩
 ·cases hr
theorem both_k : ∀ n, (∀ f, KfOk lp ((bothK lp n).1 f).run f) ∧ KrOk lp (bothK lp n).2
 | 0 => ⟨fun f fl args h nx k r hr => (by cases hr), fun fl l args h nx k r hr => (by cases hr)⟩
 | n + 1 => by
  obtain ⟨hfn, hro⟩ := both_k n
  have hco : ∀ nt c, KcOk lp nt (comp (compOp lp (bothK lp n).1 (bothK lp n).2 nt) (bothK lp n).1 nt c).run c := fun nt c => yo (fun o => op_ok hfn hro o) hfn c
  refine ⟨fun f fl args h nx k r hr => ?_, round_k hco⟩
  unfold bothK at hr
  dsimp only at hr
  split at hr
  ·cases hr
  ·rename_i lf hlf
   split at hr
   ·rename_i g hg
    rw [zo] at hr
    unfold specK at hr
    split at hr
    ·rename_i v σ h1
     cases hb : Nat.ble nx σ.nx with
     | false => rw [hb] at hr; cases hr
     | true =>
      rw [hb] at hr
      refine ⟨0, v, σ, ?_, hr⟩
      unfold callF
      rw [hlf]
      simp only [hg]
      unfold specH
      rw [h1]
      simp only [hb, cond_true]
    ·cases hr
   rename_i hsp
   rw [zh] at hr
   have run : ∀ (fl0 : Nat) (k0 : Kv), (bif Nat.ble args.length lf.nt then (comp (compOp lp (bothK lp n).1 (bothK lp n).2 lf.nt) (bothK lp n).1 lf.nt lf.body).run fl0 none (leaveK fl0 lf.nt lf.res k0) (fun _ _ _ _ _ => none) (leaveK fl0 lf.nt lf.res k0) (putAll .e 0 args) [] h nx else none) = some r →
     ∃ m v σ', callB (exec lp m) fl0 lf args ⟨h, nx⟩ = some (v, σ') ∧ k0 v σ'.h σ'.nx = some r := by
    intro fl0 k0 hr
    cases hb : Nat.ble args.length lf.nt with
    | false => rw [hb] at hr; cases hr
    | true =>
     rw [hb] at hr
     simp only [cond_true] at hr
     have hmx : Nat.max lf.nt args.length = lf.nt := Nat.max_eq_left (Nat.le_of_ble_eq_true hb)
     obtain ⟨m, e, a', σ', h1, h2, h3⟩ := hco lf.nt lf.body fl0 none _ _ _ _ _ _ _ r hr
     cases e with
     | normal =>
      obtain ⟨v, σ'', g1, g2⟩ := jp h2 h3
      refine ⟨m, v, σ'', ?_, g2⟩
      unfold callB
      rw [hmx, h1]
      exact g1
     | exit id => cases h3
     | ret =>
      obtain ⟨v, σ'', g1, g2⟩ := jp h2 h3
      refine ⟨m, v, σ'', ?_, g2⟩
      unfold callB
      rw [hmx, h1]
      exact g1
   unfold enterK at hr
   cases hi : lf.imp with
   | true =>
    rw [hi] at hr
    simp only [cond_true] at hr
    rw [zo] at hr
    obtain ⟨m, v, σ', g1, g2⟩ := run fl k hr
    refine ⟨m, v, σ', ?_, g2⟩
    unfold callF
    rw [hlf]
    simp only [hsp, hi, cond_true]
    exact g1
   | false =>
    rw [hi] at hr
    simp only [cond_false] at hr
    rw [zo] at hr
    obtain ⟨m, v, σ', g1, g2⟩ := run nx (gcK h nx k) hr
    refine ⟨m, v, gcH ⟨h, nx⟩ σ' v, ?_, g2⟩
    unfold callF
    rw [hlf]
    simp only [hsp, hi, cond_false, g1]
theorem fn_k (n f : Nat) : KfOk lp ((fnK lp n f).run) f := (both_k n).1 f
theorem c_of_k {n f : Nat} {args : List HV} {h : Tr HBlk} {nx : Nat} {Q : HV → HS → Prop} {k : Kv} {r : HV × HS} (hr : (fnK lp n f).run 0 args h nx k = some r) (hk : ∀ v h nx, k v h nx = some r → Q v ⟨h, nx⟩) : C lp 0 f args ⟨h, nx⟩ Q := by
 obtain ⟨m, v, σ', h1, h2⟩ := fn_k n f 0 args h nx k r hr
 exact ⟨m, v, σ', h1, hk _ _ _ h2⟩
end Go.Hx

namespace Go.Hx
theorem mixed : (Go.Proofs.Try.prog).follows .mixedOrders = true := by kernel_rfl
noncomputable def endK0 : Kv := fun v _ _ => some (v, ⟨.e, 0⟩)
theorem jJ {lp : Nat → Option ze} {n f : Nat} (hr : (fnK lp n f).run 0 [] .e 0 endK0 = some (.bool true, ⟨.e, 0⟩)) : C lp 0 f [] ⟨.e, 0⟩ (fun v _ => v = .bool true) :=
 c_of_k hr fun v h nx hk => by unfold endK0 at hk; cases hk; rfl
theorem closed20 : C LP 0 20 [] ⟨.e, 0⟩ (fun v _ => v = .bool true) := jJ (n := 400) (by kernel_rfl)
end Go.Hx

namespace Go.Hx
variable {lp : Nat → Option ze} {fl : Nat} {rd : Option Nat} {Q : HExit → HAct → HS → Prop} {N : HAct → HS → Prop} {a : HAct} {σ σ' : HS}
noncomputable def enter (nt : Nat) (args : List HV) : HAct := ⟨nt, putAll .e 0 args, []⟩
end Go.Hx

namespace Go.Hx
variable {lp : Nat → Option ze} {fl : Nat} {rd : Option Nat} {Q : HExit → HAct → HS → Prop} {N : HAct → HS → Prop} {a : HAct} {h : Tr HBlk} {nx : Nat} {os : List zb} {dst : Option Nat} {anc : List Nat}
abbrev i64 (n : Int) : HV := .int .i64 n
def Fin (σ0 : HS) (res : List LRes) (K : HV → HS → Prop) : HExit → HAct → HS → Prop := fun e a σ' => match e with | .exit _ => False | _ => ∃ v σ'', leaveH σ0.nx a res σ' = some (v, σ'') ∧ K v (gcH σ0 σ'' v)
def Own : BK → Prop
 | .ro => False
 | _ => True
attribute [irreducible] Fin
end Go.Hx

namespace Go.Hx
variable {lp : Nat → Option ze} {fl : Nat} {rd : Option Nat} {Q : HExit → HAct → HS → Prop} {N : HAct → HS → Prop} {a : HAct} {h : Tr HBlk} {nx : Nat} {os : List zb} {dst : Option Nat} {anc : List Nat}
def D (h : Tr HBlk) (nx : Nat) : Prop := ∀ b, nx ≤ b → h.get b = none
def NilD (done : List (Nat × List (Nat × HBlk))) : Prop := ∀ p ∈ done, p.2 = []
def DR (lp : Nat → Option ze) (fl s : Nat) (os : List zb) (i : Nat) (N : HAct → HS → Prop) (a : HAct) (h : Tr HBlk) (nx : Nat) : Prop :=
 fl ≤ nx → D h nx → ∀ n0 done, NilD done → ∃ n a' σ', drawOps lp (exec lp n) fl s n0 h os i done a nx = some (a', σ') ∧ N a' σ'
def DP (lp : Nat → Option ze) (fl s : Nat) (os : List zb) (i : Nat) (N : HAct → HS → Prop) (h : Tr HBlk) (nx : Nat) : HAct → HS → Prop := fun a' σ' => ∃ n', nx ≤ n' ∧ σ' = ⟨h, n'⟩ ∧ DR lp fl s os i N a' h n'
def DL (lp : Nat → Option ze) (fl : Nat) (os : List zb) (N : HAct → HS → Prop) (h : Tr HBlk) (nx : Nat) : HAct → HS → Prop := fun a' σ' => ∃ x, σ' = ⟨h.set nx (some x), nx + 1⟩ ∧ R lp fl os N a' σ'
def Fim (fl : Nat) (res : List LRes) (K : HV → HS → Prop) : HExit → HAct → HS → Prop := fun e a σ' => match e with | .exit _ => False | _ => ∃ v σ'', leaveH fl a res σ' = some (v, σ'') ∧ K v σ''
variable {f : Lo} {xs : List Lo} {k : Nat} {first captured args : List HV}
def Row {α : Type} (enc : α → List HV) (sz : Nat) (h : Tr HBlk) (nx : Nat) (p : Option (Nat × Nat)) (l : List α) : Prop :=
 l ≠ [] → ∃ b o cs k, p = some (b, o) ∧ b < nx ∧ h.get b = some (.cells cs k) ∧ ∀ i x, l[i]? = some x → takeN sz (cs.drop (o + i * sz)) = some (enc x)
attribute [irreducible] D DR DP DL Fim
end Go.Hx

namespace Go.Hx
variable {lp : Nat → Option ze} {fl : Nat} {rd : Option Nat} {Q : HExit → HAct → HS → Prop} {N : HAct → HS → Prop} {a : HAct} {h : Tr HBlk} {nx : Nat} {os : List zb} {dst : Option Nat} {anc : List Nat}
end Go.Hx
namespace Go.Hx
end Go.Hx

namespace Go.Hx
variable {lp : Nat → Option ze} {fl : Nat} {N : HAct → HS → Prop} {a : HAct} {h : Tr HBlk} {nx : Nat} {os : List zb} {dst : Option Nat} {anc : List Nat} {size bytes : Nat}
end Go.Hx

namespace Go.Hx
structure Ext (h : Tr HBlk) (nx : Nat) (h' : Tr HBlk) (n' : Nat) : Prop where
 le : nx ≤ n'
 d : D h' n'
 same : ∀ b, b < nx → h'.get b = h.get b
def Out {α : Type} (enc : α → List HV) (sz n0 : Nat) (h : Tr HBlk) (nx : Nat) (v : HV) (l : List α) : Prop :=
 (l = [] ∧ v = .slice none 0 0) ∨ ∃ b, n0 ≤ b ∧ b < nx ∧ v = .slice (some (b, 0)) l.length l.length ∧ h.get b = some (.cells (l.flatMap enc) (.opn sz))
end Go.Hx

namespace Go.Hx
open Go.RowKit
variable {P : Program}
section
variable {H : Type} {enc : TypeId × Value → H} {w : World} {base : Nat} {spare : Nat → Bool} {held : Bool}
end
structure Slot where
 cs : List HV
 ri : RI
noncomputable def laid : Nat → List (Option Slot) → Tr HBlk → Tr HBlk
 | _, [], h => h
 | k, none :: ss, h => laid (k + 1) ss h
 | k, some s :: ss, h => laid (k + 1) ss (h.set k (some (.cells s.cs .ro)))
noncomputable def lay (ss : List (Option Slot)) : Tr HBlk := laid 0 ss .e
end Go.Hx

namespace Go.Hx
variable {lp : Nat → Option ze} {fl : Nat} {N : HAct → HS → Prop} {a : HAct} {h : Tr HBlk} {nx : Nat} {os : List zb} {dst : Option Nat} {anc : List Nat}
end Go.Hx

namespace Go.Hx
end Go.Hx

namespace Go.Hx
variable {lp : Nat → Option ze} {fl : Nat} {N : HAct → HS → Prop} {a : HAct} {h : Tr HBlk} {nx : Nat} {os : List zb}
end Go.Hx

namespace Go.Hx
variable {lp : Nat → Option ze} {fl : Nat} {rd : Option Nat} {Q : HExit → HAct → HS → Prop} {N : HAct → HS → Prop} {a : HAct} {h0 h : Tr HBlk} {nx s n0 i : Nat} {os : List zb} {done : List (Nat × List (Nat × HBlk))}
def DG (lp : Nat → Option ze) (fl s n0 : Nat) (h0 : Tr HBlk) (os : List zb) (i : Nat) (done : List (Nat × List (Nat × HBlk))) (N : HAct → HS → Prop) (a : HAct) (nx : Nat) : Prop :=
 ∃ n a' σ', drawOps lp (exec lp n) fl s n0 h0 os i done a nx = some (a', σ') ∧ N a' σ'
def DN (lp : Nat → Option ze) (fl s n0 : Nat) (h0 : Tr HBlk) (os : List zb) (i : Nat) (done : List (Nat × List (Nat × HBlk))) (nx : Nat) (N : HAct → HS → Prop) : HAct → HS → Prop := fun a' σ' =>
 (σ'.nx = nx ∧ DG lp fl s n0 h0 os (i + 1) done N a' nx) ∨ ∃ x, σ'.nx = nx + 1 ∧ σ'.h.get nx = some x ∧ DG lp fl s n0 h0 os (i + 1) ((i, [(nx, x)]) :: done) N a' (nx + 1)
attribute [irreducible] DG DN
end Go.Hx

namespace Go.Hx
variable {lp : Nat → Option ze} {fl : Nat} {N : HAct → HS → Prop} {a : HAct} {h : Tr HBlk} {nx : Nat} {os : List zb} {dst : Option Nat} {anc : List Nat}
end Go.Hx

namespace Go.Hx
variable {lp : Nat → Option ze} {fl : Nat} {rd : Option Nat} {Q : HExit → HAct → HS → Prop} {N : HAct → HS → Prop} {a : HAct} {h0 h : Tr HBlk} {nx s n0 i : Nat} {os : List zb} {done : List (Nat × List (Nat × HBlk))}
def DX (lp : Nat → Option ze) (fl s n0 : Nat) (h0 : Tr HBlk) (os : List zb) (i : Nat) (done : List (Nat × List (Nat × HBlk))) (nx : Nat) (N : HAct → HS → Prop) : HAct → HS → Prop := fun a' σ' =>
 (σ'.nx = nx ∧ DG lp fl s n0 h0 os (i + 1) done N a' nx) ∨ (∃ x, σ'.nx = nx + 1 ∧ σ'.h.get nx = some x ∧ DG lp fl s n0 h0 os (i + 1) ((i, [(nx, x)]) :: done) N a' (nx + 1)) ∨ (nx ≤ σ'.nx ∧ (∀ b, nx ≤ b → σ'.h.get b = none) ∧ DG lp fl s n0 h0 os (i + 1) done N a' σ'.nx) ∨ (nx ≤ σ'.nx ∧ DG lp fl s n0 h0 os (i + 1) ((i, newFrom σ'.h nx (σ'.nx - nx)) :: done) N a' σ'.nx)
noncomputable def mf (f : Nat → Bool) : Tr HBlk → List (Nat × List (Nat × HBlk)) → Tr HBlk
 | h, [] => h
 | h, (j, l) :: ds => mf f (bif f j then addAll h l else h) ds
def DW (lp : Nat → Option ze) (fl s n0 : Nat) (h0 : Tr HBlk) (os : List zb) (i : Nat) (anc : List Nat) (done : List (Nat × List (Nat × HBlk))) (nx : Nat) (N : HAct → HS → Prop) : HAct → HS → Prop := fun a' σ' =>
 nx ≤ σ'.nx ∧ DG lp fl s n0 h0 os (i + 1) ((i, newFrom σ'.h n0 (σ'.nx - n0)) :: dropAll anc done) N a' σ'.nx
attribute [irreducible] DX DW
end Go.Hx

namespace Go.Hx
variable {lp : Nat → Option ze} {fl : Nat} {Q : HExit → HAct → HS → Prop} {N : HAct → HS → Prop} {a : HAct} {h : Tr HBlk} {nx : Nat} {os : List zb} {dst : Option Nat} {anc : List Nat}
end Go.Hx

namespace Go.Hx.V
abbrev PH := Nat → Option HBlk
def PH.le (F G : PH) : Prop := ∀ b x, F b = some x → G b = some x
def PH.sub (F : PH) (h : Tr HBlk) : Prop := ∀ b x, F b = some x → h.get b = some x
abbrev Rel (α : Type) := PH → α → List HV → Prop
class OkR {α : Type} (rel : Rel α) (sz : outParam Nat) : Prop where
 mono : ∀ {F G : PH} {x r}, PH.le F G → rel F x r → rel G x r
 len : ∀ {F x r}, rel F x r → r.length = sz
 one : ∀ {F x r}, rel F x r → r.all HV.one = true
def rI : Rel Int := fun _ x r => r = [i64 x]
def rK (k : IntKind) : Rel Int := fun _ x r => r = [.int k x]
def rB : Rel Bool := fun _ x r => r = [.bool x]
def rU : Rel Unit := fun _ _ r => r = []
def rP {α β : Type} (a : Rel α) (b : Rel β) : Rel (α × β) := fun F x r => ∃ r1 r2, r = r1 ++ r2 ∧ a F x.1 r1 ∧ b F x.2 r2
def RowF {α : Type} (rel : Rel α) (sz : Nat) (F : PH) (p : Option (Nat × Nat)) (c : Nat) (l : List α) : Prop :=
 l.length ≤ c ∧ (l ≠ [] → ∃ b o cs k, p = some (b, o) ∧ F b = some (.cells cs k) ∧ ∀ i x, l[i]? = some x → ∃ r, takeN sz (cs.drop (o + i * sz)) = some r ∧ rel F x r)
def rL {α : Type} (rel : Rel α) (sz : Nat) : Rel (List α) := fun F l r => ∃ p c, r = [.slice p l.length c] ∧ RowF rel sz F p c l
def LR {α : Type} (rel : Rel α) (sz : Nat) (F : PH) (l : List α) (cs : List HV) : Prop := cs.length = l.length * sz ∧ ∀ i x, l[i]? = some x → ∃ r, takeN sz (cs.drop (i * sz)) = some r ∧ rel F x r
def rA {α : Type} (n : Nat) (rel : Rel α) (sz : Nat) : Rel (List α) := fun F l r => l.length = n ∧ LR rel sz F l r ∧ r.all HV.one = true
theorem RowF.mono {α : Type} {rel : Rel α} {sz : Nat} [OkR rel sz] {F G : PH} {p : Option (Nat × Nat)} {c : Nat} {l : List α} (h : PH.le F G) (hr : RowF rel sz F p c l) : RowF rel sz G p c l := ⟨hr.1, fun hne => by
 obtain ⟨b, o, cs, k, h1, h2, h3⟩ := hr.2 hne
 refine ⟨b, o, cs, k, h1, h _ _ h2, fun i x hx => ?_⟩
 obtain ⟨r, g1, g2⟩ := h3 i x hx
 exact ⟨r, g1, OkR.mono h g2⟩⟩
theorem LR.mono {α : Type} {rel : Rel α} {sz : Nat} [OkR rel sz] {F G : PH} {l : List α} {cs : List HV} (h : PH.le F G) (hr : LR rel sz F l cs) : LR rel sz G l cs := by
 refine ⟨hr.1, fun i x hx => ?_⟩
 obtain ⟨r, g1, g2⟩ := hr.2 i x hx
 exact ⟨r, g1, OkR.mono h g2⟩
instance : OkR rI 1 := ⟨fun _ h => h, fun h => by rw [h]; rfl, fun h => by rw [h]; rfl⟩
instance {k : IntKind} : OkR (rK k) 1 := ⟨fun _ h => h, fun h => by rw [h]; rfl, fun h => by rw [h]; rfl⟩
instance : OkR rB 1 := ⟨fun _ h => h, fun h => by rw [h]; rfl, fun h => by rw [h]; rfl⟩
instance : OkR rU 0 := ⟨fun _ h => h, fun h => by rw [h]; rfl, fun h => by rw [h]; rfl⟩
instance {α β : Type} {a : Rel α} {b : Rel β} {m n : Nat} [OkR a m] [OkR b n] : OkR (rP a b) (m + n) where
 mono h := fun ⟨r1, r2, e, g1, g2⟩ => ⟨r1, r2, e, OkR.mono h g1, OkR.mono h g2⟩
 len := fun ⟨r1, r2, e, g1, g2⟩ => by rw [e, List.length_append, OkR.len g1, OkR.len g2]
 one := fun ⟨r1, r2, e, g1, g2⟩ => by rw [e, List.all_append, OkR.one g1, OkR.one g2]; rfl
instance {α : Type} {a : Rel α} {m : Nat} [OkR a m] : OkR (rL a m) 1 where
 mono h := fun ⟨p, c, e, g⟩ => ⟨p, c, e, g.mono h⟩
 len := fun ⟨p, c, e, g⟩ => by rw [e]; rfl
 one := fun ⟨p, c, e, g⟩ => by rw [e]; rfl
instance : OkR (rP rI rI) 2 := inferInstanceAs (OkR (rP rI rI) (1 + 1))
instance : OkR (rP rI (rP rI rI)) 3 := inferInstanceAs (OkR (rP rI (rP rI rI)) (1 + 2))
instance : OkR (rP rI (rP rI (rP rI rI))) 4 := inferInstanceAs (OkR (rP rI (rP rI (rP rI rI))) (1 + 3))
instance {α : Type} {a : Rel α} {m n : Nat} [OkR a m] : OkR (rA n a m) (n * m) where
 mono h := fun ⟨e, g, o⟩ => ⟨e, g.mono h, o⟩
 len := fun ⟨e, g, o⟩ => by rw [g.1, e]
 one := fun ⟨e, g, o⟩ => o
theorem LR.nil {α : Type} {rel : Rel α} {sz : Nat} {F : PH} : LR rel sz F [] [] := ⟨by simp, fun i x h => by simp at h⟩
inductive LE where
 | bx (b : Nat) (cs : List HV)
 | ls (o : Option Nat) (c : Nat) (cs : List HV) (sz : Nat)
 | any (b : Nat) (x : HBlk)
 | mks (ds : List Nat)
def LE.os : LE → List Nat
 | .bx b _ => [b]
 | .ls o _ _ _ => o.toList
 | .any b _ => [b]
 | .mks ds => ds
def LE.ok (n0 nx : Nat) (h : Tr HBlk) : LE → Prop
 | .bx b cs => n0 ≤ b ∧ b < nx ∧ h.get b = some (.cells cs .exact)
 | .ls none c cs sz => cs = [] ∧ c = 0
 | .ls (some b) c cs sz => n0 ≤ b ∧ b < nx ∧ ((h.get b = some (.cells cs (.opn sz)) ∧ cs.length = c * sz) ∨ ∃ rest, h.get b = some (.cells (cs ++ rest) .exact) ∧ (cs ++ rest).length = c * sz)
 | .any b x => n0 ≤ b ∧ b < nx ∧ h.get b = some x
 | .mks ds => ds.Nodup ∧ ∀ b ∈ ds, n0 ≤ b ∧ b < nx ∧ h.get b = some .marks
structure St (n0 : Nat) (h0 : Tr HBlk) (F0 F : PH) (h : Tr HBlk) (nx : Nat) (L : List LE) : Prop where
 ext : Ext h0 n0 h nx
 sub : F.sub h
 le : PH.le F0 F
 lo : ∀ b, b < n0 → F b = F0 b
 off : ∀ e ∈ L, ∀ b, b ∈ e.os → F b = none
 own : ∀ e ∈ L, e.ok n0 nx h
 dist : L.Pairwise fun e e' => ∀ b, b ∈ e.os → b ∉ e'.os
section
variable {n0 nx : Nat} {h0 h : Tr HBlk} {F0 F : PH} {L : List LE}
def slv (o : Option Nat) (n c : Nat) : HV := .slice (o.map fun b => (b, 0)) n c
end
end Go.Hx.V

namespace Go.Hx.V
open Go.Hx
section
variable {n0 nx : Nat} {h0 h : Tr HBlk} {F0 F : PH} {L : List LE}
noncomputable def all (h : Tr HBlk) : PH := fun b => h.get b
end
structure Dw (n1 nx : Nat) (h1 : Tr HBlk) (done : List (Nat × List (Nat × HBlk))) (V : List (Nat × PH)) : Prop where
 le : n1 ≤ nx
 bd : ∀ e ∈ V, ∀ b x, e.2 b = some x → n1 ≤ b ∧ b < nx
 vis : ∀ (f : Nat → Bool) g, ∀ e ∈ V, f e.1 = true → ∀ b x, e.2 b = some x → (mf f g done).get b = some x
 out : ∀ (f : Nat → Bool) g b, b < n1 ∨ nx ≤ b → (mf f g done).get b = g.get b
 hid : ∀ (f : Nat → Bool) g, ∀ e ∈ V, f e.1 = false → ∀ b x, e.2 b = some x → (mf f g done).get b = g.get b
 dis : V.Pairwise fun e e' => ∀ b x, e.2 b = some x → e'.2 b = none
 idx : ∀ p ∈ done, ∃ e ∈ V, e.1 = p.1
structure Vw (n1 nx : Nat) (h1 hm : Tr HBlk) (A : List Nat) (V : List (Nat × PH)) : Prop where
 le : n1 ≤ nx
 low : ∀ b, b < n1 → hm.get b = h1.get b
 d : D hm nx
 vis : ∀ e ∈ V, A.contains e.1 = true → PH.sub e.2 hm
section
variable {lp : Nat → Option ze} {fl : Nat} {rd : Option Nat} {Q : HExit → HAct → HS → Prop} {N : HAct → HS → Prop} {a : HAct} {h1 hm : Tr HBlk} {nx s n1 i : Nat} {os : List zb} {done : List (Nat × List (Nat × HBlk))} {V : List (Nat × PH)}
def one (b : Nat) (x : HBlk) : PH := fun c => if c = b then some x else none
end
end Go.Hx.V

namespace Go.Hx.V
open Go.Hx
noncomputable def lo (T : Tr HV) : Lo → HV
 | .t n => (T.get n).getD .undef
 | .c v => v
theorem zW {nt : Nat} {T : Tr HV} {ds : List Nat} (x : Lo) : (HAct.mk nt T ds).ev x = lo T x := by cases x <;> rfl
def rng (x : Int) : Prop := -9223372036854775808 ≤ x ∧ x < 9223372036854775808
instance (x : Int) : Decidable (rng x) := by unfold rng; infer_instance
theorem inj {α : Type} {x y : α} (h : some x = some y) : x = y := Option.some.inj h
section
variable {lp : Nat → Option ze} {fl : Nat} {rd : Option Nat} {Q : HExit → HAct → HS → Prop} {N : HAct → HS → Prop} {nt d : Nat} {T : Tr HV} {ds : List Nat} {σ : HS} {h : Tr HBlk} {nx : Nat} {os : List zb} {anc : List Nat}
end
end Go.Hx.V

namespace Go.Hx.V
open Go.Hx
section
variable {lp : Nat → Option ze} {fl : Nat} {rd : Option Nat} {Q : HExit → HAct → HS → Prop} {N : HAct → HS → Prop} {nt d : Nat} {T : Tr HV} {ds : List Nat} {σ : HS} {h : Tr HBlk} {nx : Nat} {os : List zb} {anc : List Nat}
inductive Evs (T : Tr HV) : List Lo → List HV → Prop where
 | nil : Evs T [] []
 | cons {x : Lo} {xs : List Lo} {v : HV} {vs : List HV} (hx : lo T x = v) (hs : Evs T xs vs) : Evs T (x :: xs) (v :: vs)
inductive Evp (T : Tr HV) : List (Nat × Nat × Lo) → List (Nat × Nat × HV) → Prop where
 | nil : Evp T [] []
 | cons {x : Lo} {o s : Nat} {xs : List (Nat × Nat × Lo)} {v : HV} {vs : List (Nat × Nat × HV)} (hx : lo T x = v) (hs : Evp T xs vs) : Evp T ((o, s, x) :: xs) ((o, s, v) :: vs)
inductive Res (T : Tr HV) (h : Tr HBlk) : List LRes → List HV → Prop where
 | nil : Res T h [] []
 | t {n : Nat} {v : HV} {rs : List LRes} {vs : List HV} (hv : T.get n = some v) (hr : Res T h rs vs) : Res T h (.t n :: rs) (v :: vs)
 | c {t b o n : Nat} {cs us : List HV} {k : BK} {rs : List LRes} {vs : List HV} (hv : T.get t = some (.ptr (some (b, o)))) (hg : h.get b = some (.cells cs k)) (hc : takeN n (cs.drop o) = some us) (hr : Res T h rs vs) : Res T h (.cell t true n :: rs) (.agg us :: vs)
 | c1 {t b o : Nat} {cs : List HV} {u : HV} {k : BK} {rs : List LRes} {vs : List HV} (hv : T.get t = some (.ptr (some (b, o)))) (hg : h.get b = some (.cells cs k)) (hc : cs[o]? = some u) (hr : Res T h rs vs) : Res T h (.cell t false 1 :: rs) (u :: vs)
end
end Go.Hx.V

namespace Go.Hx.V
open Go.Hx
section
variable {lp : Nat → Option ze} {fl : Nat} {rd : Option Nat} {Q : HExit → HAct → HS → Prop} {N : HAct → HS → Prop} {nt d : Nat} {T : Tr HV} {ds : List Nat} {σ : HS} {h : Tr HBlk} {nx : Nat} {os : List zb} {anc : List Nat}
theorem yb : ∀ (vs : List HV) (T : Tr HV) (i j : Nat), (putAll T i vs).get j = if i ≤ j ∧ j < i + vs.length then vs[j - i]? else T.get j
 | [], T, i, j => by rw [if_neg (by simp)]; rfl
 | v :: vs, T, i, j => by
  show (putAll (T.set i (some v)) (i + 1) vs).get j = _
  rw [yb vs _ (i + 1) j]
  by_cases e : i = j
  ·subst e
   rw [if_neg (by omega), if_pos (by simp), Tr.get_set, if_pos rfl]; simp
  ·by_cases g : i + 1 ≤ j ∧ j < i + 1 + vs.length
   ·rw [if_pos g, if_pos ⟨by omega, by simp; omega⟩, show j - i = (j - (i + 1)) + 1 by omega, List.getElem?_cons_succ]
   ·rw [if_neg g, if_neg (by rintro ⟨q1, q2⟩; simp at q2; omega), Tr.get_set, if_neg (fun h => e h.symm)]
inductive Lay (n' : Nat) (h' : Tr HBlk) : Nat → List (Nat × List HV) → Prop where
 | nil {lo : Nat} (hl : lo ≤ n') : Lay n' h' lo []
 | cons {lo b : Nat} {cs : List HV} {E : List (Nat × List HV)} (hb : lo ≤ b) (hg : h'.get b = some (.cells cs .exact)) (hs : Lay n' h' (b + 1) E) : Lay n' h' lo ((b, cs) :: E)
variable {h1 : Tr HBlk} {s n1 i : Nat} {done : List (Nat × List (Nat × HBlk))} {V : List (Nat × PH)} {T' : Tr HV}
end
end Go.Hx.V

namespace Go.Hx.V
open Go.Hx
def FF (F : PH) (W : List (Nat × PH)) (f : Nat → Bool) : PH := fun b =>
 match F b with
 | some x => some x
 | none => W.findSome? fun e => if f e.1 then e.2 b else none
structure Wf (F : PH) (n1 : Nat) (V W : List (Nat × PH)) : Prop where
 sub : W.Sublist V
 dom : ∀ b x, F b = some x → b < n1
section
variable {lp : Nat → Option ze} {fl : Nat} {rd : Option Nat} {Q : HExit → HAct → HS → Prop} {N : HAct → HS → Prop} {nt d : Nat} {T : Tr HV} {ds : List Nat} {os : List zb}
variable {h1 hm h0 : Tr HBlk} {nx s n1 n0 i : Nat} {done : List (Nat × List (Nat × HBlk))} {V W : List (Nat × PH)} {F F0 : PH} {L : List LE}
end
end Go.Hx.V

namespace Go.Hx.V
open Go.Hx
section
variable {lp : Nat → Option ze} {fl : Nat} {rd : Option Nat} {Q : HExit → HAct → HS → Prop} {N : HAct → HS → Prop} {nt d : Nat} {T : Tr HV} {ds : List Nat} {os : List zb} {σ : HS} {anc : List Nat}
variable {h h0 : Tr HBlk} {nx n0 : Nat} {F F0 : PH} {L : List LE}
end
end Go.Hx.V

namespace Go.Hx
noncomputable section
def spWakes : List HV → HS → Option (HV × HS)
 | [], σ => some (.bool true, σ)
 | _, _ => none
def LW : Nat → Option ze := withS LP 20 spWakes
end
end Go.Hx

namespace Go.Hx
theorem closed9 : C LW 0 9 [] ⟨.e, 0⟩ (fun v _ => v = .bool true) :=
 c_of_k (n := 600) (lp := LW) (show (fnK LW 600 9).run 0 [] .e 0 endK0 = some (.bool true, ⟨.e, 0⟩) by kernel_rfl) fun v h nx hk => by unfold endK0 at hk; cases hk; rfl
end Go.Hx

namespace Go.Hx
open Go.RowKit
variable {P : Program}
end Go.Hx

namespace Go.Hx
open Go.RowKit Go.ChangeShapes Go.WideShapes Go.ChangeAt
theorem uR : ∀ args σ v σ', spWakes args σ = some (v, σ') → σ' = σ ∧ args.all flat = true ∧ flatV v = true ∧ C LP 0 20 args ⟨.e, 0⟩ (fun v' _ => v' = v) := by
 intro args σ v σ' h
 cases args with
 | nil => cases h; exact ⟨rfl, rfl, rfl, closed20⟩
 | cons a l => cases h
theorem lw_ok : LpOk Go.Proofs.Try.prog LW := withS_ok jo (uQ mixed jo uR)
def e2 (x : Int × Int) : List HV := [i64 x.1, i64 x.2]
def e3 (x : Int × Int × Int) : List HV := [i64 x.1, i64 x.2.1, i64 x.2.2]
def e4 (x : Int × Int × Int × Int) : List HV := [i64 x.1, i64 x.2.1, i64 x.2.2.1, i64 x.2.2.2]
end Go.Hx

