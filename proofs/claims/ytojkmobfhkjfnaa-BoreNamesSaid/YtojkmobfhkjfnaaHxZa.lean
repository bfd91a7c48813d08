/- The plain machine and Go's: regions that draw their order: what holds when some of the operations have been done. -/
import Derived.Test.YtojkmobfhkjfnaaHxZ
set_option linter.all false
namespace Go.Hx
variable {P : Program} {lp : Nat → Option LFunc} {ex : Ex}

structure DInv (P : Program) (lp : Nat → Option LFunc) (ex : Ex) (ops : Array Oper) (fl z : Nat) (σ : HS) (v : Nat → HV) (A : Nat → HAct) (S S' : Nat → HS) (mask : Nat → Nat)
    (base : Nat) (ρ0 : Rho) (W0 : World) (L : Nat → Bool) (A1 : Act) (W : World) (ρ : Rho) (g : Hp) (aL : HAct) : Prop where
  ar : AR ρ aL A1
  nt : aL.nt = (A 0).nt
  df : aL.defers = (A 0).defers
  tm : ∀ t, aL.tmp t = (actL ops v L (A 0) ops.size).tmp t
  fr : ∀ i, i < ops.size → L i = false → ∀ b, (S i).nx ≤ b → b < (S' i).nx → ρ b = none
  post : Post P base fl σ.nx (S ops.size).nx σ.h.get g ρ0 ρ W0 W
  closed : ∀ k, L k = true → ∀ j, (mask k).testBit j = true → L j = true
  hfs : ∀ i, i < ops.size → L i = true → HFS (if i < z then (S i).nx else fl) (S i) (S' i)
  heap : ((∀ b x, σ.h.get b = some x → g b = some x) ∧ (∀ j, j < z → L j = true → ∀ b x, (S j).nx ≤ b → b < (S' j).nx → (S' j).h.get b = some x → g b = some x) ∧
        (∀ i o, z ≤ i → ops[i]? = some o → (lowOper P ops o).op.touches = true → L i = false))
    ∨ ∃ k o, z ≤ k ∧ ops[k]? = some o ∧ (lowOper P ops o).op.touches = true ∧ L k = true ∧ g = (S' k).h.get ∧ ∀ i o, k < i → ops[i]? = some o → (lowOper P ops o).op.touches = true → L i = false

section
variable {ops : Array Oper} {fl z : Nat} {σ : HS} {v : Nat → HV} {A : Nat → HAct} {S S' : Nat → HS} {mask : Nat → Nat} {base : Nat} {ρ0 ρ : Rho} {W0 W : World} {L : Nat → Bool} {A1 : Act} {g : Hp} {aL : HAct}

theorem also_true {L : Nat → Bool} {i j : Nat} : also L i j = true ↔ j = i ∨ L j = true := by
  unfold also
  by_cases e : j = i
  · simp [e]
  · simp [e]
theorem also_false {L : Nat → Bool} {i j : Nat} : also L i j = false ↔ j ≠ i ∧ L j = false := by
  unfold also
  by_cases e : j = i
  · simp [e]
  · simp [e]
/-- One more has been done: what is the same for all sorts of operations. -/
theorem DInv.next (d : DF P lp ex ops fl z σ v A S S' mask) (q : DInv P lp ex ops fl z σ v A S S' mask base ρ0 W0 L A1 W ρ g aL) {i : Nat} {o : Oper} (ho : ops[i]? = some o) (hi : L i = false) (hanc : ∀ j, (mask i).testBit j = true → L j = true)
    {V : Value} {W' : World} {ρ' : Rho} {g' : Hp} (hv : VR ρ' (v i) V) (hp : Post P base fl (S i).nx (S' i).nx g g' ρ ρ' W W') (hf : HFS (if i < z then (S i).nx else fl) (S i) (S' i))
    (hh : ((∀ b x, σ.h.get b = some x → g' b = some x) ∧ (∀ j, j < z → also L i j = true → ∀ b x, (S j).nx ≤ b → b < (S' j).nx → (S' j).h.get b = some x → g' b = some x) ∧
        (∀ i' o, z ≤ i' → ops[i']? = some o → (lowOper P ops o).op.touches = true → also L i i' = false))
    ∨ ∃ k o, z ≤ k ∧ ops[k]? = some o ∧ (lowOper P ops o).op.touches = true ∧ also L i k = true ∧ g' = (S' k).h.get ∧ ∀ i' o, k < i' → ops[i']? = some o → (lowOper P ops o).op.touches = true → also L i i' = false) :
    DInv P lp ex ops fl z σ v A S S' mask base ρ0 W0 (also L i) (A1.put o.dst V) W' ρ' g' (aL.put o.dst (v i)) := by
  have hlt : i < ops.size := (Array.getElem?_eq_some_iff.1 ho).1
  have hn := d.nxt i hlt
  refine ⟨(q.ar.mono hp.ext).put hv _, by rw [put_nt]; exact q.nt, ?_, fun t => ?_, fun j hj hL b h1 h2 => ?_, ?_, fun k hk j hm => ?_, fun j hj hL => ?_, hh⟩
  · rw [← q.df]
    unfold HAct.put
    cases o.dst with
    | none => rfl
    | some t => dsimp only; cases Nat.blt t aL.nt <;> rfl
  · rw [d.done ho hi q.closed, put_tmp, put_tmp, q.tm, q.nt, act_nt]
  · obtain ⟨hne, hL⟩ := also_false.1 hL
    rw [hp.out b]
    · exact q.fr j hj hL b h1 h2
    · have := d.apart hlt hj (fun e => hne e.symm) (b := b)
      by_cases c : b < (S i).nx
      · exact .inl c
      · by_cases c2 : b < (S' i).nx
        · exact (this (by omega) c2 h1 h2).elim
        · exact .inr (by omega)
  · refine q.post.and (hp.wide ?_ ?_)
    · rw [← d.n0]; exact d.mono (Nat.zero_le _) (by omega)
    · rw [← hn.2]; exact d.mono hlt (Nat.le_refl _)
  · rcases also_true.1 hk with rfl | hk
    · exact also_true.2 (.inr (hanc j hm))
    · exact also_true.2 (.inr (q.closed k hk j hm))
  · rcases also_true.1 hL with rfl | hL
    · exact hf
    · exact q.hfs j hj hL
/-- In the zone, up to an operation: what the store itself says. -/
theorem DF.upto (d : DF P lp ex ops fl z σ v A S S' mask) {k : Nat} (hz : z ≤ k) (hk : k ≤ ops.size) (h : ∀ j o, z ≤ j → j < k → ops[j]? = some o → (lowOper P ops o).op.touches = true → HFS fl (S j) (S' j)) : HFS fl σ (S k) := by
  induction k with
  | zero =>
    have e : z = 0 := by omega
    subst e
    refine ⟨by rw [d.n0]; exact Nat.le_refl _, fun b _ _ => d.other b (fun j hj => by omega), fun b _ => d.other b (fun j hj => by omega)⟩
  | succ k ih =>
    by_cases e : z = k + 1
    · rw [← e]
      have hmono : σ.nx ≤ (S z).nx := by rw [← d.n0]; exact d.mono (Nat.zero_le _) (by omega)
      refine ⟨hmono, fun b _ hb => d.other b (fun j hj h1 => ?_), fun b hb => d.other b (fun j hj h1 => ?_)⟩
      · have := d.mono (i := 0) (j := j) (Nat.zero_le _) (by omega)
        rw [d.n0] at this
        omega
      · have := d.mono (i := j + 1) (j := z) (by omega) (by omega)
        have := (d.nxt j (by omega)).2
        omega
    · have hlt : k < ops.size := by omega
      have ho : ops[k]? = some ops[k] := by simp [hlt]
      have ih := ih (by omega) (by omega) (fun j o h1 h2 => h j o h1 (by omega))
      have hs := (d.zone k _ ho (by omega)).2
      rw [hs]
      cases ht : (lowOper P ops ops[k]).op.touches with
      | true => exact ih.trans (h k _ (by omega) (by omega) ho ht)
      | false => rw [d.untouch ho ht]; exact ih
/-- At the zone's begin all that has been laid is there. -/
theorem DInv.begin (d : DF P lp ex ops fl z σ v A S S' mask) (q1 : ∀ b x, σ.h.get b = some x → g b = some x) (q2 : ∀ j, j < z → L j = true → ∀ b x, (S j).nx ≤ b → b < (S' j).nx → (S' j).h.get b = some x → g b = some x)
    (hl : ∀ j o, j < z → ops[j]? = some o → (lowOper P ops o).op.touches = true → L j = true) : ∀ b x, (S z).h.get b = some x → g b = some x := by
  intro b x hx
  rcases d.all b x hx with h | ⟨j, h1, h2, h3, h4⟩
  · exact q1 b x h
  · have hlt : j < ops.size := Nat.lt_of_lt_of_le h1 d.zN
    have ho : ops[j]? = some ops[j] := by simp [hlt]
    cases ht : (lowOper P ops ops[j]).op.touches with
    | true => exact q2 j h1 (hl j _ h1 ho ht) b x h2 h3 h4
    | false =>
      rw [d.untouch ho ht] at h3
      omega
theorem op_done (hlp : LpOk P lp) (hle : ExLe ex) (hex : ExSound P ex) (d : DF P lp ex ops fl z σ v A S S' mask) (hbase : base ≤ W0.heap.size) (q : DInv P lp ex ops fl z σ v A S S' mask base ρ0 W0 L A1 W ρ g aL) {i : Nat} {o : Oper} (ho : ops[i]? = some o) (hi : L i = false) (hanc : ∀ j, (mask i).testBit j = true → L j = true)
    {R : Option Nat} {K : Act → World → Prop} {Q : Exit → Act → World → Prop} (hK : ∀ A1 W ρ g aL, DInv P lp ex ops fl z σ v A S S' mask base ρ0 W0 (also L i) A1 W ρ g aL → K A1 W) : wpOpIn (FR R) 0 P ops Q i K A1 W := by
  have hlt : i < ops.size := (Array.getElem?_eq_some_iff.1 ho).1
  have hn := d.nxt i hlt
  have names : ∀ t ∈ (lowOper P ops o).names, aL.tmp t = (A i).tmp t := fun t ht => by rw [q.tm, d.sees ho hi hanc q.closed ht]
  have low : base ≤ W.heap.size := Nat.le_trans hbase q.post.size
  cases ht : (lowOper P ops o).op.touches with
  | false =>
    obtain ⟨f, hstep⟩ := d.step ho
    obtain ⟨he, hall⟩ := val_untouch ht hstep
    have h1 := hall (S i).nx ⟨.e, (S i).nx⟩
    rw [← val_congr _ names] at h1
    have hin : In P base (⟨.e, (S i).nx⟩ : HS) ⟨.e, (S i).nx⟩ ρ W := ⟨low, q.post.sim.less fun b x hx => (by rw [Tr.get_e] at hx; cases hx), fun b h1 h2 => (by omega)⟩
    have hd : Dom (⟨.e, (S i).nx⟩ : HS) := fun b x hx => by rw [show (⟨.e, (S i).nx⟩ : HS).h = .e from rfl, Tr.get_e] at hx; cases hx
    refine (val_sound hlp hle hex ho h1 hd base ρ A1 W R K Q hin q.ar).2 fun V W' ρ' hv hp => ?_
    have hp' := Post.frame (fl := fl) (g := g) q.post.sim (fun b x hx => by rw [Tr.get_e] at hx; cases hx) rfl hp
    have hg : (fun b => if (S i).nx ≤ b ∧ b < (S i).nx then (Tr.e : Tr HBlk).get b else g b) = g := by
      funext b
      rw [if_neg (by omega)]
    rw [hg] at hp'
    refine hK _ _ ρ' g _ (q.next d ho hi hanc hv (by rw [he]; exact hp') (by rw [he]; exact HF.refl _ _ _) ?_)
    rcases q.heap with ⟨q1, q2, q3⟩ | ⟨k, ok, q1, q2, q3, q4, q5, q6⟩
    · refine .inl ⟨q1, fun j hj hL b x h2 h3 h4 => ?_, fun i' o' hz ho' ht' => also_false.2 ⟨fun e => ?_, q3 i' o' hz ho' ht'⟩⟩
      · rcases also_true.1 hL with rfl | hL
        · rw [he] at h3; omega
        · exact q2 j hj hL b x h2 h3 h4
      · subst e; rw [ho] at ho'; cases ho'; rw [ht] at ht'; cases ht'
    · refine .inr ⟨k, ok, q1, q2, q3, also_true.2 (.inr q4), q5, fun i' o' hk ho' ht' => also_false.2 ⟨fun e => ?_, q6 i' o' hk ho' ht'⟩⟩
      subst e; rw [ho] at ho'; cases ho'; rw [ht] at ht'; cases ht'
  | true =>
    by_cases hz : i < z
    · -- it reads memory, but writes none that was there
      have h1 := d.pure i o ho hz
      rw [← val_congr _ names] at h1
      have pureCase : (∀ b x, σ.h.get b = some x → g b = some x) ∧ (∀ j, j < z → L j = true → ∀ b x, (S j).nx ≤ b → b < (S' j).nx → (S' j).h.get b = some x → g b = some x) ∧
        (∀ i o, z ≤ i → ops[i]? = some o → (lowOper P ops o).op.touches = true → L i = false) := by
        rcases q.heap with h | ⟨k, ok, q1, q2, q3, q4, q5, q6⟩
        · exact h
        · rcases d.ord k ok i o q2 ho (by omega) q1 with h | h | h
          · rw [q.closed k q4 i h] at hi; cases hi
          · rw [h] at ht; cases ht
          · rw [h] at q3; cases q3
      obtain ⟨q1, q2, q3⟩ := pureCase
      have hsub : ∀ b x, (S i).h.get b = some x → g b = some x := fun b x hx => by
        rcases d.from_ i o ho hz b x hx with h | ⟨j, h2, h3, h4, h5, h6⟩
        · exact q1 b x h
        · exact q2 j (by omega) (hanc j h3) b x h4 h5 h6
      have hdom : Dom (S i) := fun b x hx => by
        rcases d.from_ i o ho hz b x hx with h | ⟨j, h2, h3, h4, h5, h6⟩
        · have := d.dom b x h
          have := d.mono (i := 0) (j := i) (Nat.zero_le _) (by omega)
          rw [d.n0] at this
          omega
        · have := (d.nxt j (by omega)).2
          have := d.mono (i := j + 1) (j := i) (by omega) (by omega)
          omega
      have hin : In P base (S i) (S' i) ρ W := ⟨low, q.post.sim.less hsub, q.fr i hlt hi⟩
      obtain ⟨hf, hw⟩ := val_sound hlp hle hex ho h1 hdom base ρ A1 W R K Q hin q.ar
      refine hw fun V W' ρ' hv hp => ?_
      have hp' := Post.frame (fl := fl) (g := g) q.post.sim hdom rfl hp
      refine hK _ _ ρ' _ _ (q.next d ho hi hanc hv hp' (by rw [if_pos hz]; exact hf) (.inl ⟨fun b x hx => ?_, fun j hj hL b x h2 h3 h4 => ?_, fun i' o' hz' ho' ht' => also_false.2 ⟨fun e => by omega, q3 i' o' hz' ho' ht'⟩⟩))
      · have := d.dom b x hx
        have := d.mono (i := 0) (j := i) (Nat.zero_le _) (by omega)
        rw [d.n0] at this
        rw [if_neg (by omega)]
        exact q1 b x hx
      · rcases also_true.1 hL with rfl | hL
        · rw [if_pos ⟨h2, h3⟩]; exact h4
        · rw [if_neg]
          · exact q2 j hj hL b x h2 h3 h4
          · rintro ⟨c1, c2⟩
            refine d.apart hlt (show j < ops.size by have := d.zN; omega) (fun e => ?_) c1 c2 h2 h3
            subst e; rw [hi] at hL; cases hL
    · have hz : z ≤ i := by omega
      obtain ⟨h1, hs1⟩ := d.zone i o ho hz
      rw [← val_congr _ names] at h1
      -- all before it on memory has been done
      have before : ∀ j x, j < i → ops[j]? = some x → (lowOper P ops x).op.touches = true → L j = true := fun j x hj hx htx => by
        rcases d.ord i o j x ho hx hj hz with h | h | h
        · exact hanc j h
        · rw [h] at htx; cases htx
        · rw [h] at ht; cases ht
      have after : ∀ j x, i < j → ops[j]? = some x → (lowOper P ops x).op.touches = true → L j = false := fun j x hj hx htx => by
        rcases d.ord j x i o hx ho hj (by omega) with h | h | h
        · cases hL : L j with
          | false => rfl
          | true => rw [q.closed j hL i h] at hi; cases hi
        · rw [h] at ht; cases ht
        · rw [h] at htx; cases htx
      have hfd : HFS fl σ (S i) := d.upto hz (by omega) fun j x h2 h3 hx htx => by
        have := q.hfs j (by omega) (before j x h3 hx htx)
        rwa [if_neg (by omega)] at this
      have hdom : Dom (S i) := hfd.dom d.dom
      have hsub : ∀ b x, (S i).h.get b = some x → g b = some x := by
        rcases q.heap with ⟨q1, q2, q3⟩ | ⟨k, ok, q1, q2, q3, q4, q5, q6⟩
        · have e : S i = S z := d.still (Nat.le_refl _) hz (by omega) fun j x h2 h3 hx => by
            cases htx : (lowOper P ops x).op.touches with
            | false => rfl
            | true =>
              have c1 := before j x h3 hx htx
              rw [q3 j x h2 hx htx] at c1; cases c1
          rw [e]
          exact DInv.begin d q1 q2 fun j x hj hx htx => before j x (by omega) hx htx
        · have hki : k < i := by
            rcases Nat.lt_or_ge k i with h | h
            · exact h
            · rcases Nat.lt_or_eq_of_le h with h | h
              · rw [after k ok h q2 q3] at q4; cases q4
              · subst h; rw [hi] at q4; cases q4
          have e : S i = S (k + 1) := d.still (by omega) (by omega) (by omega) fun j x h2 h3 hx => by
            cases htx : (lowOper P ops x).op.touches with
            | false => rfl
            | true =>
              have c1 := before j x h3 hx htx
              rw [q6 j x (by omega) hx htx] at c1; cases c1
          rw [e, (d.zone k ok q2 q1).2, q5]
          exact fun b x hx => hx
      have hin : In P base (S i) (S' i) ρ W := ⟨low, q.post.sim.less hsub, q.fr i hlt hi⟩
      obtain ⟨hf, hw⟩ := val_sound hlp hle hex ho h1 hdom base ρ A1 W R K Q hin q.ar
      refine hw fun V W' ρ' hv hp => ?_
      refine hK _ _ ρ' _ _ (q.next d ho hi hanc hv (hp.more hsub) (by rw [if_neg (by omega)]; exact hf) (.inr ⟨i, o, hz, ho, ht, also_true.2 (.inl rfl), rfl, fun i' o' h2 ho' ht' => also_false.2 ⟨by omega, after i' o' h2 ho' ht'⟩⟩))
/-- All has been done. -/
theorem all_done (d : DF P lp ex ops fl z σ v A S S' mask) (q : DInv P lp ex ops fl z σ v A S S' mask base ρ0 W0 L A1 W ρ g aL) (h : ∀ i, i < ops.size → L i = true) :
    HFS fl σ (S ops.size) ∧ PostS P base fl σ (S ops.size) ρ0 ρ W0 W ∧ (AR ρ (A ops.size) A1) := by
  refine ⟨d.upto d.zN (Nat.le_refl _) fun j o h1 h2 _ _ => ?_, ?_, ?_⟩
  · have := q.hfs j h2 (h j h2)
    rwa [if_neg (by omega)] at this
  · refine q.post.less ?_
    rcases q.heap with ⟨q1, q2, q3⟩ | ⟨k, ok, q1, q2, q3, q4, q5, q6⟩
    · have e : S ops.size = S z := d.still (Nat.le_refl _) d.zN (Nat.le_refl _) fun j x h2 h3 hx => by
        cases htx : (lowOper P ops x).op.touches with
        | false => rfl
        | true => have := h j h3; rw [q3 j x h2 hx htx] at this; cases this
      rw [e]
      exact DInv.begin d q1 q2 fun j x hj hx htx => h j (by have := d.zN; omega)
    · have hk : k < ops.size := (Array.getElem?_eq_some_iff.1 q2).1
      have e : S ops.size = S (k + 1) := d.still (by omega) (by omega) (Nat.le_refl _) fun j x h2 h3 hx => by
        cases htx : (lowOper P ops x).op.touches with
        | false => rfl
        | true => have := h j h3; rw [q6 j x (by omega) hx htx] at this; cases this
      rw [e, (d.zone k ok q2 q1).2, q5]
      exact fun b x hx => hx
  · have e := d.done_all h (Nat.le_refl ops.size)
    have hnt := d.act_all_nt (Nat.le_refl ops.size)
    have hdf : ∀ k, k ≤ ops.size → (A k).defers = (A 0).defers := by
      intro k
      induction k with
      | zero => intro _; rfl
      | succ k ih =>
        intro hk
        have hkl : k < ops.size := by omega
        have hok : ops[k]? = some ops[k] := by simp [hkl]
        rw [d.act k _ hok, ← ih (by omega)]
        unfold HAct.put
        cases ops[k].dst with
        | none => rfl
        | some t => dsimp only; cases Nat.blt t (A k).nt <;> rfl
    have tm := q.tm
    rw [e] at tm
    refine ⟨⟨?_, fun t => ?_⟩, ?_, ?_⟩
    · rw [hnt, ← q.nt]; exact q.ar.tmps.1
    · have := q.ar.tmps.2 t
      have e2 := tm t
      unfold HAct.tmp at e2
      rw [← e2]
      exact this
    · rw [hdf _ (Nat.le_refl _), ← q.df]; exact q.ar.defers
    · rw [hdf _ (Nat.le_refl _), ← q.df]; exact q.ar.marks
end
end Go.Hx
