/- The plain machine and Go's: what the plain machine reckons, Go's does: in whatever order is drawn. -/
import Derived.Test.YtojkmobfhkjfnaaHxZa
set_option linter.all false
namespace Go.Hx
variable {P : Program} {lp : Nat → Option LFunc} {ex : Ex}

section
variable {ops : Array Oper} {fl z : Nat} {σ : HS} {v : Nat → HV} {A : Nat → HAct} {S S' : Nat → HS} {mask : Nat → Nat} {base : Nat} {ρ0 : Rho} {W0 : World}

theorem getD_false {l : Array Bool} {i : Nat} (hi : i < l.size) : l.getD i true = l.getD i false := by
  simp [Array.getD_eq_getD_getElem?, hi]
theorem also_set {l : Array Bool} {i : Nat} (hi : i < l.size) : (fun j => (l.setIfInBounds i true).getD j false) = also (fun j => l.getD j false) i := by
  funext j
  unfold also
  simp only [Array.getD_eq_getD_getElem?, Array.getElem?_setIfInBounds]
  by_cases e : i = j
  · subst e; simp [hi]
  · have : j ≠ i := fun h => e h.symm
    simp [e, this]
theorem any_order (hlp : LpOk P lp) (hle : ExLe ex) (hex : ExSound P ex) (d : DF P lp ex ops fl z σ v A S S' mask) (hbase : base ≤ W0.heap.size) {R : Option Nat} {Q : Exit → Act → World → Prop}
    (hQ : ∀ A1 W ρ, HFS fl σ (S ops.size) → PostS P base fl σ (S ops.size) ρ0 ρ W0 W → AR ρ (A ops.size) A1 → Q .normal A1 W) :
    ∀ (n : Nat) (l : Array Bool) (A1 : Act) (W : World) (ρ : Rho) (g : Hp) (aL : HAct), l.size = ops.size → cnt (fun i => l.getD i false) ops.size = n →
      DInv P lp ex ops fl z σ v A S S' mask base ρ0 W0 (fun i => l.getD i false) A1 W ρ g aL → wpAnyIn (FR R) 0 P .any ops Q n l A1 W
  | 0, l, A1, W, ρ, g, aL, hs, hc, q => by
    have h := cnt_zero _ hc
    unfold wpAnyIn
    refine ⟨?_, ?_⟩
    · apply List.eq_nil_iff_forall_not_mem.2
      intro i hi
      obtain ⟨h1, o, ho, _⟩ := mem_ready.1 hi
      have hlt : i < ops.size := (Array.getElem?_eq_some_iff.1 ho).1
      rw [getD_false (by omega), h i hlt] at h1
      cases h1
    · obtain ⟨h1, h2, h3⟩ := all_done d q h
      exact hQ _ _ _ h1 h2 h3
  | n + 1, l, A1, W, ρ, g, aL, hs, hc, q => by
    unfold wpAnyIn
    refine ⟨fun hr => ?_, fun i hi => ?_⟩
    · -- the first one that is not done could be done
      exfalso
      have least : ∀ k, k ≤ ops.size → (∀ i, i < k → l.getD i false = true) ∨ ∃ i, i < k ∧ l.getD i false = false ∧ ∀ j, j < i → l.getD j false = true := by
        intro k
        induction k with
        | zero => intro _; exact .inl fun i hi => by omega
        | succ k ih =>
          intro hk
          rcases ih (by omega) with h | ⟨i, h1, h2, h3⟩
          · cases hL : l.getD k false with
            | true =>
              refine .inl fun i hi => ?_
              by_cases e : i = k
              · rw [e]; exact hL
              · exact h i (by omega)
            | false => exact .inr ⟨k, by omega, hL, h⟩
          · exact .inr ⟨i, by omega, h2, h3⟩
      rcases least ops.size (Nat.le_refl _) with h | ⟨i, h1, h2, h3⟩
      · have : ∀ k, k ≤ ops.size → cnt (fun i => l.getD i false) k = 0 := by
          intro k
          induction k with
          | zero => intro _; rfl
          | succ k ih => intro hk; unfold cnt; rw [ih (by omega), h k (by omega)]; rfl
        rw [this _ (Nat.le_refl _)] at hc
        cases hc
      · have ho : ops[i]? = some ops[i] := by simp [h1]
        have : i ∈ Region.ready .any ops l := mem_ready.2 ⟨by rw [getD_false (by omega)]; exact h2, ops[i], ho, fun e he hb => h3 _ (d.edge i _ ho e he hb)⟩
        rw [hr] at this
        cases this
    · obtain ⟨h1, o, ho, h2⟩ := mem_ready.1 hi
      have hlt : i < ops.size := (Array.getElem?_eq_some_iff.1 ho).1
      rw [getD_false (by omega)] at h1
      have hanc : ∀ j, (mask i).testBit j = true → l.getD j false = true := fun j hj => by
        obtain ⟨e, he, hb, h⟩ := d.anc i o ho j hj
        have h3 := h2 e he hb
        rcases h with rfl | h
        · exact h3
        · exact q.closed e.on h3 j h
      refine op_done hlp hle hex d hbase q ho h1 hanc fun A1 W ρ g aL q' => ?_
      rw [← also_set (by omega)] at q'
      have hc' : cnt (fun j => (l.setIfInBounds i true).getD j false) ops.size = n := by
        rw [also_set (by omega)]
        have := (cnt_also (L := fun j => l.getD j false) (i := i) h1 ops.size).2 hlt
        omega
      exact any_order hlp hle hex d hbase hQ n _ A1 W ρ g aL (by simpa using hs) hc' q'
end

theorem draw_sound (hm : P.follows .mixedOrders = true) (hlp : LpOk P lp) (hle : ExLe ex) (hex : ExSound P ex) : DrawSound P lp ex := by
  intro id ops fl rd a σ e a' σ' h hd
  unfold lowDraw at h
  simp only at h
  obtain ⟨all, hall⟩ : ∃ all, all = ops.toList.map (lowOper P ops) := ⟨_, rfl⟩
  obtain ⟨masks, hmasks⟩ : ∃ masks, masks = masksOf ops.toList [] := ⟨_, rfl⟩
  rw [← hall, ← hmasks] at h
  cases hok : (drawOk all masks all 0 && edgesOks ops.toList 0) with
  | false => rw [hok] at h; cases h
  | true =>
    rw [hok] at h
    simp only [cond_true, xCode] at h
    simp only [Bool.and_eq_true] at hok
    unfold xDraw xNormal at h
    cases hfl : Nat.ble fl σ.nx with
    | false => rw [hfl] at h; cases h
    | true =>
      rw [hfl] at h
      have hfl := Nat.le_of_ble_eq_true hfl
      simp only [cond_true] at h
      split at h
      · rename_i h1
        cases h
        obtain ⟨v, A, S, S', z, e1, e2, e3, e4, t⟩ := draw_trace _ 0 [] a a' σ.nx σ' h1
        have hlen : (withAnc all masks all 0).length = ops.size := by
          have : ∀ (os : List LOper) (k : Nat), (withAnc all masks os k).length = os.length := by
            intro os
            induction os with
            | nil => intro k; rfl
            | cons o os ih => intro k; simp [withAnc, ih]
          rw [this, hall]; simp
        rw [hlen, Nat.zero_add] at e3 e4
        have opAt : ∀ i o, ops[i]? = some o → all[i]? = some (lowOper P ops o) ∧ (withAnc all masks all 0)[i]? = some { lowOper P ops o with anc := bitsOf (masks.getD i 0) all i i } := by
          intro i o ho
          have h1 : all[i]? = some (lowOper P ops o) := by rw [hall]; simp [ho]
          refine ⟨h1, ?_⟩
          rw [anc_at, h1]
          simp
        have zN : z ≤ ops.size := by have := t.hi; omega
        have nxt : ∀ i, i < ops.size → (S i).nx ≤ (S (i + 1)).nx ∧ (S (i + 1)).nx = (S' i).nx := by
          intro i hi
          have ho : ops[i]? = some ops[i] := by simp [hi]
          obtain ⟨_, ho2⟩ := opAt i _ ho
          by_cases hz : i < z
          · have := t.pure i _ ho2 (by omega)
            rw [Nat.zero_add] at this
            omega
          · have := t.zone i _ ho2 (by omega)
            rw [Nat.zero_add] at this
            have h3 := stepVal_le hle this.1
            rw [this.2]
            exact ⟨h3, rfl⟩
        have mono : ∀ i, i ≤ ops.size → σ.nx ≤ (S i).nx := by
          intro i
          induction i with
          | zero => intro _; rw [e2]; exact Nat.le_refl _
          | succ i ih => intro hi; exact Nat.le_trans (ih (by omega)) (nxt i (by omega)).1
        have zs : ∀ i o, ops[i]? = some o → z ≤ i → zoneAt all masks all 0 0 ≤ i := by
          intro i o ho hz
          have hlt : i < ops.size := (Array.getElem?_eq_some_iff.1 ho).1
          have := t.side i (by omega)
          omega
        have d : DF P lp ex ops fl z σ v A S S' (fun i => masks.getD i 0) := by
          refine ⟨zN, hfl, hd, e2, fun i o ho e he hb => ?_, fun i o ho j hj => ?_, fun i o j x ho hx hj => ?_, fun i o j x ho hx hj hz => ?_, fun i o ho => ?_, fun i o ho hz => ?_, nxt, fun i o ho hz b x hx => ?_, fun i o ho hz => ?_, fun b x hx => ?_, fun b hb => ?_⟩
          · have := edges_ok (k := 0) hok.2 (i := i) (o := o) (by simpa using ho) e (by simpa using he) hb
            omega
          · rw [hmasks] at hj ⊢
            obtain ⟨e, h1, h2, h3⟩ := anc_edge (os := ops.toList) (i := i) (o := o) (by simpa using ho) hj
            exact ⟨e, by simpa using h1, h2, h3⟩
          · have := draw_ok hok.1 i _ (opAt i o ho).1 j _ (by omega) (opAt j x hx).1
            rwa [Nat.zero_add] at this
          · have := (zone_at (all := all) (masks := masks) (os := all) (k := 0) (s := 0) (Nat.le_refl _)).2 i _ (opAt i o ho).1 (by have := zs i o ho hz; omega) j _ (by omega) (opAt j x hx).1
            rwa [Nat.zero_add] at this
          · have := t.act i _ (opAt i o ho).2
            rw [Nat.zero_add] at this
            rw [this]
            show (A i).put (lowOper P ops o).dst (v i) = _
            rw [low_dst]
          · have := (t.pure i _ (opAt i o ho).2 (by omega)).1
            rw [Nat.zero_add] at this
            have hmx : Nat.max fl (S i).nx = (S i).nx := by
              have := mono i (by omega)
              exact Nat.max_eq_right (by omega)
            rw [hmx] at this
            exact this
          · have := t.from_ i _ (opAt i o ho).2 (by omega) b x (by rw [Nat.zero_add]; exact hx)
            rcases this with h | ⟨j, l, h, _⟩ | ⟨j, _, h2, h3, h4⟩
            · exact .inl h
            · cases h
            · exact .inr ⟨j, by omega, bits_bit h3, h4⟩
          · have := t.zone i _ (opAt i o ho).2 (by omega)
            rw [Nat.zero_add] at this
            exact this
          · rcases t.all b x hx with h | ⟨j, l, h, _⟩ | ⟨j, _, h2, h3⟩
            · exact .inl h
            · cases h
            · exact .inr ⟨j, h2, h3⟩
          · exact t.other b (fun j l h => by cases h) (fun j _ h2 => hb j h2)
        intro base ρ A0 W R hin ha hrd
        have key : (Code.region id ops true).wpIn (FR R) 0 P (fun E A' W' => HFS fl σ σ' ∧ PQ P base fl σ σ' ρ W .normal a' E A' W') A0 W := by
          refine wpIn_region_any hm ?_
          refine any_order hlp hle hex d (base := base) (ρ0 := ρ) (W0 := W) hin.low ?_ ops.size _ A0 _ ρ σ.h.get a (by simp) ?_ ?_
          · intro A1 W1 ρ1 h1 h2 h3
            rw [e4] at h1 h2
            rw [e3] at h3
            exact ⟨h1, ρ1, h2, rfl, h3⟩
          · refine cnt_none (fun i => ?_) _
            simp only [Array.getD_eq_getD_getElem?, Array.getElem?_replicate]
            split <;> rfl
          · have off : ∀ i, (Array.replicate ops.size false).getD i false = false := by
              intro i
              simp only [Array.getD_eq_getD_getElem?, Array.getElem?_replicate]
              split <;> rfl
            have none : ∀ k, actL ops v (fun i => (Array.replicate ops.size false).getD i false) (A 0) k = A 0 := by
              intro k
              induction k with
              | zero => rfl
              | succ k ih => unfold actL; rw [off k, cond_false, ih]
            have hsim : Sim P base σ.h.get ρ { heap := W.heap, tape := W.tape, drawn := W.drawn + 1, os := W.os, output := W.output } :=
              ⟨fun b x hx => (hin.sim.ok b x hx).keep (Rho.le_refl ρ) fun r _ => rfl, hin.sim.inj⟩
            refine ⟨ha, by rw [e1], by rw [e1], fun t => by rw [none, e1], fun i hi _ b h1 h2 => ?_, ?_, fun k hk => ?_, fun i _ hL => ?_, .inl ⟨fun b x hx => hx, fun j _ hL => ?_, fun i o _ _ _ => off i⟩⟩
            · refine hin.fresh b ?_ ?_
              · have := mono i (by omega); omega
              · have h3 := (nxt i hi).2
                have h4 : (S (i + 1)).nx ≤ (S ops.size).nx := d.mono hi (Nat.le_refl _)
                rw [e4] at h4
                omega
            · exact ⟨fun _ _ h => h, fun _ _ => rfl, hsim, rfl, rfl, rfl, fun _ => rfl, Nat.le_refl _, fun _ _ _ => rfl, fun _ h => .inr h⟩
            · rw [off k] at hk; cases hk
            · rw [off i] at hL; cases hL
            · rw [off j] at hL; cases hL
        obtain ⟨_, _, _, hf, _⟩ := wpIn_some key
        exact ⟨hf, wpIn_mono key fun E A' W' h => h.2⟩
      · cases h

/-! the whole -/
theorem code_sound (hm : P.follows .mixedOrders = true) (hlp : LpOk P lp) : ∀ n, (∀ j, j < n → ExSound P (exec lp j) ∧ ExLe (exec lp j)) → ExSound P (exec lp n) ∧ ExLe (exec lp n)
  | 0, _ => ⟨(fun c fl rd a σ e a' σ' h => by cases h), (fun fl rd lc a σ e a' σ' h => by cases h)⟩
  | n + 1, hall => by
    obtain ⟨hex, hle⟩ := hall n (by omega)
    refine ⟨?_, exec_le n (fun fl s ops a a' σ σ' _ h => draw_le hle fl s ops a a' σ σ' h) hle⟩
    intro c fl rd a σ e a' σ' h hd
    have h0 : exec lp (n + 1) fl rd (lowC P c) a σ = some (e, a', σ') := h
    simp only [exec] at h
    have nothing : ∀ base ρ A W R, In P base σ σ ρ W → AR ρ a A → RdOk ρ rd R → ∀ E : HExit, PQ P base fl σ σ ρ W E a (exitOf E) A W := fun base ρ A W R hin ha _ E => ⟨ρ, Post.refl hin.sim, rfl, ha⟩
    cases c with
    | skip =>
      cases h
      exact fun base ρ A W R hin ha hrd => ⟨HF.refl _ _ _, wpIn_skip (nothing base ρ A W R hin ha hrd .normal)⟩
    | region id ops draw =>
      cases draw with
      | false => exact region_sound hlp hle hex h hd
      | true => exact draw_sound hm hlp hle hex id ops fl rd a σ e a' σ' h hd
    | seq x y => exact seq_sound hle hex h hd
    | cond c x y =>
      simp only [lowC] at h
      split at h
      · rename_i lc hc
        exact cond_sound hex hc h hd
      · cases h
    | block id x => exact block_sound hex h hd
    | loop x =>
      intro base ρ A W R hin ha hrd
      obtain ⟨f1, h2⟩ := loop_sound hlp (c := x) (n + 1) hall h0 hd base ρ A W R hin ha hrd
      exact ⟨f1, wpIn_loop_rounds (n + 1) (h2 _ fun _ _ _ h => h)⟩
    | rangeFunc g ps assign body =>
      simp only [lowC] at h
      split at h
      · rename_i lg hg
        exact range_sound hlp hle hex hg h hd
      · cases h
    | exit id =>
      cases h
      exact fun base ρ A W R hin ha hrd => ⟨HF.refl _ _ _, wpIn_exit (nothing base ρ A W R hin ha hrd (.exit id))⟩
    | scope x => exact scope_sound hex h hd
    | label l =>
      cases h
      exact fun base ρ A W R hin ha hrd => ⟨HF.refl _ _ _, wpIn_label (nothing base ρ A W R hin ha hrd .normal)⟩
    | ret =>
      cases h
      exact fun base ρ A W R hin ha hrd => ⟨HF.refl _ _ _, wpIn_ret (nothing base ρ A W R hin ha hrd .ret)⟩
    | goto l => cases h
    | refuse s => cases h
theorem exec_sound (hm : P.follows .mixedOrders = true) (hlp : LpOk P lp) (n : Nat) : ExSound P (exec lp n) ∧ ExLe (exec lp n) := by
  induction n using Nat.strongRecOn with
  | ind n ih => exact code_sound hm hlp n ih
/-- **What the plain machine reckons, a call of the function comes to.** -/
theorem run_sound (hm : P.follows .mixedOrders = true) {lp : Nat → Option LFunc} (hlp : LpOk P lp) {n fl f : Nat} {args : List HV} {σ σ' : HS} {v : HV} (h : callF lp (exec lp n) fl f args σ = some (v, σ')) (hd : Dom σ) :
    ∀ (base : Nat) (ρ : Rho) (Args : Array Value) (W : World), In P base σ σ' ρ W → LR ρ args Args.toList →
      CallsIn (FR none) 0 P f Args W (fun E W' => ∃ V ρ', E = .returned V ∧ VR ρ' v V ∧ PostS P base fl σ σ' ρ ρ' W W') :=
  fun base ρ Args W hin hargs => (callF_sound hlp (exec_sound hm hlp n).2 (exec_sound hm hlp n).1 h hd base ρ Args W hin hargs).2.2
end Go.Hx
