/- Layer 1: what a closed matrix says of heights: just what all threads allow. -/
import Derived.Test.YtojkmobfhkjfnaaH08
import Derived.Test.YtojkmobfhkjfnaaH04
set_option linter.all false
/- Layer 1: what a closed matrix says of heights: just what all threads allow. -/
namespace Go.Hx
/-- Heights that a matrix allows. -/
def Feas (n : Nat) (M : Mx) (H : Nat → Int) : Prop := ∀ i j, i ≤ n → j ≤ n → H j - H i ≤ M i j
/-- Is a reading right, by heights? -/
def RightC (n : Nat) (r : Rd) (H : Nat → Int) : Prop := H r.g.toNat - H r.f.toNat ≤ r.hi ∧ (r.g.toNat < n → H r.f.toNat - H (r.g.toNat + 1) ≤ -r.lo - 1)
theorem feas_lim {n f g : Nat} {m : Int} {M : Mx} {H : Nat → Int} (h : Good n M) (hf : f ≤ n) (hg : g ≤ n) : Feas n (limM n f g m M) H ↔ Feas n M H ∧ H g - H f ≤ m := by
  have e : ∀ i j, i ≤ n → j ≤ n → limM n f g m M i j = min (M i j) (M i f + m + M g j) := fun i j hi hj => by
    unfold limM; rw [if_pos ⟨hi, hj⟩]
  constructor
  · intro hF
    refine ⟨fun i j hi hj => ?_, ?_⟩
    · have := hF i j hi hj
      rw [e i j hi hj] at this
      omega
    · have := hF f g hf hg
      rw [e f g hf hg, h.dg f hf, h.dg g hg] at this
      omega
  · rintro ⟨hF, hm⟩ i j hi hj
    rw [e i j hi hj]
    have := hF i j hi hj
    have := hF i f hi hf
    have := hF g j hg hj
    omega
theorem withM_feas {n : Nat} {r : Rd} {M M' : Mx} {H : Nat → Int} (h : Good n M) (hr : RdOk2 n r) (hw : withM n r M = some M') : Feas n M' H ↔ Feas n M H ∧ RightC n r H := by
  unfold RdOk2 at hr
  unfold withM at hw
  unfold RightC
  split at hw
  · rename_i h1
    have g1 := good_lim h (f := r.f.toNat) (g := r.g.toNat) (by omega) (by omega) h1
    split at hw
    · rename_i h2
      split at hw
      · cases hw
        rw [feas_lim g1 (by omega) (by omega), feas_lim h (by omega) (by omega)]
        constructor
        · rintro ⟨⟨a, b⟩, c⟩; exact ⟨a, b, fun _ => c⟩
        · rintro ⟨a, b, c⟩; exact ⟨⟨a, b⟩, c h2⟩
      · cases hw
    · rename_i h2
      cases hw
      rw [feas_lim h (by omega) (by omega)]
      constructor
      · rintro ⟨a, b⟩; exact ⟨a, b, fun h3 => absurd h3 h2⟩
      · rintro ⟨a, b, _⟩; exact ⟨a, b⟩
  · cases hw
theorem withM_none {n : Nat} {r : Rd} {M : Mx} {H : Nat → Int} (h : Good n M) (hr : RdOk2 n r) (hw : withM n r M = none) : ¬ (Feas n M H ∧ RightC n r H) := by
  unfold RdOk2 at hr
  unfold withM at hw
  rintro ⟨hF, hR⟩
  unfold RightC at hR
  split at hw
  · split at hw
    · rename_i h2
      split at hw
      · cases hw
      · rename_i h3
        have hF1 : Feas n (limM n r.f.toNat r.g.toNat r.hi M) H := (feas_lim h (by omega) (by omega)).2 ⟨hF, hR.1⟩
        have h4 := hF1 r.f.toNat (r.g.toNat + 1) (by omega) (by omega)
        have h5 := hR.2 h2
        generalize limM n r.f.toNat r.g.toNat r.hi M r.f.toNat (r.g.toNat + 1) = z at h3 h4
        omega
    · cases hw
  · rename_i h1
    have := hF r.g.toNat r.f.toNat (by omega) (by omega)
    omega
theorem readGo_feas {n : Nat} {H : Nat → Int} : ∀ (l seen : List Rd) (M M' : Mx), (∀ r ∈ l, RdOk2 n r) → Good n M → (∀ r ∈ seen, Feas n M H → RightC n r H) → readGo n seen l M = some M' → (Feas n M' H ↔ Feas n M H ∧ ∀ r ∈ l, RightC n r H)
  | [], seen, M, M', _, _, _, h => by cases h; exact ⟨fun h => ⟨h, fun r hr => by cases hr⟩, fun h => h.1⟩
  | r :: rs, seen, M, M', hl, hG, hs, h => by
    unfold readGo at h
    have hrs : ∀ x ∈ rs, RdOk2 n x := fun x hx => hl x (List.mem_cons_of_mem _ hx)
    split at h
    · rename_i hin
      rw [readGo_feas rs seen M M' hrs hG hs h]
      constructor
      · rintro ⟨a, b⟩
        refine ⟨a, fun x hx => ?_⟩
        rcases List.mem_cons.1 hx with e | e
        · rw [e]; exact hs r hin a
        · exact b x e
      · rintro ⟨a, b⟩; exact ⟨a, fun x hx => b x (List.mem_cons_of_mem _ hx)⟩
    · split at h
      · rename_i M1 h1
        have hr := hl r (List.mem_cons_self ..)
        have hG1 := withM_good hG hr h1
        have e1 := withM_feas (H := H) hG hr h1
        rw [readGo_feas rs _ M1 M' hrs hG1 (fun x hx hF => ?_) h, e1]
        · constructor
          · rintro ⟨⟨a, b⟩, c⟩
            refine ⟨a, fun x hx => ?_⟩
            rcases List.mem_cons.1 hx with e | e
            · rw [e]; exact b
            · exact c x e
          · rintro ⟨a, b⟩; exact ⟨⟨a, b r (List.mem_cons_self ..)⟩, fun x hx => b x (List.mem_cons_of_mem _ hx)⟩
        · rcases List.mem_append.1 hx with e | e
          · exact hs x e (e1.1 hF).1
          · simp at e; rw [e]; exact (e1.1 hF).2
      · cases h
theorem readGo_none {n : Nat} {H : Nat → Int} : ∀ (l seen : List Rd) (M : Mx), (∀ r ∈ l, RdOk2 n r) → Good n M → readGo n seen l M = none → ¬ (Feas n M H ∧ ∀ r ∈ l, RightC n r H)
  | [], seen, M, _, _, h => by cases h
  | r :: rs, seen, M, hl, hG, h => by
    unfold readGo at h
    have hrs : ∀ x ∈ rs, RdOk2 n x := fun x hx => hl x (List.mem_cons_of_mem _ hx)
    rintro ⟨a, b⟩
    split at h
    · exact readGo_none rs seen M hrs hG h ⟨a, fun x hx => b x (List.mem_cons_of_mem _ hx)⟩
    · split at h
      · rename_i M1 h1
        have hr := hl r (List.mem_cons_self ..)
        exact readGo_none rs _ M1 hrs (withM_good hG hr h1) h ⟨(withM_feas hG hr h1).2 ⟨a, b r (List.mem_cons_self ..)⟩, fun x hx => b x (List.mem_cons_of_mem _ hx)⟩
      · rename_i h1
        exact withM_none hG (hl r (List.mem_cons_self ..)) h1 ⟨a, b r (List.mem_cons_self ..)⟩
/-- All marks as high as they can be, and all as low. -/
theorem feas_hi {n : Nat} {M : Mx} (h : Good n M) : Feas n M (fun i => M 0 i) := fun i j hi hj => by
  have := h.tri 0 i j (Nat.zero_le _) hi hj
  show M 0 j - M 0 i ≤ _
  omega
theorem feas_lo {n : Nat} {M : Mx} (h : Good n M) : Feas n M (fun i => -(M i 0)) := fun i j hi hj => by
  have := h.tri i j 0 hi hj (Nat.zero_le _)
  show -(M j 0) - -(M i 0) ≤ _
  omega
/-- A narrower set of heights has narrower bounds. -/
theorem bounds_mono {n k : Nat} {M M' : Mx} (h : Good n M') (hs : ∀ H, Feas n M' H → Feas n M H) (hk : k ≤ n) : -(M k 0) ≤ -(M' k 0) ∧ M' 0 k ≤ M 0 k := by
  have a : -(M' 0 0) - -(M' k 0) ≤ M k 0 := hs _ (feas_lo h) k 0 hk (Nat.zero_le _)
  have b : M' 0 k - M' 0 0 ≤ M 0 k := hs _ (feas_hi h) 0 k (Nat.zero_le _) hk
  have c := h.dg 0 (Nat.zero_le _)
  omega
end Go.Hx

/- Walks of the plain machine: regions that draw, in which several operations lay blocks. -/
namespace Go.Hx
variable {lp : Nat → Option LFunc} {fl : Nat} {rd : Option Nat} {Q : HExit → HAct → HS → Prop} {N : HAct → HS → Prop} {a : HAct} {h0 h : Tr HBlk} {nx s i : Nat} {os : List LOper} {done : List (Nat × List (Nat × HBlk))}
/-- The rest of such a region. -/
def DG (lp : Nat → Option LFunc) (fl s : Nat) (h0 : Tr HBlk) (os : List LOper) (i : Nat) (done : List (Nat × List (Nat × HBlk))) (N : HAct → HS → Prop) (a : HAct) (nx : Nat) : Prop :=
  ∃ n a' σ', drawOps lp (exec lp n) fl s h0 os i done a nx = some (a', σ') ∧ N a' σ'
/-- Behind one operation. -/
def DN (lp : Nat → Option LFunc) (fl s : Nat) (h0 : Tr HBlk) (os : List LOper) (i : Nat) (done : List (Nat × List (Nat × HBlk))) (nx : Nat) (N : HAct → HS → Prop) : HAct → HS → Prop := fun a' σ' =>
  (σ'.nx = nx ∧ DG lp fl s h0 os (i + 1) done N a' nx) ∨ ∃ x, σ'.nx = nx + 1 ∧ σ'.h.get nx = some x ∧ DG lp fl s h0 os (i + 1) ((i, [(nx, x)]) :: done) N a' (nx + 1)
theorem w_drawg {ops : List LOper} (hfl : fl ≤ nx) (hr : DG lp fl s h ops 0 [] (Q .normal) a nx) : W lp fl rd (.draw s ops) Q a ⟨h, nx⟩ := by
  obtain ⟨n, a', σ', h1, h2⟩ := hr
  refine ⟨n + 1, .normal, a', σ', ?_, h2⟩
  show xDraw lp (exec lp n) fl s ops a ⟨h, nx⟩ = _
  unfold xDraw
  have : Nat.ble fl nx = true := ble_t' hfl
  simp only [this, cond_true, h1]
  rfl
theorem g_step {o : LOper} {hm : Tr HBlk} (hi : Nat.blt i s = true) (hmg : merge h0 (some o.anc) done = hm) (hr : R lp (max fl nx) [o] (DN lp fl s h0 os i done nx N) a ⟨hm, nx⟩) : DG lp fl s h0 (o :: os) i done N a nx := by
  obtain ⟨n, a1, σ1, h1, h2⟩ := hr
  have h1' : stepOp lp (exec lp n) (max fl nx) o a ⟨hm, nx⟩ = some (a1, σ1) := by
    unfold runOps at h1
    split at h1
    · rename_i e; rw [e]; exact h1
    · cases h1
  rcases h2 with ⟨e1, n2, a2, σ2, h3, h4⟩ | ⟨x, e1, e2, n2, a2, σ2, h3, h4⟩
  · refine ⟨max n n2, a2, σ2, ?_, h4⟩
    unfold drawOps
    rw [hi, cond_true, hmg]
    show (match stepOp lp (exec lp (max n n2)) (max fl nx) o a ⟨hm, nx⟩ with | some (a, σ) => _ | none => none) = _
    rw [stepOp_mon (exec_mon (Nat.le_max_left n n2)) h1']
    have b1 : Nat.ble nx σ1.nx = true := ble_t' (by omega)
    have b2 : Nat.beq nx σ1.nx = true := by rw [e1]; exact Nat.beq_refl nx
    simp only [b1, b2, Bool.not_true, cond_false, cond_true]
    rw [e1]
    exact drawOps_mon (exec_mon (Nat.le_max_right n n2)) h3
  · refine ⟨max n n2, a2, σ2, ?_, h4⟩
    unfold drawOps
    rw [hi, cond_true, hmg]
    show (match stepOp lp (exec lp (max n n2)) (max fl nx) o a ⟨hm, nx⟩ with | some (a, σ) => _ | none => none) = _
    rw [stepOp_mon (exec_mon (Nat.le_max_left n n2)) h1']
    have b1 : Nat.ble nx σ1.nx = true := ble_t' (by omega)
    have b2 : Nat.beq nx σ1.nx = false := by
      cases e : Nat.beq nx σ1.nx with
      | false => rfl
      | true => have := Nat.eq_of_beq_eq_true e; omega
    have b3 : newFrom σ1.h nx (σ1.nx - nx) = [(nx, x)] := by
      rw [e1, show nx + 1 - nx = 1 by omega]
      unfold newFrom newFrom
      rw [e2]
    simp only [b1, b2, b3, Bool.not_true, cond_false]
    rw [e1]
    exact drawOps_mon (exec_mon (Nat.le_max_right n n2)) h3
theorem g_same {hm : Tr HBlk} (hr : DG lp fl s h0 os (i + 1) done N a nx) : DN lp fl s h0 os i done nx N a ⟨hm, nx⟩ := .inl ⟨rfl, hr⟩
theorem g_new {hm : Tr HBlk} {x : HBlk} (hr : DG lp fl s h0 os (i + 1) ((i, [(nx, x)]) :: done) N a (nx + 1)) : DN lp fl s h0 os i done nx N a ⟨hm.set nx (some x), nx + 1⟩ := .inr ⟨x, rfl, get_same _ _ _, hr⟩
theorem g_end (hi : Nat.ble s i = true) {hm : Tr HBlk} (hmg : merge h0 none done = hm) (hr : R lp fl os N a ⟨hm, nx⟩) : DG lp fl s h0 os i done N a nx := by
  obtain ⟨n, a', σ', h1, h2⟩ := hr
  refine ⟨n, a', σ', ?_, h2⟩
  cases os with
  | nil => unfold drawOps; rw [hmg]; exact h1
  | cons o os =>
    unfold drawOps
    have : Nat.blt i s = false := by
      cases e : Nat.blt i s with
      | false => rfl
      | true => rw [Nat.blt_eq] at e; have := Nat.le_of_ble_eq_true hi; omega
    rw [this, cond_false, hmg]
    exact h1
theorem mg_nil {anc : Option (List Nat)} : merge h anc [] = h := rfl
theorem mg_all {j : Nat} {l : List (Nat × HBlk)} : merge h none ((j, l) :: done) = merge (addAll h l) none done := rfl
theorem mg_in {anc : List Nat} {j : Nat} {l : List (Nat × HBlk)} (hc : anc.contains j = true) : merge h (some anc) ((j, l) :: done) = merge (addAll h l) (some anc) done := by
  show merge (bif anc.contains j then addAll h l else h) (some anc) done = _
  rw [hc]; rfl
theorem mg_out {anc : List Nat} {j : Nat} {l : List (Nat × HBlk)} (hc : anc.contains j = false) : merge h (some anc) ((j, l) :: done) = merge h (some anc) done := by
  show merge (bif anc.contains j then addAll h l else h) (some anc) done = _
  rw [hc]; rfl
theorem ad_nil : addAll h [] = h := rfl
theorem ad_cons {b : Nat} {x : HBlk} {l : List (Nat × HBlk)} : addAll h ((b, x) :: l) = addAll (h.set b (some x)) l := rfl
attribute [irreducible] DG DN
end Go.Hx

namespace Go.Hx
set_option linter.unusedSimpArgs false
set_option linter.unusedVariables false
set_option maxRecDepth 20000
set_option maxHeartbeats 4000000
attribute [local irreducible] W R C thenH inBlockH
/- 56 -/
theorem c_ready {fl : Nat} {h : Tr HBlk} {nx : Nat} (hd : D h nx) {t : Tb} {p : Option (Nat × Nat)} {l : List Rd} {m cp : Nat} (hm : m = l.length) (hlen : l.length < 1000000) (hrow : Row Rd.enc 4 h nx p l) :
    C LW fl 56 [.agg t.cells, .slice p m cp] ⟨h, nx⟩ (Sc (· = .bool (decide (l.length ≤ 15 ∧ errOf t.c t.t t.a t.b l = 0))) ⟨h, nx⟩) := by
  subst hm
  have tk : takeN 4 (t.cells.drop 0) = some t.cells := rfl
  have cF : ∀ fl h' n', Ext h nx h' n' → C LW fl 26 [.agg t.cells, .slice p l.length cp] ⟨h', n'⟩ (Sc (· = i64 (errOf t.c t.t t.a t.b l)) ⟨h', n'⟩) := fun fl h' n' e => c_fault e.d rfl (by omega) (hrow.ext e)
  refine c_in lw56 rfl rfl rfl ?_
  dsimp only [L56]
  repeat' first
   | refine r_nil ?_
   | refine th_n ?_
   | refine th_r ?_
   | refine w_seq ?_
   | refine w_reg ?_
   | refine w_ret ?_
   | refine w_skip ?_
   | refine r_take (by simp (disch:=first|decide|(simp only[zF,zG];decide)) only [zA,zB,zC,zD,zE,zF,zG,zH,zI,zJ,zK,HV.cells]; first|done|exact rfl) ?_
   | refine r_drop (by simp (disch:=first|decide|(simp only[zF,zG,Bool.not_true,Bool.not_false];decide)) only [zA,zB,zC,zD,zE,zF,zG,zH,zI,zJ,zK,HV.cells,Bool.not_true,Bool.not_false]; first|done|exact rfl) ?_
   | refine r_move (by simp (disch:=first|decide|(simp only[zF,zG];decide)) only [zA,zB,zC,zD,zE,zF,zG,zH,zI,zJ,zK,HV.cells]; try exact rfl) ?_
   | refine r_ldn (by simp (disch:=first|decide|(simp only[zF,zG];decide)) only [zA,zB,zC,zD,zE,zF,zG,zH,zI,zJ,zK,HV.cells]; try exact rfl) (by first|assumption|(simp (disch:=omega) only [get_same,get_other]; first|done|exact rfl)) (by first|assumption|rfl|(simp only [zI,zJ,HV.cells]; exact rfl)) ?_
   | refine r_box (by simp (disch:=first|decide|(simp only[zF,zG];decide)) only [zA,zB,zC,zD,zE,zF,zG,zH,zI,zJ,zK,HV.cells]; try exact rfl) ?_
   | refine r_leq (by simp (disch:=first|decide|(simp only[zF,zG];decide)) only [zA,zB,zC,zD,zE,zF,zG,zH,zI,zJ,zK,HV.cells]; try exact rfl) (by simp (disch:=first|decide|(simp only[zF,zG];decide)) only [zA,zB,zC,zD,zE,zF,zG,zH,zI,zJ,zK,HV.cells]; try exact rfl) (fun hc => ?_) (fun hc => ?_) <;> (try (exfalso; omega))
   | refine r_eq (by simp (disch:=first|decide|(simp only[zF,zG];decide)) only [zA,zB,zC,zD,zE,zF,zG,zH,zI,zJ,zK,HV.cells]; try exact rfl) (by simp (disch:=first|decide|(simp only[zF,zG];decide)) only [zA,zB,zC,zD,zE,zF,zG,zH,zI,zJ,zK,HV.cells]; try exact rfl) (fun hc => ?_) (fun hc => ?_) <;> (try (exfalso; omega))
   | refine r_ne (by simp (disch:=first|decide|(simp only[zF,zG];decide)) only [zA,zB,zC,zD,zE,zF,zG,zH,zI,zJ,zK,HV.cells]; try exact rfl) (by simp (disch:=first|decide|(simp only[zF,zG];decide)) only [zA,zB,zC,zD,zE,zF,zG,zH,zI,zJ,zK,HV.cells]; try exact rfl) (fun hc => ?_) (fun hc => ?_) <;> (try (exfalso; omega))
   | refine r_eqb (by simp (disch:=first|decide|(simp only[zF,zG];decide)) only [zA,zB,zC,zD,zE,zF,zG,zH,zI,zJ,zK,HV.cells]; try exact rfl) (by simp (disch:=first|decide|(simp only[zF,zG];decide)) only [zA,zB,zC,zD,zE,zF,zG,zH,zI,zJ,zK,HV.cells]; try exact rfl) ?_
   | refine r_pt (by simp (disch:=first|decide|(simp only[zF,zG];decide)) only [zA,zB,zC,zD,zE,zF,zG,zH,zI,zJ,zK,HV.cells]; first|done|exact rfl) (by simp (disch:=first|decide|(simp only[zF,zG];decide)) only [zA,zB,zC,zD,zE,zF,zG,zH,zI,zJ,zK,HV.cells]; try exact rfl) ?_
   | refine r_pf (by simp (disch:=first|decide|(simp only[zF,zG];decide)) only [zA,zB,zC,zD,zE,zF,zG,zH,zI,zJ,zK,HV.cells]; first|done|exact rfl) (by simp (disch:=first|decide|(simp only[zF,zG];decide)) only [zA,zB,zC,zD,zE,zF,zG,zH,zI,zJ,zK,HV.cells]; try exact rfl) ?_
   | refine r_len (by simp (disch:=first|decide|(simp only[zF,zG];decide)) only [zA,zB,zC,zD,zE,zF,zG,zH,zI,zJ,zK,HV.cells]; try exact rfl) ?_
   | refine r_calls (by simp (disch:=first|decide|(simp only[zF,zG];decide)) only [zA,zB,zC,zD,zE,zF,zG,zH,zI,zJ,zK,HV.cells]; try exact rfl) (by simp (disch:=first|decide|(simp only[zF,zG];decide)) only [List.map_cons,List.map_nil,List.nil_append,List.cons_append,List.append_nil,zA,zB,zC,zD,zE,zF,zG,zH,zI,zJ,zK,HV.cells]; try exact rfl) (cF _ _ _ (by repeat' first|assumption|refine Ext.put ?_ (by omega) (by omega)|exact Ext.up (by assumption) (by omega)|exact Ext.nx (by assumption) (by omega))) (fun n' hn' => ?_)
   | fail
  all_goals refine fin_r (by simp only [zL,zM]) (by simp (disch:=first|decide|(simp only[zF,zG];decide)) only [zA,zB,zC,zD,zE,zF,zG,zH,zI,zJ,zK,HV.cells]; try exact rfl) (sc_flat rfl (by dsimp only; omega) ?_)
  all_goals first | rw [decide_eq_true ⟨by omega, by assumption⟩] | rw [decide_eq_false (fun e => by have := e.1; have := e.2; omega)]
/-- Is each range in the other one? -/
def Wid (a b : List (Int × Int)) : Prop := ∀ (i : Nat) (x y : Int × Int), a[i]? = some x → b[i]? = some y → y.1 ≤ x.1 ∧ x.2 ≤ y.2
/- 57 -/
theorem loop57 {fl : Nat} {h : Tr HBlk} {nx : Nat} {Q : HExit → HAct → HS → Prop} {p q : Option (Nat × Nat)} {u v : List (Int × Int)} {cp cq : Nat} (hlen : u.length < 1000000) (huv : u.length = v.length) (hu : Row renc 2 h nx p u) (hv : Row renc 2 h nx q v) (hw : Wid u v) (hfl : fl ≤ nx) (hd : D h nx) :
    ∀ (m i : Nat) (a : HAct), m + i = u.length → a.nt = 41 → a.defers = [] → a.tmp 0 = .slice p u.length cp → a.tmp 1 = .slice q v.length cq → a.tmp 5 = i64 i →
      (∀ a', a'.nt = 41 → a'.defers = [] → Q .normal a' ⟨h, nx⟩) → W LW fl none (.loop L57w0) (inBlockH 0 Q) a ⟨h, nx⟩
  | 0, i, a, hm, hnt, hds, h0, h1, h5, hq => by
    refine w_it (show L57w0 = _ by unfold L57w0; exact rfl) ?_
    repeat' first
     | refine r_nil ?_
     | refine th_n ?_
     | refine th_r ?_
     | refine th_e ?_
     | refine ib_n ?_
     | refine ib_r ?_
     | refine ib_e ?_
     | refine ib_x (by decide) ?_
     | refine w_exit ?_
     | refine w_seq ?_
     | refine w_reg ?_
     | refine w_ret ?_
     | refine w_skip ?_
     | refine w_block ?_
     | refine w_t (by simp (disch:=first|decide|(simp only[zF,zG,hnt, h0, h1, h5];decide)) only [zA,zB,zC,zD,zE,zF,zG,zH,zI,zJ,zK,HV.cells,hnt, h0, h1, h5]; first|done|exact rfl) ?_
     | refine w_f (by simp (disch:=first|decide|(simp only[zF,zG,hnt, h0, h1, h5];decide)) only [zA,zB,zC,zD,zE,zF,zG,zH,zI,zJ,zK,HV.cells,hnt, h0, h1, h5]; first|done|exact rfl) ?_
     | refine r_take (by simp (disch:=first|decide|(simp only[zF,zG,hnt, h0, h1, h5];decide)) only [zA,zB,zC,zD,zE,zF,zG,zH,zI,zJ,zK,HV.cells,hnt, h0, h1, h5]; first|done|exact rfl) ?_
     | refine r_drop (by simp (disch:=first|decide|(simp only[zF,zG,Bool.not_true,Bool.not_false,hnt, h0, h1, h5];decide)) only [zA,zB,zC,zD,zE,zF,zG,zH,zI,zJ,zK,HV.cells,Bool.not_true,Bool.not_false,hnt, h0, h1, h5]; first|done|exact rfl) ?_
     | refine r_move (by simp (disch:=first|decide|(simp only[zF,zG,hnt, h0, h1, h5];decide)) only [zA,zB,zC,zD,zE,zF,zG,zH,zI,zJ,zK,HV.cells,hnt, h0, h1, h5]; try exact rfl) ?_
     | refine r_fa (by simp (disch:=first|decide|(simp only[zF,zG,hnt, h0, h1, h5];decide)) only [zA,zB,zC,zD,zE,zF,zG,zH,zI,zJ,zK,HV.cells,hnt, h0, h1, h5]; try exact rfl) ?_
     | refine r_ld1 (by simp (disch:=first|decide|(simp only[zF,zG,hnt, h0, h1, h5];decide)) only [zA,zB,zC,zD,zE,zF,zG,zH,zI,zJ,zK,HV.cells,hnt, h0, h1, h5]; try exact rfl) (by first|assumption|(simp (disch:=omega) only [get_same,get_other,hnt, h0, h1, h5]; first|done|exact rfl)) (by first|assumption|rfl|(simp only [zI,zJ,HV.cells,hnt, h0, h1, h5]; exact rfl)) ?_
     | refine r_add (by simp (disch:=first|decide|(simp only[zF,zG,hnt, h0, h1, h5];decide)) only [zA,zB,zC,zD,zE,zF,zG,zH,zI,zJ,zK,HV.cells,hnt, h0, h1, h5]; try exact rfl) (by simp (disch:=first|decide|(simp only[zF,zG,hnt, h0, h1, h5];decide)) only [zA,zB,zC,zD,zE,zF,zG,zH,zI,zJ,zK,HV.cells,hnt, h0, h1, h5]; try exact rfl) (by omega) (by omega) ?_
     | refine r_lss (by simp (disch:=first|decide|(simp only[zF,zG,hnt, h0, h1, h5];decide)) only [zA,zB,zC,zD,zE,zF,zG,zH,zI,zJ,zK,HV.cells,hnt, h0, h1, h5]; try exact rfl) (by simp (disch:=first|decide|(simp only[zF,zG,hnt, h0, h1, h5];decide)) only [zA,zB,zC,zD,zE,zF,zG,zH,zI,zJ,zK,HV.cells,hnt, h0, h1, h5]; try exact rfl) (fun hc => ?_) (fun hc => ?_) <;> (try (exfalso; omega))
     | refine r_gtr (by simp (disch:=first|decide|(simp only[zF,zG,hnt, h0, h1, h5];decide)) only [zA,zB,zC,zD,zE,zF,zG,zH,zI,zJ,zK,HV.cells,hnt, h0, h1, h5]; try exact rfl) (by simp (disch:=first|decide|(simp only[zF,zG,hnt, h0, h1, h5];decide)) only [zA,zB,zC,zD,zE,zF,zG,zH,zI,zJ,zK,HV.cells,hnt, h0, h1, h5]; try exact rfl) (fun hc => ?_) (fun hc => ?_) <;> (try (exfalso; omega))
     | refine r_eq (by simp (disch:=first|decide|(simp only[zF,zG,hnt, h0, h1, h5];decide)) only [zA,zB,zC,zD,zE,zF,zG,zH,zI,zJ,zK,HV.cells,hnt, h0, h1, h5]; try exact rfl) (by simp (disch:=first|decide|(simp only[zF,zG,hnt, h0, h1, h5];decide)) only [zA,zB,zC,zD,zE,zF,zG,zH,zI,zJ,zK,HV.cells,hnt, h0, h1, h5]; try exact rfl) (fun hc => ?_) (fun hc => ?_) <;> (try (exfalso; omega))
     | refine r_ne (by simp (disch:=first|decide|(simp only[zF,zG,hnt, h0, h1, h5];decide)) only [zA,zB,zC,zD,zE,zF,zG,zH,zI,zJ,zK,HV.cells,hnt, h0, h1, h5]; try exact rfl) (by simp (disch:=first|decide|(simp only[zF,zG,hnt, h0, h1, h5];decide)) only [zA,zB,zC,zD,zE,zF,zG,zH,zI,zJ,zK,HV.cells,hnt, h0, h1, h5]; try exact rfl) (fun hc => ?_) (fun hc => ?_) <;> (try (exfalso; omega))
     | refine r_eqb (by simp (disch:=first|decide|(simp only[zF,zG,hnt, h0, h1, h5];decide)) only [zA,zB,zC,zD,zE,zF,zG,zH,zI,zJ,zK,HV.cells,hnt, h0, h1, h5]; try exact rfl) (by simp (disch:=first|decide|(simp only[zF,zG,hnt, h0, h1, h5];decide)) only [zA,zB,zC,zD,zE,zF,zG,zH,zI,zJ,zK,HV.cells,hnt, h0, h1, h5]; try exact rfl) ?_
     | refine r_pt (by simp (disch:=first|decide|(simp only[zF,zG,hnt, h0, h1, h5];decide)) only [zA,zB,zC,zD,zE,zF,zG,zH,zI,zJ,zK,HV.cells,hnt, h0, h1, h5]; first|done|exact rfl) (by simp (disch:=first|decide|(simp only[zF,zG,hnt, h0, h1, h5];decide)) only [zA,zB,zC,zD,zE,zF,zG,zH,zI,zJ,zK,HV.cells,hnt, h0, h1, h5]; try exact rfl) ?_
     | refine r_pf (by simp (disch:=first|decide|(simp only[zF,zG,hnt, h0, h1, h5];decide)) only [zA,zB,zC,zD,zE,zF,zG,zH,zI,zJ,zK,HV.cells,hnt, h0, h1, h5]; first|done|exact rfl) (by simp (disch:=first|decide|(simp only[zF,zG,hnt, h0, h1, h5];decide)) only [zA,zB,zC,zD,zE,zF,zG,zH,zI,zJ,zK,HV.cells,hnt, h0, h1, h5]; try exact rfl) ?_
     | refine r_len (by simp (disch:=first|decide|(simp only[zF,zG,hnt, h0, h1, h5];decide)) only [zA,zB,zC,zD,zE,zF,zG,zH,zI,zJ,zK,HV.cells,hnt, h0, h1, h5]; try exact rfl) ?_
     | refine r_ixs (by simp (disch:=first|decide|(simp only[zF,zG,hnt, h0, h1, h5];decide)) only [zA,zB,zC,zD,zE,zF,zG,zH,zI,zJ,zK,HV.cells,hnt, h0, h1, h5]; try exact rfl) (by simp (disch:=first|decide|(simp only[zF,zG,hnt, h0, h1, h5];decide)) only [zA,zB,zC,zD,zE,zF,zG,zH,zI,zJ,zK,HV.cells,hnt, h0, h1, h5]; try exact rfl) (by omega) ?_
     | refine w_draw (by omega) (by repeat' first|assumption|refine D.upd ?_ (by omega)|exact D.mono (by assumption) (by omega)) ?_
     | refine d_nil ?_
     | refine d_rest rfl ?_
     | refine d_bs rfl ?_
     | refine d_box rfl ?_
     | refine d_alloc rfl ?_
     | refine d_one rfl ?_
     | refine d_next (by omega) ?_
     | refine d_laid ?_
     | fail
    refine hq _ ?_ ?_
    all_goals first|(simp only [zL,zM,zF,zG,hnt, hds];done)|(simp (disch:=first|decide|(simp only[zF,zG,hnt, hds];decide)) only [zA,zB,zC,zD,zE,zF,zG,zH,zI,zJ,zK,HV.cells,hnt, hds];first|done|exact rfl)|assumption
  | m + 1, i, a, hm, hnt, hds, h0, h1, h5, hq => by
    have hi : i < u.length := by omega
    have hi2 : i < v.length := by omega
    have hu0 := hu
    have hv0 := hv
    obtain ⟨b, o, cs, kk, rfl, hb, hg, hcs⟩ := hu (by intro e; rw [e] at hi; simp at hi)
    obtain ⟨b2, o2, cs2, kk2, rfl, hb2, hg2, hcs2⟩ := hv (by intro e; rw [e] at hi2; simp at hi2)
    have hx : u[i]? = some u[i] := by simp [hi]
    have hy : v[i]? = some v[i] := by simp [hi2]
    have hw1 := hw i _ _ hx hy
    have x0 := take_at (hcs i _ hx) (j := 0) (v := i64 u[i].1) rfl
    have x1 := take_at (hcs i _ hx) (j := 1) (v := i64 u[i].2) rfl
    have y0 := take_at (hcs2 i _ hy) (j := 0) (v := i64 v[i].1) rfl
    have y1 := take_at (hcs2 i _ hy) (j := 1) (v := i64 v[i].2) rfl
    refine w_it (show L57w0 = _ by unfold L57w0; exact rfl) ?_
    repeat' first
     | refine r_nil ?_
     | refine th_n ?_
     | refine th_r ?_
     | refine th_e ?_
     | refine ib_n ?_
     | refine ib_r ?_
     | refine ib_e ?_
     | refine ib_x (by decide) ?_
     | refine w_exit ?_
     | refine w_seq ?_
     | refine w_reg ?_
     | refine w_ret ?_
     | refine w_skip ?_
     | refine w_block ?_
     | refine w_t (by simp (disch:=first|decide|(simp only[zF,zG,hnt, h0, h1, h5];decide)) only [zA,zB,zC,zD,zE,zF,zG,zH,zI,zJ,zK,HV.cells,hnt, h0, h1, h5]; first|done|exact rfl) ?_
     | refine w_f (by simp (disch:=first|decide|(simp only[zF,zG,hnt, h0, h1, h5];decide)) only [zA,zB,zC,zD,zE,zF,zG,zH,zI,zJ,zK,HV.cells,hnt, h0, h1, h5]; first|done|exact rfl) ?_
     | refine r_take (by simp (disch:=first|decide|(simp only[zF,zG,hnt, h0, h1, h5];decide)) only [zA,zB,zC,zD,zE,zF,zG,zH,zI,zJ,zK,HV.cells,hnt, h0, h1, h5]; first|done|exact rfl) ?_
     | refine r_drop (by simp (disch:=first|decide|(simp only[zF,zG,Bool.not_true,Bool.not_false,hnt, h0, h1, h5];decide)) only [zA,zB,zC,zD,zE,zF,zG,zH,zI,zJ,zK,HV.cells,Bool.not_true,Bool.not_false,hnt, h0, h1, h5]; first|done|exact rfl) ?_
     | refine r_move (by simp (disch:=first|decide|(simp only[zF,zG,hnt, h0, h1, h5];decide)) only [zA,zB,zC,zD,zE,zF,zG,zH,zI,zJ,zK,HV.cells,hnt, h0, h1, h5]; try exact rfl) ?_
     | refine r_fa (by simp (disch:=first|decide|(simp only[zF,zG,hnt, h0, h1, h5];decide)) only [zA,zB,zC,zD,zE,zF,zG,zH,zI,zJ,zK,HV.cells,hnt, h0, h1, h5]; try exact rfl) ?_
     | refine r_ld1 (by simp (disch:=first|decide|(simp only[zF,zG,hnt, h0, h1, h5];decide)) only [zA,zB,zC,zD,zE,zF,zG,zH,zI,zJ,zK,HV.cells,hnt, h0, h1, h5]; try exact rfl) (by first|assumption|(simp (disch:=omega) only [get_same,get_other,hnt, h0, h1, h5]; first|done|exact rfl)) (by first|assumption|rfl|(simp only [zI,zJ,HV.cells,hnt, h0, h1, h5]; exact rfl)) ?_
     | refine r_add (by simp (disch:=first|decide|(simp only[zF,zG,hnt, h0, h1, h5];decide)) only [zA,zB,zC,zD,zE,zF,zG,zH,zI,zJ,zK,HV.cells,hnt, h0, h1, h5]; try exact rfl) (by simp (disch:=first|decide|(simp only[zF,zG,hnt, h0, h1, h5];decide)) only [zA,zB,zC,zD,zE,zF,zG,zH,zI,zJ,zK,HV.cells,hnt, h0, h1, h5]; try exact rfl) (by omega) (by omega) ?_
     | refine r_lss (by simp (disch:=first|decide|(simp only[zF,zG,hnt, h0, h1, h5];decide)) only [zA,zB,zC,zD,zE,zF,zG,zH,zI,zJ,zK,HV.cells,hnt, h0, h1, h5]; try exact rfl) (by simp (disch:=first|decide|(simp only[zF,zG,hnt, h0, h1, h5];decide)) only [zA,zB,zC,zD,zE,zF,zG,zH,zI,zJ,zK,HV.cells,hnt, h0, h1, h5]; try exact rfl) (fun hc => ?_) (fun hc => ?_) <;> (try (exfalso; omega))
     | refine r_gtr (by simp (disch:=first|decide|(simp only[zF,zG,hnt, h0, h1, h5];decide)) only [zA,zB,zC,zD,zE,zF,zG,zH,zI,zJ,zK,HV.cells,hnt, h0, h1, h5]; try exact rfl) (by simp (disch:=first|decide|(simp only[zF,zG,hnt, h0, h1, h5];decide)) only [zA,zB,zC,zD,zE,zF,zG,zH,zI,zJ,zK,HV.cells,hnt, h0, h1, h5]; try exact rfl) (fun hc => ?_) (fun hc => ?_) <;> (try (exfalso; omega))
     | refine r_eq (by simp (disch:=first|decide|(simp only[zF,zG,hnt, h0, h1, h5];decide)) only [zA,zB,zC,zD,zE,zF,zG,zH,zI,zJ,zK,HV.cells,hnt, h0, h1, h5]; try exact rfl) (by simp (disch:=first|decide|(simp only[zF,zG,hnt, h0, h1, h5];decide)) only [zA,zB,zC,zD,zE,zF,zG,zH,zI,zJ,zK,HV.cells,hnt, h0, h1, h5]; try exact rfl) (fun hc => ?_) (fun hc => ?_) <;> (try (exfalso; omega))
     | refine r_ne (by simp (disch:=first|decide|(simp only[zF,zG,hnt, h0, h1, h5];decide)) only [zA,zB,zC,zD,zE,zF,zG,zH,zI,zJ,zK,HV.cells,hnt, h0, h1, h5]; try exact rfl) (by simp (disch:=first|decide|(simp only[zF,zG,hnt, h0, h1, h5];decide)) only [zA,zB,zC,zD,zE,zF,zG,zH,zI,zJ,zK,HV.cells,hnt, h0, h1, h5]; try exact rfl) (fun hc => ?_) (fun hc => ?_) <;> (try (exfalso; omega))
     | refine r_eqb (by simp (disch:=first|decide|(simp only[zF,zG,hnt, h0, h1, h5];decide)) only [zA,zB,zC,zD,zE,zF,zG,zH,zI,zJ,zK,HV.cells,hnt, h0, h1, h5]; try exact rfl) (by simp (disch:=first|decide|(simp only[zF,zG,hnt, h0, h1, h5];decide)) only [zA,zB,zC,zD,zE,zF,zG,zH,zI,zJ,zK,HV.cells,hnt, h0, h1, h5]; try exact rfl) ?_
     | refine r_pt (by simp (disch:=first|decide|(simp only[zF,zG,hnt, h0, h1, h5];decide)) only [zA,zB,zC,zD,zE,zF,zG,zH,zI,zJ,zK,HV.cells,hnt, h0, h1, h5]; first|done|exact rfl) (by simp (disch:=first|decide|(simp only[zF,zG,hnt, h0, h1, h5];decide)) only [zA,zB,zC,zD,zE,zF,zG,zH,zI,zJ,zK,HV.cells,hnt, h0, h1, h5]; try exact rfl) ?_
     | refine r_pf (by simp (disch:=first|decide|(simp only[zF,zG,hnt, h0, h1, h5];decide)) only [zA,zB,zC,zD,zE,zF,zG,zH,zI,zJ,zK,HV.cells,hnt, h0, h1, h5]; first|done|exact rfl) (by simp (disch:=first|decide|(simp only[zF,zG,hnt, h0, h1, h5];decide)) only [zA,zB,zC,zD,zE,zF,zG,zH,zI,zJ,zK,HV.cells,hnt, h0, h1, h5]; try exact rfl) ?_
     | refine r_len (by simp (disch:=first|decide|(simp only[zF,zG,hnt, h0, h1, h5];decide)) only [zA,zB,zC,zD,zE,zF,zG,zH,zI,zJ,zK,HV.cells,hnt, h0, h1, h5]; try exact rfl) ?_
     | refine r_ixs (by simp (disch:=first|decide|(simp only[zF,zG,hnt, h0, h1, h5];decide)) only [zA,zB,zC,zD,zE,zF,zG,zH,zI,zJ,zK,HV.cells,hnt, h0, h1, h5]; try exact rfl) (by simp (disch:=first|decide|(simp only[zF,zG,hnt, h0, h1, h5];decide)) only [zA,zB,zC,zD,zE,zF,zG,zH,zI,zJ,zK,HV.cells,hnt, h0, h1, h5]; try exact rfl) (by omega) ?_
     | refine w_draw (by omega) (by repeat' first|assumption|refine D.upd ?_ (by omega)|exact D.mono (by assumption) (by omega)) ?_
     | refine d_nil ?_
     | refine d_rest rfl ?_
     | refine d_bs rfl ?_
     | refine d_box rfl ?_
     | refine d_alloc rfl ?_
     | refine d_one rfl ?_
     | refine d_next (by omega) ?_
     | refine d_laid ?_
     | fail
    refine loop57 (cp := cp) (cq := cq) hlen huv hu0 hv0 hw hfl hd m (i + 1) _ (by omega) ?_ ?_ ?_ ?_ ?_ hq
    all_goals first|(simp only [zL,zM,zF,zG,hnt, hds, h0, h1, h5];done)|(simp (disch:=first|decide|(simp only[zF,zG,hnt, hds, h0, h1, h5];decide)) only [zA,zB,zC,zD,zE,zF,zG,zH,zI,zJ,zK,HV.cells,hnt, hds, h0, h1, h5];first|done|exact rfl)|assumption
theorem c_wider {fl : Nat} {h : Tr HBlk} {nx : Nat} (hd : D h nx) {p q : Option (Nat × Nat)} {u v : List (Int × Int)} {n m cp cq : Nat} (hn : n = u.length) (hm : m = v.length) (hlen : u.length < 1000000) (huv : u.length = v.length) (hu : Row renc 2 h nx p u) (hv : Row renc 2 h nx q v) (hw : Wid u v) :
    C LW fl 57 [.slice p n cp, .slice q m cq] ⟨h, nx⟩ (Sc (· = .bool true) ⟨h, nx⟩) := by
  subst hn
  subst hm
  refine c_in lw57 rfl rfl rfl ?_
  dsimp only [L57]
  repeat' first
   | refine r_nil ?_
   | refine th_n ?_
   | refine th_r ?_
   | refine th_e ?_
   | refine ib_n ?_
   | refine ib_r ?_
   | refine ib_e ?_
   | refine ib_x (by decide) ?_
   | refine w_exit ?_
   | refine w_seq ?_
   | refine w_reg ?_
   | refine w_ret ?_
   | refine w_skip ?_
   | refine w_block ?_
   | refine w_t (by simp (disch:=first|decide|(simp only[zF,zG];decide)) only [zA,zB,zC,zD,zE,zF,zG,zH,zI,zJ,zK,HV.cells]; first|done|exact rfl) ?_
   | refine w_f (by simp (disch:=first|decide|(simp only[zF,zG];decide)) only [zA,zB,zC,zD,zE,zF,zG,zH,zI,zJ,zK,HV.cells]; first|done|exact rfl) ?_
   | refine r_take (by simp (disch:=first|decide|(simp only[zF,zG];decide)) only [zA,zB,zC,zD,zE,zF,zG,zH,zI,zJ,zK,HV.cells]; first|done|exact rfl) ?_
   | refine r_drop (by simp (disch:=first|decide|(simp only[zF,zG,Bool.not_true,Bool.not_false];decide)) only [zA,zB,zC,zD,zE,zF,zG,zH,zI,zJ,zK,HV.cells,Bool.not_true,Bool.not_false]; first|done|exact rfl) ?_
   | refine r_move (by simp (disch:=first|decide|(simp only[zF,zG];decide)) only [zA,zB,zC,zD,zE,zF,zG,zH,zI,zJ,zK,HV.cells]; try exact rfl) ?_
   | refine r_fa (by simp (disch:=first|decide|(simp only[zF,zG];decide)) only [zA,zB,zC,zD,zE,zF,zG,zH,zI,zJ,zK,HV.cells]; try exact rfl) ?_
   | refine r_ld1 (by simp (disch:=first|decide|(simp only[zF,zG];decide)) only [zA,zB,zC,zD,zE,zF,zG,zH,zI,zJ,zK,HV.cells]; try exact rfl) (by first|assumption|(simp (disch:=omega) only [get_same,get_other]; first|done|exact rfl)) (by first|assumption|rfl|(simp only [zI,zJ,HV.cells]; exact rfl)) ?_
   | refine r_add (by simp (disch:=first|decide|(simp only[zF,zG];decide)) only [zA,zB,zC,zD,zE,zF,zG,zH,zI,zJ,zK,HV.cells]; try exact rfl) (by simp (disch:=first|decide|(simp only[zF,zG];decide)) only [zA,zB,zC,zD,zE,zF,zG,zH,zI,zJ,zK,HV.cells]; try exact rfl) (by omega) (by omega) ?_
   | refine r_lss (by simp (disch:=first|decide|(simp only[zF,zG];decide)) only [zA,zB,zC,zD,zE,zF,zG,zH,zI,zJ,zK,HV.cells]; try exact rfl) (by simp (disch:=first|decide|(simp only[zF,zG];decide)) only [zA,zB,zC,zD,zE,zF,zG,zH,zI,zJ,zK,HV.cells]; try exact rfl) (fun hc => ?_) (fun hc => ?_) <;> (try (exfalso; omega))
   | refine r_gtr (by simp (disch:=first|decide|(simp only[zF,zG];decide)) only [zA,zB,zC,zD,zE,zF,zG,zH,zI,zJ,zK,HV.cells]; try exact rfl) (by simp (disch:=first|decide|(simp only[zF,zG];decide)) only [zA,zB,zC,zD,zE,zF,zG,zH,zI,zJ,zK,HV.cells]; try exact rfl) (fun hc => ?_) (fun hc => ?_) <;> (try (exfalso; omega))
   | refine r_eq (by simp (disch:=first|decide|(simp only[zF,zG];decide)) only [zA,zB,zC,zD,zE,zF,zG,zH,zI,zJ,zK,HV.cells]; try exact rfl) (by simp (disch:=first|decide|(simp only[zF,zG];decide)) only [zA,zB,zC,zD,zE,zF,zG,zH,zI,zJ,zK,HV.cells]; try exact rfl) (fun hc => ?_) (fun hc => ?_) <;> (try (exfalso; omega))
   | refine r_ne (by simp (disch:=first|decide|(simp only[zF,zG];decide)) only [zA,zB,zC,zD,zE,zF,zG,zH,zI,zJ,zK,HV.cells]; try exact rfl) (by simp (disch:=first|decide|(simp only[zF,zG];decide)) only [zA,zB,zC,zD,zE,zF,zG,zH,zI,zJ,zK,HV.cells]; try exact rfl) (fun hc => ?_) (fun hc => ?_) <;> (try (exfalso; omega))
   | refine r_eqb (by simp (disch:=first|decide|(simp only[zF,zG];decide)) only [zA,zB,zC,zD,zE,zF,zG,zH,zI,zJ,zK,HV.cells]; try exact rfl) (by simp (disch:=first|decide|(simp only[zF,zG];decide)) only [zA,zB,zC,zD,zE,zF,zG,zH,zI,zJ,zK,HV.cells]; try exact rfl) ?_
   | refine r_pt (by simp (disch:=first|decide|(simp only[zF,zG];decide)) only [zA,zB,zC,zD,zE,zF,zG,zH,zI,zJ,zK,HV.cells]; first|done|exact rfl) (by simp (disch:=first|decide|(simp only[zF,zG];decide)) only [zA,zB,zC,zD,zE,zF,zG,zH,zI,zJ,zK,HV.cells]; try exact rfl) ?_
   | refine r_pf (by simp (disch:=first|decide|(simp only[zF,zG];decide)) only [zA,zB,zC,zD,zE,zF,zG,zH,zI,zJ,zK,HV.cells]; first|done|exact rfl) (by simp (disch:=first|decide|(simp only[zF,zG];decide)) only [zA,zB,zC,zD,zE,zF,zG,zH,zI,zJ,zK,HV.cells]; try exact rfl) ?_
   | refine r_len (by simp (disch:=first|decide|(simp only[zF,zG];decide)) only [zA,zB,zC,zD,zE,zF,zG,zH,zI,zJ,zK,HV.cells]; try exact rfl) ?_
   | refine r_ixs (by simp (disch:=first|decide|(simp only[zF,zG];decide)) only [zA,zB,zC,zD,zE,zF,zG,zH,zI,zJ,zK,HV.cells]; try exact rfl) (by simp (disch:=first|decide|(simp only[zF,zG];decide)) only [zA,zB,zC,zD,zE,zF,zG,zH,zI,zJ,zK,HV.cells]; try exact rfl) (by omega) ?_
   | refine w_draw (by omega) (by repeat' first|assumption|refine D.upd ?_ (by omega)|exact D.mono (by assumption) (by omega)) ?_
   | refine d_nil ?_
   | refine d_rest rfl ?_
   | refine d_bs rfl ?_
   | refine d_box rfl ?_
   | refine d_alloc rfl ?_
   | refine d_one rfl ?_
   | refine d_next (by omega) ?_
   | refine d_laid ?_
   | fail
  refine loop57 (cp := cp) (cq := cq) hlen huv hu hv hw (Nat.le_refl _) hd u.length 0 _ (by omega) ?_ ?_ ?_ ?_ ?_ (fun a' g1 g2 => ?_)
  all_goals try first|(simp only [zL,zM,zF,zG];done)|(simp (disch:=first|decide|(simp only[zF,zG];decide)) only [zA,zB,zC,zD,zE,zF,zG,zH,zI,zJ,zK,HV.cells];first|done|exact rfl)|assumption
  repeat' first
   | refine r_nil ?_
   | refine th_n ?_
   | refine th_r ?_
   | refine th_e ?_
   | refine ib_n ?_
   | refine ib_r ?_
   | refine ib_e ?_
   | refine ib_x (by decide) ?_
   | refine w_exit ?_
   | refine w_seq ?_
   | refine w_reg ?_
   | refine w_ret ?_
   | refine w_skip ?_
   | refine w_block ?_
   | refine w_t (by simp (disch:=first|decide|(simp only[zF,zG,g1];decide)) only [zA,zB,zC,zD,zE,zF,zG,zH,zI,zJ,zK,HV.cells,g1]; first|done|exact rfl) ?_
   | refine w_f (by simp (disch:=first|decide|(simp only[zF,zG,g1];decide)) only [zA,zB,zC,zD,zE,zF,zG,zH,zI,zJ,zK,HV.cells,g1]; first|done|exact rfl) ?_
   | refine r_take (by simp (disch:=first|decide|(simp only[zF,zG,g1];decide)) only [zA,zB,zC,zD,zE,zF,zG,zH,zI,zJ,zK,HV.cells,g1]; first|done|exact rfl) ?_
   | refine r_drop (by simp (disch:=first|decide|(simp only[zF,zG,Bool.not_true,Bool.not_false,g1];decide)) only [zA,zB,zC,zD,zE,zF,zG,zH,zI,zJ,zK,HV.cells,Bool.not_true,Bool.not_false,g1]; first|done|exact rfl) ?_
   | refine r_move (by simp (disch:=first|decide|(simp only[zF,zG,g1];decide)) only [zA,zB,zC,zD,zE,zF,zG,zH,zI,zJ,zK,HV.cells,g1]; try exact rfl) ?_
   | refine r_fa (by simp (disch:=first|decide|(simp only[zF,zG,g1];decide)) only [zA,zB,zC,zD,zE,zF,zG,zH,zI,zJ,zK,HV.cells,g1]; try exact rfl) ?_
   | refine r_ld1 (by simp (disch:=first|decide|(simp only[zF,zG,g1];decide)) only [zA,zB,zC,zD,zE,zF,zG,zH,zI,zJ,zK,HV.cells,g1]; try exact rfl) (by first|assumption|(simp (disch:=omega) only [get_same,get_other,g1]; first|done|exact rfl)) (by first|assumption|rfl|(simp only [zI,zJ,HV.cells,g1]; exact rfl)) ?_
   | refine r_add (by simp (disch:=first|decide|(simp only[zF,zG,g1];decide)) only [zA,zB,zC,zD,zE,zF,zG,zH,zI,zJ,zK,HV.cells,g1]; try exact rfl) (by simp (disch:=first|decide|(simp only[zF,zG,g1];decide)) only [zA,zB,zC,zD,zE,zF,zG,zH,zI,zJ,zK,HV.cells,g1]; try exact rfl) (by omega) (by omega) ?_
   | refine r_lss (by simp (disch:=first|decide|(simp only[zF,zG,g1];decide)) only [zA,zB,zC,zD,zE,zF,zG,zH,zI,zJ,zK,HV.cells,g1]; try exact rfl) (by simp (disch:=first|decide|(simp only[zF,zG,g1];decide)) only [zA,zB,zC,zD,zE,zF,zG,zH,zI,zJ,zK,HV.cells,g1]; try exact rfl) (fun hc => ?_) (fun hc => ?_) <;> (try (exfalso; omega))
   | refine r_gtr (by simp (disch:=first|decide|(simp only[zF,zG,g1];decide)) only [zA,zB,zC,zD,zE,zF,zG,zH,zI,zJ,zK,HV.cells,g1]; try exact rfl) (by simp (disch:=first|decide|(simp only[zF,zG,g1];decide)) only [zA,zB,zC,zD,zE,zF,zG,zH,zI,zJ,zK,HV.cells,g1]; try exact rfl) (fun hc => ?_) (fun hc => ?_) <;> (try (exfalso; omega))
   | refine r_eq (by simp (disch:=first|decide|(simp only[zF,zG,g1];decide)) only [zA,zB,zC,zD,zE,zF,zG,zH,zI,zJ,zK,HV.cells,g1]; try exact rfl) (by simp (disch:=first|decide|(simp only[zF,zG,g1];decide)) only [zA,zB,zC,zD,zE,zF,zG,zH,zI,zJ,zK,HV.cells,g1]; try exact rfl) (fun hc => ?_) (fun hc => ?_) <;> (try (exfalso; omega))
   | refine r_ne (by simp (disch:=first|decide|(simp only[zF,zG,g1];decide)) only [zA,zB,zC,zD,zE,zF,zG,zH,zI,zJ,zK,HV.cells,g1]; try exact rfl) (by simp (disch:=first|decide|(simp only[zF,zG,g1];decide)) only [zA,zB,zC,zD,zE,zF,zG,zH,zI,zJ,zK,HV.cells,g1]; try exact rfl) (fun hc => ?_) (fun hc => ?_) <;> (try (exfalso; omega))
   | refine r_eqb (by simp (disch:=first|decide|(simp only[zF,zG,g1];decide)) only [zA,zB,zC,zD,zE,zF,zG,zH,zI,zJ,zK,HV.cells,g1]; try exact rfl) (by simp (disch:=first|decide|(simp only[zF,zG,g1];decide)) only [zA,zB,zC,zD,zE,zF,zG,zH,zI,zJ,zK,HV.cells,g1]; try exact rfl) ?_
   | refine r_pt (by simp (disch:=first|decide|(simp only[zF,zG,g1];decide)) only [zA,zB,zC,zD,zE,zF,zG,zH,zI,zJ,zK,HV.cells,g1]; first|done|exact rfl) (by simp (disch:=first|decide|(simp only[zF,zG,g1];decide)) only [zA,zB,zC,zD,zE,zF,zG,zH,zI,zJ,zK,HV.cells,g1]; try exact rfl) ?_
   | refine r_pf (by simp (disch:=first|decide|(simp only[zF,zG,g1];decide)) only [zA,zB,zC,zD,zE,zF,zG,zH,zI,zJ,zK,HV.cells,g1]; first|done|exact rfl) (by simp (disch:=first|decide|(simp only[zF,zG,g1];decide)) only [zA,zB,zC,zD,zE,zF,zG,zH,zI,zJ,zK,HV.cells,g1]; try exact rfl) ?_
   | refine r_len (by simp (disch:=first|decide|(simp only[zF,zG,g1];decide)) only [zA,zB,zC,zD,zE,zF,zG,zH,zI,zJ,zK,HV.cells,g1]; try exact rfl) ?_
   | refine r_ixs (by simp (disch:=first|decide|(simp only[zF,zG,g1];decide)) only [zA,zB,zC,zD,zE,zF,zG,zH,zI,zJ,zK,HV.cells,g1]; try exact rfl) (by simp (disch:=first|decide|(simp only[zF,zG,g1];decide)) only [zA,zB,zC,zD,zE,zF,zG,zH,zI,zJ,zK,HV.cells,g1]; try exact rfl) (by omega) ?_
   | refine w_draw (by omega) (by repeat' first|assumption|refine D.upd ?_ (by omega)|exact D.mono (by assumption) (by omega)) ?_
   | refine d_nil ?_
   | refine d_rest rfl ?_
   | refine d_bs rfl ?_
   | refine d_box rfl ?_
   | refine d_alloc rfl ?_
   | refine d_one rfl ?_
   | refine d_next (by omega) ?_
   | refine d_laid ?_
   | fail
  refine fin_r (by simp only [zL, g2]) (by simp (disch:=first|decide|(simp only[zF,zG,g1];decide)) only [zA,zB,zC,zD,zE,zF,zG,zH,zI,zJ,zK,HV.cells,g1]; try exact rfl) (sc_flat rfl (by dsimp only; omega) rfl)
end Go.Hx

namespace Go.Hx
set_option linter.unusedSimpArgs false
set_option linter.unusedVariables false
set_option maxRecDepth 20000
set_option maxHeartbeats 4000000
attribute [local irreducible] W R C thenH inBlockH
theorem len_of {α : Type} {l : List α} {i : Nat} {x : α} (h : l[i]? = some x) : i < l.length := by
  rcases Nat.lt_or_ge i l.length with h1 | h1
  · exact h1
  · rw [List.getElem?_eq_none h1] at h; cases h
theorem ow_in : ∀ (A B : List HV) (v w : HV) (o : Nat), o = A.length → overwrite (A ++ w :: B) o [v] = some (A ++ v :: B) := fun A B v w o ho => by subst ho; exact ow_mid v w A B
theorem rd_parts : ∀ (L : List Rd) (k : Nat) (x : Rd), L[k]? = some x → ∃ A B : List HV, A.length = k * 4 ∧ L.flatMap Rd.enc = A ++ (x.enc ++ B) ∧ ∀ y : Rd, (L.set k y).flatMap Rd.enc = A ++ (y.enc ++ B)
  | [], k, x, h => by simp at h
  | z :: L, 0, x, h => by
    simp at h; subst h
    exact ⟨[], L.flatMap Rd.enc, rfl, rfl, fun y => rfl⟩
  | z :: L, k + 1, x, h => by
    obtain ⟨A, B, h1, h2, h3⟩ := rd_parts L k x (by simpa using h)
    refine ⟨z.enc ++ A, B, by rw [List.length_append, h1]; show 4 + k * 4 = _; omega, ?_, fun y => ?_⟩
    · rw [List.flatMap_cons, h2, List.append_assoc]
    · show z.enc ++ (L.set k y).flatMap Rd.enc = _; rw [h3 y, List.append_assoc]
theorem rd_lo (L : List Rd) (k : Nat) (x : Rd) (h : L[k]? = some x) (v : Int) : overwrite (L.flatMap Rd.enc) (0 + k * 4 + 2 + 0) [i64 v] = some ((L.set k ⟨x.f, x.g, v, x.hi⟩).flatMap Rd.enc) := by
  obtain ⟨A, B, h1, h2, h3⟩ := rd_parts L k x h
  rw [h2, h3]
  show overwrite (A ++ ([i64 x.f, i64 x.g] ++ (i64 x.lo :: (i64 x.hi :: B)))) _ _ = some (A ++ ([i64 x.f, i64 x.g] ++ (i64 v :: (i64 x.hi :: B))))
  rw [← List.append_assoc, ← List.append_assoc]
  exact ow_in _ _ _ _ _ (by rw [List.length_append, h1]; show _ = k * 4 + 2; omega)
theorem rd_hi (L : List Rd) (k : Nat) (x : Rd) (h : L[k]? = some x) (v : Int) : overwrite (L.flatMap Rd.enc) (0 + k * 4 + 2 + 1) [i64 v] = some ((L.set k ⟨x.f, x.g, x.lo, v⟩).flatMap Rd.enc) := by
  obtain ⟨A, B, h1, h2, h3⟩ := rd_parts L k x h
  rw [h2, h3]
  show overwrite (A ++ ([i64 x.f, i64 x.g, i64 x.lo] ++ (i64 x.hi :: B))) _ _ = some (A ++ ([i64 x.f, i64 x.g, i64 x.lo] ++ (i64 v :: B)))
  rw [← List.append_assoc, ← List.append_assoc]
  exact ow_in _ _ _ _ _ (by rw [List.length_append, h1]; show _ = k * 4 + 3; omega)
theorem rd_at (L : List Rd) (k : Nat) (x : Rd) (h : L[k]? = some x) {j : Nat} {v : HV} (hv : x.enc[j]? = some v) : (L.flatMap Rd.enc)[0 + k * 4 + j]? = some v := take_at (flat_row Rd.enc_len L k x h) hv
/-- Of readings that say more, bounds are narrower. -/
theorem more_ok {t : Tb} {n : Nat} {l l2 : List Rd} (hcn : t.c = n) (hT : TubeOk t.c t.t t.a t.b) (hl : ∀ r ∈ l, RdOk2 t.c r) (hl2 : ∀ r ∈ l2, RdOk2 t.c r) (hs : ∀ r ∈ l, ∃ r2 ∈ l2, ∀ H, RightC n r2 H → RightC n r H) :
    ∀ M2, readO t n l2 = some M2 → ∃ M, readO t n l = some M ∧ ∀ k, k ≤ n → -(M k 0) ≤ -(M2 k 0) ∧ M2 0 k ≤ M 0 k := by
  intro M2 h2
  obtain ⟨_, _, hG⟩ := unr_ok hcn hT
  rw [hcn] at hl hl2
  have f2 := fun H => readGo_feas (H := H) l2 [] (unrM n t) M2 hl2 hG (fun r hr => by cases hr) h2
  have g2 := readGo_good l2 [] (unrM n t) M2 hl2 hG h2
  have to : ∀ H, Feas n M2 H → Feas n (unrM n t) H ∧ ∀ r ∈ l, RightC n r H := fun H hF => by
    obtain ⟨a, b⟩ := (f2 H).1 hF
    exact ⟨a, fun r hr => by obtain ⟨r2, h3, h4⟩ := hs r hr; exact h4 H (b r2 h3)⟩
  cases hO : readO t n l with
  | none => exact absurd (to _ (feas_hi g2)) (readGo_none l [] (unrM n t) hl hG hO)
  | some M =>
    exact ⟨M, rfl, fun k hk => bounds_mono g2 (fun H hF => (readGo_feas l [] (unrM n t) M hl hG (fun r hr => by cases hr) hO).2 (to H hF)) hk⟩
noncomputable def T12 : LCode := match L12.body with
  | .seq _ (.seq _ x) => x
  | _ => .bad
/- 12 -/
theorem rest12 {h h4 : Tr HBlk} {nx n4 xb : Nat} {t : Tb} {l : List Rd} {r : Rd} {w1 w2 : Int} {p : Option (Nat × Nat)} {cp : Nat} {a : HAct} (hd : D h nx) (hlen : l.length < 1000000000000) (hrow : Row Rd.enc 4 h nx p l) (hw1 : 0 ≤ w1 ∧ w1 < 256) (hw2 : 0 ≤ w2 ∧ w2 < 256)
    (e4 : Ext h nx h4 n4) (hx1 : nx + 2 ≤ xb) (hx2 : xb < n4) (hgt : h4.get nx = some (.cells t.cells .exact)) (hgx : h4.get xb = some (.cells ((l ++ [r]).flatMap Rd.enc) (.opn 4)))
    (hnt : a.nt = 117) (hds : a.defers = []) (h1 : a.tmp 1 = .slice p l.length cp) (h3 : a.tmp 3 = .int .u8 w1) (h4' : a.tmp 4 = .int .u8 w2) (h5 : a.tmp 5 = .ptr (some (nx, 0))) (h11 : a.tmp 11 = .slice (some (xb, 0)) (l.length + 1) (l.length + 1)) :
    W LW nx none T12 (Fin ⟨h, nx⟩ [.t 10] (Sc (· = .bool true) ⟨h, nx⟩)) a ⟨h4, n4⟩ := by
  have tk : takeN 4 (t.cells.drop 0) = some t.cells := rfl
  have hle := e4.le
  have hd4 := e4.d
  have hLl : (l ++ [r]).length = l.length + 1 := by simp
  unfold T12 L12
  dsimp only
  have cR : ∀ fl h' n', l.length ≤ 11 → Ext h4 n4 h' n' → C LW fl 56 [.agg t.cells, .slice (some (xb, 0)) (l.length + 1) (l.length + 1)] ⟨h', n'⟩ (Sc (· = .bool (decide (errOf t.c t.t t.a t.b (l ++ [r]) = 0))) ⟨h', n'⟩) := fun fl h' n' hl e => by
    have := c_ready (fl := fl) (t := t) (l := l ++ [r]) (p := some (xb, 0)) (m := l.length + 1) (cp := l.length + 1) e.d (by omega) (by omega) ((flat_row0 (c := 0) Rd.enc_len hx2 hgx).ext e)
    rwa [show decide ((l ++ [r]).length ≤ 15 ∧ errOf t.c t.t t.a t.b (l ++ [r]) = 0) = decide (errOf t.c t.t t.a t.b (l ++ [r]) = 0) by
      congr 1; exact propext ⟨fun e => e.2, fun e => ⟨by omega, e⟩⟩] at this
  repeat' first
   | refine r_nil ?_
   | refine th_n ?_
   | refine th_r ?_
   | refine w_seq ?_
   | refine w_reg ?_
   | refine w_ret ?_
   | refine w_skip ?_
   | refine w_t (by simp (disch:=first|decide|(simp only[zF,zG,hnt, h1, h3, h4', h5, h11];decide)) only [zA,zB,zC,zD,zE,zF,zG,zH,zI,zJ,zK,HV.cells,hnt, h1, h3, h4', h5, h11]; first|done|exact rfl) ?_
   | refine w_f (by simp (disch:=first|decide|(simp only[zF,zG,hnt, h1, h3, h4', h5, h11];decide)) only [zA,zB,zC,zD,zE,zF,zG,zH,zI,zJ,zK,HV.cells,hnt, h1, h3, h4', h5, h11]; first|done|exact rfl) ?_
   | refine r_take (by simp (disch:=first|decide|(simp only[zF,zG,hnt, h1, h3, h4', h5, h11];decide)) only [zA,zB,zC,zD,zE,zF,zG,zH,zI,zJ,zK,HV.cells,hnt, h1, h3, h4', h5, h11]; first|done|exact rfl) ?_
   | refine r_drop (by simp (disch:=first|decide|(simp only[zF,zG,Bool.not_true,Bool.not_false,hnt, h1, h3, h4', h5, h11];decide)) only [zA,zB,zC,zD,zE,zF,zG,zH,zI,zJ,zK,HV.cells,Bool.not_true,Bool.not_false,hnt, h1, h3, h4', h5, h11]; first|done|exact rfl) ?_
   | refine r_move (by simp (disch:=first|decide|(simp only[zF,zG,hnt, h1, h3, h4', h5, h11];decide)) only [zA,zB,zC,zD,zE,zF,zG,zH,zI,zJ,zK,HV.cells,hnt, h1, h3, h4', h5, h11]; try exact rfl) ?_
   | refine r_fa (by simp (disch:=first|decide|(simp only[zF,zG,hnt, h1, h3, h4', h5, h11];decide)) only [zA,zB,zC,zD,zE,zF,zG,zH,zI,zJ,zK,HV.cells,hnt, h1, h3, h4', h5, h11]; try exact rfl) ?_
   | refine r_ld1 (by simp (disch:=first|decide|(simp only[zF,zG,hnt, h1, h3, h4', h5, h11];decide)) only [zA,zB,zC,zD,zE,zF,zG,zH,zI,zJ,zK,HV.cells,hnt, h1, h3, h4', h5, h11]; try exact rfl) (by first|assumption|(simp (disch:=omega) only [get_same,get_other,hnt, h1, h3, h4', h5, h11]; first|done|exact rfl)) (by first|assumption|rfl|(simp only [zI,zJ,HV.cells,hnt, h1, h3, h4', h5, h11]; exact rfl)) ?_
   | refine r_ldn (by simp (disch:=first|decide|(simp only[zF,zG,hnt, h1, h3, h4', h5, h11];decide)) only [zA,zB,zC,zD,zE,zF,zG,zH,zI,zJ,zK,HV.cells,hnt, h1, h3, h4', h5, h11]; try exact rfl) (by first|assumption|(simp (disch:=omega) only [get_same,get_other,hnt, h1, h3, h4', h5, h11]; first|done|exact rfl)) (by first|assumption|rfl|(simp only [zI,zJ,HV.cells,hnt, h1, h3, h4', h5, h11]; exact rfl)) ?_
   | refine r_box (by simp (disch:=first|decide|(simp only[zF,zG,hnt, h1, h3, h4', h5, h11];decide)) only [zA,zB,zC,zD,zE,zF,zG,zH,zI,zJ,zK,HV.cells,hnt, h1, h3, h4', h5, h11]; try exact rfl) ?_
   | refine r_st (cs' := _) (by simp (disch:=first|decide|(simp only[zF,zG,hnt, h1, h3, h4', h5, h11];decide)) only [zA,zB,zC,zD,zE,zF,zG,zH,zI,zJ,zK,HV.cells,hnt, h1, h3, h4', h5, h11]; try exact rfl) (by simp (disch:=first|decide|(simp only[zF,zG,hnt, h1, h3, h4', h5, h11];decide)) only [zA,zB,zC,zD,zE,zF,zG,zH,zI,zJ,zK,HV.cells,hnt, h1, h3, h4', h5, h11]; try exact rfl) (by first|assumption|(simp (disch:=omega) only [get_same,get_other,hnt, h1, h3, h4', h5, h11]; first|done|exact rfl)) (by exact True.intro) (by rfl) (by rfl) (by first|assumption|rfl|(simp only [zI,zJ,HV.cells,hnt, h1, h3, h4', h5, h11]; exact rfl)) (by omega) ?_
   | refine r_add (by simp (disch:=first|decide|(simp only[zF,zG,hnt, h1, h3, h4', h5, h11];decide)) only [zA,zB,zC,zD,zE,zF,zG,zH,zI,zJ,zK,HV.cells,hnt, h1, h3, h4', h5, h11]; try exact rfl) (by simp (disch:=first|decide|(simp only[zF,zG,hnt, h1, h3, h4', h5, h11];decide)) only [zA,zB,zC,zD,zE,zF,zG,zH,zI,zJ,zK,HV.cells,hnt, h1, h3, h4', h5, h11]; try exact rfl) (by omega) (by omega) ?_
   | refine r_sub (by simp (disch:=first|decide|(simp only[zF,zG,hnt, h1, h3, h4', h5, h11];decide)) only [zA,zB,zC,zD,zE,zF,zG,zH,zI,zJ,zK,HV.cells,hnt, h1, h3, h4', h5, h11]; try exact rfl) (by simp (disch:=first|decide|(simp only[zF,zG,hnt, h1, h3, h4', h5, h11];decide)) only [zA,zB,zC,zD,zE,zF,zG,zH,zI,zJ,zK,HV.cells,hnt, h1, h3, h4', h5, h11]; try exact rfl) (by omega) (by omega) ?_
   | refine r_max2 (by simp (disch:=first|decide|(simp only[zF,zG,hnt, h1, h3, h4', h5, h11];decide)) only [zA,zB,zC,zD,zE,zF,zG,zH,zI,zJ,zK,HV.cells,hnt, h1, h3, h4', h5, h11]; try exact rfl) (by simp (disch:=first|decide|(simp only[zF,zG,hnt, h1, h3, h4', h5, h11];decide)) only [zA,zB,zC,zD,zE,zF,zG,zH,zI,zJ,zK,HV.cells,hnt, h1, h3, h4', h5, h11]; try exact rfl) ?_
   | refine r_min2 (by simp (disch:=first|decide|(simp only[zF,zG,hnt, h1, h3, h4', h5, h11];decide)) only [zA,zB,zC,zD,zE,zF,zG,zH,zI,zJ,zK,HV.cells,hnt, h1, h3, h4', h5, h11]; try exact rfl) (by simp (disch:=first|decide|(simp only[zF,zG,hnt, h1, h3, h4', h5, h11];decide)) only [zA,zB,zC,zD,zE,zF,zG,zH,zI,zJ,zK,HV.cells,hnt, h1, h3, h4', h5, h11]; try exact rfl) ?_
   | refine r_gtr (by simp (disch:=first|decide|(simp only[zF,zG,hnt, h1, h3, h4', h5, h11];decide)) only [zA,zB,zC,zD,zE,zF,zG,zH,zI,zJ,zK,HV.cells,hnt, h1, h3, h4', h5, h11]; try exact rfl) (by simp (disch:=first|decide|(simp only[zF,zG,hnt, h1, h3, h4', h5, h11];decide)) only [zA,zB,zC,zD,zE,zF,zG,zH,zI,zJ,zK,HV.cells,hnt, h1, h3, h4', h5, h11]; try exact rfl) (fun hc => ?_) (fun hc => ?_) <;> (try (exfalso; omega))
   | refine r_eq (by simp (disch:=first|decide|(simp only[zF,zG,hnt, h1, h3, h4', h5, h11];decide)) only [zA,zB,zC,zD,zE,zF,zG,zH,zI,zJ,zK,HV.cells,hnt, h1, h3, h4', h5, h11]; try exact rfl) (by simp (disch:=first|decide|(simp only[zF,zG,hnt, h1, h3, h4', h5, h11];decide)) only [zA,zB,zC,zD,zE,zF,zG,zH,zI,zJ,zK,HV.cells,hnt, h1, h3, h4', h5, h11]; try exact rfl) (fun hc => ?_) (fun hc => ?_) <;> (try (exfalso; omega))
   | refine r_ne (by simp (disch:=first|decide|(simp only[zF,zG,hnt, h1, h3, h4', h5, h11];decide)) only [zA,zB,zC,zD,zE,zF,zG,zH,zI,zJ,zK,HV.cells,hnt, h1, h3, h4', h5, h11]; try exact rfl) (by simp (disch:=first|decide|(simp only[zF,zG,hnt, h1, h3, h4', h5, h11];decide)) only [zA,zB,zC,zD,zE,zF,zG,zH,zI,zJ,zK,HV.cells,hnt, h1, h3, h4', h5, h11]; try exact rfl) (fun hc => ?_) (fun hc => ?_) <;> (try (exfalso; omega))
   | refine r_eqb (by simp (disch:=first|decide|(simp only[zF,zG,hnt, h1, h3, h4', h5, h11];decide)) only [zA,zB,zC,zD,zE,zF,zG,zH,zI,zJ,zK,HV.cells,hnt, h1, h3, h4', h5, h11]; try exact rfl) (by simp (disch:=first|decide|(simp only[zF,zG,hnt, h1, h3, h4', h5, h11];decide)) only [zA,zB,zC,zD,zE,zF,zG,zH,zI,zJ,zK,HV.cells,hnt, h1, h3, h4', h5, h11]; try exact rfl) ?_
   | refine r_not1 (by simp (disch:=first|decide|(simp only[zF,zG,hnt, h1, h3, h4', h5, h11];decide)) only [zA,zB,zC,zD,zE,zF,zG,zH,zI,zJ,zK,HV.cells,hnt, h1, h3, h4', h5, h11]; try exact rfl) ?_
   | refine r_pt (by simp (disch:=first|decide|(simp only[zF,zG,hnt, h1, h3, h4', h5, h11];decide)) only [zA,zB,zC,zD,zE,zF,zG,zH,zI,zJ,zK,HV.cells,hnt, h1, h3, h4', h5, h11]; first|done|exact rfl) (by simp (disch:=first|decide|(simp only[zF,zG,hnt, h1, h3, h4', h5, h11];decide)) only [zA,zB,zC,zD,zE,zF,zG,zH,zI,zJ,zK,HV.cells,hnt, h1, h3, h4', h5, h11]; try exact rfl) ?_
   | refine r_pf (by simp (disch:=first|decide|(simp only[zF,zG,hnt, h1, h3, h4', h5, h11];decide)) only [zA,zB,zC,zD,zE,zF,zG,zH,zI,zJ,zK,HV.cells,hnt, h1, h3, h4', h5, h11]; first|done|exact rfl) (by simp (disch:=first|decide|(simp only[zF,zG,hnt, h1, h3, h4', h5, h11];decide)) only [zA,zB,zC,zD,zE,zF,zG,zH,zI,zJ,zK,HV.cells,hnt, h1, h3, h4', h5, h11]; try exact rfl) ?_
   | refine r_len (by simp (disch:=first|decide|(simp only[zF,zG,hnt, h1, h3, h4', h5, h11];decide)) only [zA,zB,zC,zD,zE,zF,zG,zH,zI,zJ,zK,HV.cells,hnt, h1, h3, h4', h5, h11]; try exact rfl) ?_
   | refine r_ixs (by simp (disch:=first|decide|(simp only[zF,zG,hnt, h1, h3, h4', h5, h11];decide)) only [zA,zB,zC,zD,zE,zF,zG,zH,zI,zJ,zK,HV.cells,hnt, h1, h3, h4', h5, h11]; try exact rfl) (by simp (disch:=first|decide|(simp only[zF,zG,hnt, h1, h3, h4', h5, h11];decide)) only [zA,zB,zC,zD,zE,zF,zG,zH,zI,zJ,zK,HV.cells,hnt, h1, h3, h4', h5, h11]; try exact rfl) (by omega) ?_
   | refine r_ext (by simp (disch:=first|decide|(simp only[zF,zG,hnt, h1, h3, h4', h5, h11];decide)) only [zA,zB,zC,zD,zE,zF,zG,zH,zI,zJ,zK,HV.cells,hnt, h1, h3, h4', h5, h11]; try exact rfl) (by first|assumption|rfl|(simp only [zI,zJ,HV.cells,hnt, h1, h3, h4', h5, h11]; exact rfl)) ?_
   | refine r_bs (by simp (disch:=first|decide|(simp only[zF,zG,hnt, h1, h3, h4', h5, h11];decide)) only [evParts,List.map_cons,List.map_nil,List.nil_append,List.cons_append,List.append_nil,zA,zB,zC,zD,zE,zF,zG,zH,zI,zJ,zK,HV.cells,hnt, h1, h3, h4', h5, h11]; try exact rfl) ?_
   | refine r_nc (by simp (disch:=first|decide|(simp only[zF,zG,hnt, h1, h3, h4', h5, h11];decide)) only [zA,zB,zC,zD,zE,zF,zG,zH,zI,zJ,zK,HV.cells,hnt, h1, h3, h4', h5, h11]; try exact rfl) ?_
   | refine r_rem (by simp (disch:=first|decide|(simp only[zF,zG,hnt, h1, h3, h4', h5, h11];decide)) only [zA,zB,zC,zD,zE,zF,zG,zH,zI,zJ,zK,HV.cells,hnt, h1, h3, h4', h5, h11]; try exact rfl) (by simp (disch:=first|decide|(simp only[zF,zG,hnt, h1, h3, h4', h5, h11];decide)) only [zA,zB,zC,zD,zE,zF,zG,zH,zI,zJ,zK,HV.cells,hnt, h1, h3, h4', h5, h11]; try exact rfl) (by omega) (by omega) ?_
   | refine r_quop (by simp (disch:=first|decide|(simp only[zF,zG,hnt, h1, h3, h4', h5, h11];decide)) only [zA,zB,zC,zD,zE,zF,zG,zH,zI,zJ,zK,HV.cells,hnt, h1, h3, h4', h5, h11]; try exact rfl) (by simp (disch:=first|decide|(simp only[zF,zG,hnt, h1, h3, h4', h5, h11];decide)) only [zA,zB,zC,zD,zE,zF,zG,zH,zI,zJ,zK,HV.cells,hnt, h1, h3, h4', h5, h11]; try exact rfl) (by omega) (by omega) (by omega) ?_
   | refine r_conv (by simp (disch:=first|decide|(simp only[zF,zG,hnt, h1, h3, h4', h5, h11];decide)) only [zA,zB,zC,zD,zE,zF,zG,zH,zI,zJ,zK,HV.cells,hnt, h1, h3, h4', h5, h11]; try exact rfl) (by omega) (by omega) ?_
   | refine r_calld (by simp (disch:=first|decide|(simp only[zF,zG,hnt, h1, h3, h4', h5, h11];decide)) only [zA,zB,zC,zD,zE,zF,zG,zH,zI,zJ,zK,HV.cells,hnt, h1, h3, h4', h5, h11]; try exact rfl) (by simp (disch:=first|decide|(simp only[zF,zG,hnt, h1, h3, h4', h5, h11];decide)) only [List.map_cons,List.map_nil,List.nil_append,List.cons_append,List.append_nil,zA,zB,zC,zD,zE,zF,zG,zH,zI,zJ,zK,HV.cells,hnt, h1, h3, h4', h5, h11]; try exact rfl) (cR _ _ _ (by omega) (by repeat' first|assumption|refine Ext.put ?_ (by omega) (by omega)|exact Ext.up (by assumption) (by omega)|exact Ext.nx (by assumption) (by omega))) (fun n' hn' hc => ?_) (fun n' hn' hc => ?_) <;> (try (exfalso; omega))
   | refine r_calls (by simp (disch:=first|decide|(simp only[zF,zG,hnt, h1, h3, h4', h5, h11];decide)) only [zA,zB,zC,zD,zE,zF,zG,zH,zI,zJ,zK,HV.cells,hnt, h1, h3, h4', h5, h11]; try exact rfl) (by simp (disch:=first|decide|(simp only[zF,zG,hnt, h1, h3, h4', h5, h11];decide)) only [List.map_cons,List.map_nil,List.nil_append,List.cons_append,List.append_nil,zA,zB,zC,zD,zE,zF,zG,zH,zI,zJ,zK,HV.cells,hnt, h1, h3, h4', h5, h11]; try exact rfl) c_wakes (fun n' hn' => ?_)
   | refine w_draw (by omega) (by repeat' first|assumption|refine D.upd ?_ (by omega)|exact D.mono (by assumption) (by omega)) ?_
   | refine d_nil ?_
   | refine d_rest rfl ?_
   | refine d_bs rfl ?_
   | refine d_box rfl ?_
   | refine d_alloc rfl ?_
   | refine d_one rfl ?_
   | refine d_next (by omega) ?_
   | refine d_laid ?_
   | fail
  case refine_1 => refine fin_r (by simp only [zL, hds]) (by simp (disch:=first|decide|(simp only[zF,zG,hnt];decide)) only [zA,zB,zC,zD,zE,zF,zG,zH,zI,zJ,zK,HV.cells,hnt]; try exact rfl) (sc_flat rfl (by dsimp only; omega) rfl)
  case refine_2.refine_2 => refine fin_r (by simp only [zL, hds]) (by simp (disch:=first|decide|(simp only[zF,zG,hnt];decide)) only [zA,zB,zC,zD,zE,zF,zG,zH,zI,zJ,zK,HV.cells,hnt]; try exact rfl) (sc_flat rfl (by dsimp only; omega) rfl)
  case refine_2.refine_1 =>
    have hE := hc
    obtain ⟨hT, hL12, hR⟩ := errOf_zero hE
    have hTo := hT
    unfold TubeOk at hTo
    obtain ⟨n, hcn⟩ : ∃ n : Nat, t.c = n := ⟨t.c.toNat, by omega⟩
    obtain ⟨k, hk⟩ : ∃ k : Nat, w1 % ((l.length + 1 : Nat) : Int) = k := ⟨(w1 % ((l.length + 1 : Nat) : Int)).toNat, by have := Int.emod_nonneg w1 (show ((l.length + 1 : Nat) : Int) ≠ 0 by omega); omega⟩
    have hk2 : k < l.length + 1 := by have := Int.emod_lt_of_pos w1 (show 0 < ((l.length + 1 : Nat) : Int) by omega); omega
    obtain ⟨x, hx⟩ : ∃ x, (l ++ [r])[k]? = some x := ⟨(l ++ [r])[k], List.getElem?_eq_getElem (by omega)⟩
    have hxr := hR x (List.mem_of_getElem? hx)
    unfold RdOk2 at hxr
    have eh : ((l ++ [r]).flatMap Rd.enc)[0 + k * 4 + 2 + 1]? = some (i64 x.hi) := rd_at _ k x hx (j := 3) rfl
    have el : ((l ++ [r]).flatMap Rd.enc)[0 + k * 4 + 2 + 0]? = some (i64 x.lo) := rd_at _ k x hx (j := 2) rfl
    have m5 := Int.emod_nonneg w2 (show (5 : Int) ≠ 0 by omega)
    have m6 := Int.emod_lt_of_pos w2 (show (0 : Int) < 5 by omega)
    have m7 := Int.emod_nonneg (w2 / 8) (show (5 : Int) ≠ 0 by omega)
    have m8 := Int.emod_lt_of_pos (w2 / 8) (show (0 : Int) < 5 by omega)
    obtain ⟨lo', hlo⟩ : ∃ v, v = min x.hi (x.lo + w2 % 5) := ⟨_, rfl⟩
    obtain ⟨hi', hhi⟩ : ∃ v, v = max lo' (x.hi - w2 / 8 % 5) := ⟨_, rfl⟩
    have ow1 := rd_lo (l ++ [r]) k x hx lo'
    have hx1' : ((l ++ [r]).set k ⟨x.f, x.g, lo', x.hi⟩)[k]? = some ⟨x.f, x.g, lo', x.hi⟩ := by rw [List.getElem?_set, if_pos rfl, if_pos (by omega)]
    have ow2 := rd_hi _ k _ hx1' hi'
    rw [List.set_set] at ow2
    have eh1 : (((l ++ [r]).set k ⟨x.f, x.g, lo', x.hi⟩).flatMap Rd.enc)[0 + k * 4 + 2 + 1]? = some (i64 x.hi) := rd_at _ k _ hx1' (j := 3) rfl
    have el1 : (((l ++ [r]).set k ⟨x.f, x.g, lo', x.hi⟩).flatMap Rd.enc)[0 + k * 4 + 2 + 0]? = some (i64 lo') := rd_at _ k _ hx1' (j := 2) rfl
    have hL2 : ∀ y ∈ (l ++ [r]).set k ⟨x.f, x.g, lo', hi'⟩, RdOk2 t.c y := fun y hy => by
      rcases List.mem_or_eq_of_mem_set hy with e | e
      · exact hR y e
      · subst e; unfold RdOk2; dsimp only; omega
    have hE2 : errOf t.c t.t t.a t.b ((l ++ [r]).set k ⟨x.f, x.g, lo', hi'⟩) = 0 := by unfold errOf; rw [if_pos hT, if_pos (by rw [List.length_set]; exact hL12), if_pos hL2]
    have hl : ∀ y ∈ l, RdOk2 t.c y := fun y hy => hR y (List.mem_append_left _ hy)
    have hEl : errOf t.c t.t t.a t.b l = 0 := by unfold errOf; rw [if_pos hT, if_pos (by omega), if_pos hl]
    have hmore := more_ok (t := t) (n := n) (l := l) (l2 := (l ++ [r]).set k ⟨x.f, x.g, lo', hi'⟩) hcn hT hl hL2 (fun y hy => by
      obtain ⟨j, hj, rfl⟩ := List.getElem_of_mem hy
      by_cases e : j = k
      · subst e
        have hxe : x = l[j] := by rw [List.getElem?_append_left hj, List.getElem?_eq_getElem hj] at hx; cases hx; rfl
        refine ⟨_, List.mem_of_getElem? (by rw [List.getElem?_set, if_pos rfl, if_pos (by omega)] : ((l ++ [r]).set j ⟨x.f, x.g, lo', hi'⟩)[j]? = some ⟨x.f, x.g, lo', hi'⟩), fun H hH => ?_⟩
        unfold RightC at hH ⊢
        dsimp only at hH
        rw [← hxe]
        exact ⟨by omega, fun hg => by have := hH.2 hg; omega⟩
      · exact ⟨l[j], List.mem_of_getElem? (by rw [List.getElem?_set, if_neg (by omega), List.getElem?_append_left hj, List.getElem?_eq_getElem hj] : ((l ++ [r]).set k ⟨x.f, x.g, lo', hi'⟩)[j]? = some l[j]), fun H hH => hH⟩)
    have hL2l : ((l ++ [r]).set k ⟨x.f, x.g, lo', hi'⟩).length = l.length + 1 := by rw [List.length_set]; exact hLl
    revert hE2 hmore hL2l ow2
    generalize (l ++ [r]).set k ⟨x.f, x.g, lo', hi'⟩ = L2
    intro ow2 hE2 hmore hL2l
    have cT : ∀ fl h' n', D h' n' → C LW fl 21 [.agg t.cells] ⟨h', n'⟩ (Sc (· = .agg t.cells) ⟨h', n'⟩) := fun fl h' n' e => c_Tube e
    repeat' first
     | refine r_nil ?_
     | refine th_n ?_
     | refine th_r ?_
     | refine w_seq ?_
     | refine w_reg ?_
     | refine w_ret ?_
     | refine w_skip ?_
     | refine w_t (by simp (disch:=first|decide|(simp only[zF,zG,hnt, h1, h3, h4', h5, h11, hgx, hgt, hk, ← hlo, ← hhi];decide)) only [zA,zB,zC,zD,zE,zF,zG,zH,zI,zJ,zK,HV.cells,hnt, h1, h3, h4', h5, h11, hgx, hgt, hk, ← hlo, ← hhi]; first|done|exact rfl) ?_
     | refine w_f (by simp (disch:=first|decide|(simp only[zF,zG,hnt, h1, h3, h4', h5, h11, hgx, hgt, hk, ← hlo, ← hhi];decide)) only [zA,zB,zC,zD,zE,zF,zG,zH,zI,zJ,zK,HV.cells,hnt, h1, h3, h4', h5, h11, hgx, hgt, hk, ← hlo, ← hhi]; first|done|exact rfl) ?_
     | refine r_take (by simp (disch:=first|decide|(simp only[zF,zG,hnt, h1, h3, h4', h5, h11, hgx, hgt, hk, ← hlo, ← hhi];decide)) only [zA,zB,zC,zD,zE,zF,zG,zH,zI,zJ,zK,HV.cells,hnt, h1, h3, h4', h5, h11, hgx, hgt, hk, ← hlo, ← hhi]; first|done|exact rfl) ?_
     | refine r_drop (by simp (disch:=first|decide|(simp only[zF,zG,Bool.not_true,Bool.not_false,hnt, h1, h3, h4', h5, h11, hgx, hgt, hk, ← hlo, ← hhi];decide)) only [zA,zB,zC,zD,zE,zF,zG,zH,zI,zJ,zK,HV.cells,Bool.not_true,Bool.not_false,hnt, h1, h3, h4', h5, h11, hgx, hgt, hk, ← hlo, ← hhi]; first|done|exact rfl) ?_
     | refine r_move (by simp (disch:=first|decide|(simp only[zF,zG,hnt, h1, h3, h4', h5, h11, hgx, hgt, hk, ← hlo, ← hhi];decide)) only [zA,zB,zC,zD,zE,zF,zG,zH,zI,zJ,zK,HV.cells,hnt, h1, h3, h4', h5, h11, hgx, hgt, hk, ← hlo, ← hhi]; try exact rfl) ?_
     | refine r_fa (by simp (disch:=first|decide|(simp only[zF,zG,hnt, h1, h3, h4', h5, h11, hgx, hgt, hk, ← hlo, ← hhi];decide)) only [zA,zB,zC,zD,zE,zF,zG,zH,zI,zJ,zK,HV.cells,hnt, h1, h3, h4', h5, h11, hgx, hgt, hk, ← hlo, ← hhi]; try exact rfl) ?_
     | refine r_ld1 (by simp (disch:=first|decide|(simp only[zF,zG,hnt, h1, h3, h4', h5, h11, hgx, hgt, hk, ← hlo, ← hhi];decide)) only [zA,zB,zC,zD,zE,zF,zG,zH,zI,zJ,zK,HV.cells,hnt, h1, h3, h4', h5, h11, hgx, hgt, hk, ← hlo, ← hhi]; try exact rfl) (by first|assumption|(simp (disch:=omega) only [get_same,get_other,hnt, h1, h3, h4', h5, h11, hgx, hgt, hk, ← hlo, ← hhi]; first|done|exact rfl)) (by first|assumption|rfl|(simp only [zI,zJ,HV.cells,hnt, h1, h3, h4', h5, h11, hgx, hgt, hk, ← hlo, ← hhi]; exact rfl)) ?_
     | refine r_ldn (by simp (disch:=first|decide|(simp only[zF,zG,hnt, h1, h3, h4', h5, h11, hgx, hgt, hk, ← hlo, ← hhi];decide)) only [zA,zB,zC,zD,zE,zF,zG,zH,zI,zJ,zK,HV.cells,hnt, h1, h3, h4', h5, h11, hgx, hgt, hk, ← hlo, ← hhi]; try exact rfl) (by first|assumption|(simp (disch:=omega) only [get_same,get_other,hnt, h1, h3, h4', h5, h11, hgx, hgt, hk, ← hlo, ← hhi]; first|done|exact rfl)) (by first|assumption|rfl|(simp only [zI,zJ,HV.cells,hnt, h1, h3, h4', h5, h11, hgx, hgt, hk, ← hlo, ← hhi]; exact rfl)) ?_
     | refine r_box (by simp (disch:=first|decide|(simp only[zF,zG,hnt, h1, h3, h4', h5, h11, hgx, hgt, hk, ← hlo, ← hhi];decide)) only [zA,zB,zC,zD,zE,zF,zG,zH,zI,zJ,zK,HV.cells,hnt, h1, h3, h4', h5, h11, hgx, hgt, hk, ← hlo, ← hhi]; try exact rfl) ?_
     | refine r_st (cs' := _) (by simp (disch:=first|decide|(simp only[zF,zG,hnt, h1, h3, h4', h5, h11, hgx, hgt, hk, ← hlo, ← hhi];decide)) only [zA,zB,zC,zD,zE,zF,zG,zH,zI,zJ,zK,HV.cells,hnt, h1, h3, h4', h5, h11, hgx, hgt, hk, ← hlo, ← hhi]; try exact rfl) (by simp (disch:=first|decide|(simp only[zF,zG,hnt, h1, h3, h4', h5, h11, hgx, hgt, hk, ← hlo, ← hhi];decide)) only [zA,zB,zC,zD,zE,zF,zG,zH,zI,zJ,zK,HV.cells,hnt, h1, h3, h4', h5, h11, hgx, hgt, hk, ← hlo, ← hhi]; try exact rfl) (by first|assumption|(simp (disch:=omega) only [get_same,get_other,hnt, h1, h3, h4', h5, h11, hgx, hgt, hk, ← hlo, ← hhi]; first|done|exact rfl)) (by exact True.intro) (by rfl) (by rfl) (by first|assumption|rfl|(simp only [zI,zJ,HV.cells,hnt, h1, h3, h4', h5, h11, hgx, hgt, hk, ← hlo, ← hhi]; exact rfl)) (by omega) ?_
     | refine r_add (by simp (disch:=first|decide|(simp only[zF,zG,hnt, h1, h3, h4', h5, h11, hgx, hgt, hk, ← hlo, ← hhi];decide)) only [zA,zB,zC,zD,zE,zF,zG,zH,zI,zJ,zK,HV.cells,hnt, h1, h3, h4', h5, h11, hgx, hgt, hk, ← hlo, ← hhi]; try exact rfl) (by simp (disch:=first|decide|(simp only[zF,zG,hnt, h1, h3, h4', h5, h11, hgx, hgt, hk, ← hlo, ← hhi];decide)) only [zA,zB,zC,zD,zE,zF,zG,zH,zI,zJ,zK,HV.cells,hnt, h1, h3, h4', h5, h11, hgx, hgt, hk, ← hlo, ← hhi]; try exact rfl) (by omega) (by omega) ?_
     | refine r_sub (by simp (disch:=first|decide|(simp only[zF,zG,hnt, h1, h3, h4', h5, h11, hgx, hgt, hk, ← hlo, ← hhi];decide)) only [zA,zB,zC,zD,zE,zF,zG,zH,zI,zJ,zK,HV.cells,hnt, h1, h3, h4', h5, h11, hgx, hgt, hk, ← hlo, ← hhi]; try exact rfl) (by simp (disch:=first|decide|(simp only[zF,zG,hnt, h1, h3, h4', h5, h11, hgx, hgt, hk, ← hlo, ← hhi];decide)) only [zA,zB,zC,zD,zE,zF,zG,zH,zI,zJ,zK,HV.cells,hnt, h1, h3, h4', h5, h11, hgx, hgt, hk, ← hlo, ← hhi]; try exact rfl) (by omega) (by omega) ?_
     | refine r_max2 (by simp (disch:=first|decide|(simp only[zF,zG,hnt, h1, h3, h4', h5, h11, hgx, hgt, hk, ← hlo, ← hhi];decide)) only [zA,zB,zC,zD,zE,zF,zG,zH,zI,zJ,zK,HV.cells,hnt, h1, h3, h4', h5, h11, hgx, hgt, hk, ← hlo, ← hhi]; try exact rfl) (by simp (disch:=first|decide|(simp only[zF,zG,hnt, h1, h3, h4', h5, h11, hgx, hgt, hk, ← hlo, ← hhi];decide)) only [zA,zB,zC,zD,zE,zF,zG,zH,zI,zJ,zK,HV.cells,hnt, h1, h3, h4', h5, h11, hgx, hgt, hk, ← hlo, ← hhi]; try exact rfl) ?_
     | refine r_min2 (by simp (disch:=first|decide|(simp only[zF,zG,hnt, h1, h3, h4', h5, h11, hgx, hgt, hk, ← hlo, ← hhi];decide)) only [zA,zB,zC,zD,zE,zF,zG,zH,zI,zJ,zK,HV.cells,hnt, h1, h3, h4', h5, h11, hgx, hgt, hk, ← hlo, ← hhi]; try exact rfl) (by simp (disch:=first|decide|(simp only[zF,zG,hnt, h1, h3, h4', h5, h11, hgx, hgt, hk, ← hlo, ← hhi];decide)) only [zA,zB,zC,zD,zE,zF,zG,zH,zI,zJ,zK,HV.cells,hnt, h1, h3, h4', h5, h11, hgx, hgt, hk, ← hlo, ← hhi]; try exact rfl) ?_
     | refine r_gtr (by simp (disch:=first|decide|(simp only[zF,zG,hnt, h1, h3, h4', h5, h11, hgx, hgt, hk, ← hlo, ← hhi];decide)) only [zA,zB,zC,zD,zE,zF,zG,zH,zI,zJ,zK,HV.cells,hnt, h1, h3, h4', h5, h11, hgx, hgt, hk, ← hlo, ← hhi]; try exact rfl) (by simp (disch:=first|decide|(simp only[zF,zG,hnt, h1, h3, h4', h5, h11, hgx, hgt, hk, ← hlo, ← hhi];decide)) only [zA,zB,zC,zD,zE,zF,zG,zH,zI,zJ,zK,HV.cells,hnt, h1, h3, h4', h5, h11, hgx, hgt, hk, ← hlo, ← hhi]; try exact rfl) (fun hc => ?_) (fun hc => ?_) <;> (try (exfalso; omega))
     | refine r_eq (by simp (disch:=first|decide|(simp only[zF,zG,hnt, h1, h3, h4', h5, h11, hgx, hgt, hk, ← hlo, ← hhi];decide)) only [zA,zB,zC,zD,zE,zF,zG,zH,zI,zJ,zK,HV.cells,hnt, h1, h3, h4', h5, h11, hgx, hgt, hk, ← hlo, ← hhi]; try exact rfl) (by simp (disch:=first|decide|(simp only[zF,zG,hnt, h1, h3, h4', h5, h11, hgx, hgt, hk, ← hlo, ← hhi];decide)) only [zA,zB,zC,zD,zE,zF,zG,zH,zI,zJ,zK,HV.cells,hnt, h1, h3, h4', h5, h11, hgx, hgt, hk, ← hlo, ← hhi]; try exact rfl) (fun hc => ?_) (fun hc => ?_) <;> (try (exfalso; omega))
     | refine r_ne (by simp (disch:=first|decide|(simp only[zF,zG,hnt, h1, h3, h4', h5, h11, hgx, hgt, hk, ← hlo, ← hhi];decide)) only [zA,zB,zC,zD,zE,zF,zG,zH,zI,zJ,zK,HV.cells,hnt, h1, h3, h4', h5, h11, hgx, hgt, hk, ← hlo, ← hhi]; try exact rfl) (by simp (disch:=first|decide|(simp only[zF,zG,hnt, h1, h3, h4', h5, h11, hgx, hgt, hk, ← hlo, ← hhi];decide)) only [zA,zB,zC,zD,zE,zF,zG,zH,zI,zJ,zK,HV.cells,hnt, h1, h3, h4', h5, h11, hgx, hgt, hk, ← hlo, ← hhi]; try exact rfl) (fun hc => ?_) (fun hc => ?_) <;> (try (exfalso; omega))
     | refine r_eqb (by simp (disch:=first|decide|(simp only[zF,zG,hnt, h1, h3, h4', h5, h11, hgx, hgt, hk, ← hlo, ← hhi];decide)) only [zA,zB,zC,zD,zE,zF,zG,zH,zI,zJ,zK,HV.cells,hnt, h1, h3, h4', h5, h11, hgx, hgt, hk, ← hlo, ← hhi]; try exact rfl) (by simp (disch:=first|decide|(simp only[zF,zG,hnt, h1, h3, h4', h5, h11, hgx, hgt, hk, ← hlo, ← hhi];decide)) only [zA,zB,zC,zD,zE,zF,zG,zH,zI,zJ,zK,HV.cells,hnt, h1, h3, h4', h5, h11, hgx, hgt, hk, ← hlo, ← hhi]; try exact rfl) ?_
     | refine r_not1 (by simp (disch:=first|decide|(simp only[zF,zG,hnt, h1, h3, h4', h5, h11, hgx, hgt, hk, ← hlo, ← hhi];decide)) only [zA,zB,zC,zD,zE,zF,zG,zH,zI,zJ,zK,HV.cells,hnt, h1, h3, h4', h5, h11, hgx, hgt, hk, ← hlo, ← hhi]; try exact rfl) ?_
     | refine r_pt (by simp (disch:=first|decide|(simp only[zF,zG,hnt, h1, h3, h4', h5, h11, hgx, hgt, hk, ← hlo, ← hhi];decide)) only [zA,zB,zC,zD,zE,zF,zG,zH,zI,zJ,zK,HV.cells,hnt, h1, h3, h4', h5, h11, hgx, hgt, hk, ← hlo, ← hhi]; first|done|exact rfl) (by simp (disch:=first|decide|(simp only[zF,zG,hnt, h1, h3, h4', h5, h11, hgx, hgt, hk, ← hlo, ← hhi];decide)) only [zA,zB,zC,zD,zE,zF,zG,zH,zI,zJ,zK,HV.cells,hnt, h1, h3, h4', h5, h11, hgx, hgt, hk, ← hlo, ← hhi]; try exact rfl) ?_
     | refine r_pf (by simp (disch:=first|decide|(simp only[zF,zG,hnt, h1, h3, h4', h5, h11, hgx, hgt, hk, ← hlo, ← hhi];decide)) only [zA,zB,zC,zD,zE,zF,zG,zH,zI,zJ,zK,HV.cells,hnt, h1, h3, h4', h5, h11, hgx, hgt, hk, ← hlo, ← hhi]; first|done|exact rfl) (by simp (disch:=first|decide|(simp only[zF,zG,hnt, h1, h3, h4', h5, h11, hgx, hgt, hk, ← hlo, ← hhi];decide)) only [zA,zB,zC,zD,zE,zF,zG,zH,zI,zJ,zK,HV.cells,hnt, h1, h3, h4', h5, h11, hgx, hgt, hk, ← hlo, ← hhi]; try exact rfl) ?_
     | refine r_len (by simp (disch:=first|decide|(simp only[zF,zG,hnt, h1, h3, h4', h5, h11, hgx, hgt, hk, ← hlo, ← hhi];decide)) only [zA,zB,zC,zD,zE,zF,zG,zH,zI,zJ,zK,HV.cells,hnt, h1, h3, h4', h5, h11, hgx, hgt, hk, ← hlo, ← hhi]; try exact rfl) ?_
     | refine r_ixs (by simp (disch:=first|decide|(simp only[zF,zG,hnt, h1, h3, h4', h5, h11, hgx, hgt, hk, ← hlo, ← hhi];decide)) only [zA,zB,zC,zD,zE,zF,zG,zH,zI,zJ,zK,HV.cells,hnt, h1, h3, h4', h5, h11, hgx, hgt, hk, ← hlo, ← hhi]; try exact rfl) (by simp (disch:=first|decide|(simp only[zF,zG,hnt, h1, h3, h4', h5, h11, hgx, hgt, hk, ← hlo, ← hhi];decide)) only [zA,zB,zC,zD,zE,zF,zG,zH,zI,zJ,zK,HV.cells,hnt, h1, h3, h4', h5, h11, hgx, hgt, hk, ← hlo, ← hhi]; try exact rfl) (by omega) ?_
     | refine r_ext (by simp (disch:=first|decide|(simp only[zF,zG,hnt, h1, h3, h4', h5, h11, hgx, hgt, hk, ← hlo, ← hhi];decide)) only [zA,zB,zC,zD,zE,zF,zG,zH,zI,zJ,zK,HV.cells,hnt, h1, h3, h4', h5, h11, hgx, hgt, hk, ← hlo, ← hhi]; try exact rfl) (by first|assumption|rfl|(simp only [zI,zJ,HV.cells,hnt, h1, h3, h4', h5, h11, hgx, hgt, hk, ← hlo, ← hhi]; exact rfl)) ?_
     | refine r_bs (by simp (disch:=first|decide|(simp only[zF,zG,hnt, h1, h3, h4', h5, h11, hgx, hgt, hk, ← hlo, ← hhi];decide)) only [evParts,List.map_cons,List.map_nil,List.nil_append,List.cons_append,List.append_nil,zA,zB,zC,zD,zE,zF,zG,zH,zI,zJ,zK,HV.cells,hnt, h1, h3, h4', h5, h11, hgx, hgt, hk, ← hlo, ← hhi]; try exact rfl) ?_
     | refine r_nc (by simp (disch:=first|decide|(simp only[zF,zG,hnt, h1, h3, h4', h5, h11, hgx, hgt, hk, ← hlo, ← hhi];decide)) only [zA,zB,zC,zD,zE,zF,zG,zH,zI,zJ,zK,HV.cells,hnt, h1, h3, h4', h5, h11, hgx, hgt, hk, ← hlo, ← hhi]; try exact rfl) ?_
     | refine r_rem (by simp (disch:=first|decide|(simp only[zF,zG,hnt, h1, h3, h4', h5, h11, hgx, hgt, hk, ← hlo, ← hhi];decide)) only [zA,zB,zC,zD,zE,zF,zG,zH,zI,zJ,zK,HV.cells,hnt, h1, h3, h4', h5, h11, hgx, hgt, hk, ← hlo, ← hhi]; try exact rfl) (by simp (disch:=first|decide|(simp only[zF,zG,hnt, h1, h3, h4', h5, h11, hgx, hgt, hk, ← hlo, ← hhi];decide)) only [zA,zB,zC,zD,zE,zF,zG,zH,zI,zJ,zK,HV.cells,hnt, h1, h3, h4', h5, h11, hgx, hgt, hk, ← hlo, ← hhi]; try exact rfl) (by omega) (by omega) ?_
     | refine r_quop (by simp (disch:=first|decide|(simp only[zF,zG,hnt, h1, h3, h4', h5, h11, hgx, hgt, hk, ← hlo, ← hhi];decide)) only [zA,zB,zC,zD,zE,zF,zG,zH,zI,zJ,zK,HV.cells,hnt, h1, h3, h4', h5, h11, hgx, hgt, hk, ← hlo, ← hhi]; try exact rfl) (by simp (disch:=first|decide|(simp only[zF,zG,hnt, h1, h3, h4', h5, h11, hgx, hgt, hk, ← hlo, ← hhi];decide)) only [zA,zB,zC,zD,zE,zF,zG,zH,zI,zJ,zK,HV.cells,hnt, h1, h3, h4', h5, h11, hgx, hgt, hk, ← hlo, ← hhi]; try exact rfl) (by omega) (by omega) (by omega) ?_
     | refine r_conv (by simp (disch:=first|decide|(simp only[zF,zG,hnt, h1, h3, h4', h5, h11, hgx, hgt, hk, ← hlo, ← hhi];decide)) only [zA,zB,zC,zD,zE,zF,zG,zH,zI,zJ,zK,HV.cells,hnt, h1, h3, h4', h5, h11, hgx, hgt, hk, ← hlo, ← hhi]; try exact rfl) (by omega) (by omega) ?_
     | refine r_calls (by simp (disch:=first|decide|(simp only[zF,zG,hnt, h1, h3, h4', h5, h11, hgx, hgt, hk, ← hlo, ← hhi];decide)) only [zA,zB,zC,zD,zE,zF,zG,zH,zI,zJ,zK,HV.cells,hnt, h1, h3, h4', h5, h11, hgx, hgt, hk, ← hlo, ← hhi]; try exact rfl) (by simp (disch:=first|decide|(simp only[zF,zG,hnt, h1, h3, h4', h5, h11, hgx, hgt, hk, ← hlo, ← hhi];decide)) only [List.map_cons,List.map_nil,List.nil_append,List.cons_append,List.append_nil,zA,zB,zC,zD,zE,zF,zG,zH,zI,zJ,zK,HV.cells,hnt, h1, h3, h4', h5, h11, hgx, hgt, hk, ← hlo, ← hhi]; try exact rfl) (cT _ _ _ (by repeat' first|assumption|refine D.upd ?_ (by omega)|exact D.mono (by assumption) (by omega))) (fun n' hn' => ?_)
     | refine w_draw (by omega) (by repeat' first|assumption|refine D.upd ?_ (by omega)|exact D.mono (by assumption) (by omega)) ?_
     | refine d_nil ?_
     | refine d_rest rfl ?_
     | refine d_bs rfl ?_
     | refine d_box rfl ?_
     | refine d_alloc rfl ?_
     | refine d_one rfl ?_
     | refine d_next (by omega) ?_
     | refine d_laid ?_
     | fail
    refine r_callc (by simp (disch:=first|decide|(simp only[zF,zG,hnt, h1];decide)) only [zA,zB,zC,zD,zE,zF,zG,zH,zI,zJ,zK,HV.cells,hnt, h1]; try exact rfl) (by simp (disch:=first|decide|(simp only[zF,zG,hnt, h1];decide)) only [List.map_cons,List.map_nil,List.nil_append,List.cons_append,List.append_nil,zA,zB,zC,zD,zE,zF,zG,zH,zI,zJ,zK,HV.cells,hnt, h1]; try exact rfl) (c_Readings (l := l) (cp := cp) (by repeat' first|assumption|refine D.upd ?_ (by omega)|exact D.mono (by assumption) (by omega)) rfl (by omega) (Row.ext hrow (by repeat' first|assumption|refine Ext.put ?_ (by omega) (by omega)|exact Ext.up (by assumption) (by omega)|exact Ext.nx (by assumption) (by omega)))) ?_
    rintro u1 σ1 ⟨p2, c2, h6, n6, rfl, rfl, e6, hr6⟩
    dsimp only at e6
    have hle6 := e6.le
    have hd6 := e6.d
    have s6 : h6.get nx = some (.cells t.cells .exact) := by rw [e6.same _ (by omega)]; exact (by first|assumption|(simp (disch:=omega) only [get_same,get_other,hgt]; first|done|exact rfl))
    have x6 : h6.get xb = some (.cells (L2.flatMap Rd.enc) (.opn 4)) := by rw [e6.same _ (by omega), get_same]
    repeat' first
     | refine r_nil ?_
     | refine th_n ?_
     | refine th_r ?_
     | refine w_seq ?_
     | refine w_reg ?_
     | refine w_ret ?_
     | refine w_skip ?_
     | refine w_t (by simp (disch:=first|decide|(simp only[zF,zG,hnt];decide)) only [zA,zB,zC,zD,zE,zF,zG,zH,zI,zJ,zK,HV.cells,hnt]; first|done|exact rfl) ?_
     | refine w_f (by simp (disch:=first|decide|(simp only[zF,zG,hnt];decide)) only [zA,zB,zC,zD,zE,zF,zG,zH,zI,zJ,zK,HV.cells,hnt]; first|done|exact rfl) ?_
     | refine r_take (by simp (disch:=first|decide|(simp only[zF,zG,hnt];decide)) only [zA,zB,zC,zD,zE,zF,zG,zH,zI,zJ,zK,HV.cells,hnt]; first|done|exact rfl) ?_
     | refine r_drop (by simp (disch:=first|decide|(simp only[zF,zG,Bool.not_true,Bool.not_false,hnt];decide)) only [zA,zB,zC,zD,zE,zF,zG,zH,zI,zJ,zK,HV.cells,Bool.not_true,Bool.not_false,hnt]; first|done|exact rfl) ?_
     | refine r_move (by simp (disch:=first|decide|(simp only[zF,zG,hnt];decide)) only [zA,zB,zC,zD,zE,zF,zG,zH,zI,zJ,zK,HV.cells,hnt]; try exact rfl) ?_
     | refine r_fa (by simp (disch:=first|decide|(simp only[zF,zG,hnt];decide)) only [zA,zB,zC,zD,zE,zF,zG,zH,zI,zJ,zK,HV.cells,hnt]; try exact rfl) ?_
     | refine r_ld1 (by simp (disch:=first|decide|(simp only[zF,zG,hnt];decide)) only [zA,zB,zC,zD,zE,zF,zG,zH,zI,zJ,zK,HV.cells,hnt]; try exact rfl) (by first|assumption|(simp (disch:=omega) only [get_same,get_other,hnt]; first|done|exact rfl)) (by first|assumption|rfl|(simp only [zI,zJ,HV.cells,hnt]; exact rfl)) ?_
     | refine r_ldn (by simp (disch:=first|decide|(simp only[zF,zG,hnt];decide)) only [zA,zB,zC,zD,zE,zF,zG,zH,zI,zJ,zK,HV.cells,hnt]; try exact rfl) (by first|assumption|(simp (disch:=omega) only [get_same,get_other,hnt]; first|done|exact rfl)) (by first|assumption|rfl|(simp only [zI,zJ,HV.cells,hnt]; exact rfl)) ?_
     | refine r_box (by simp (disch:=first|decide|(simp only[zF,zG,hnt];decide)) only [zA,zB,zC,zD,zE,zF,zG,zH,zI,zJ,zK,HV.cells,hnt]; try exact rfl) ?_
     | refine r_st (cs' := _) (by simp (disch:=first|decide|(simp only[zF,zG,hnt];decide)) only [zA,zB,zC,zD,zE,zF,zG,zH,zI,zJ,zK,HV.cells,hnt]; try exact rfl) (by simp (disch:=first|decide|(simp only[zF,zG,hnt];decide)) only [zA,zB,zC,zD,zE,zF,zG,zH,zI,zJ,zK,HV.cells,hnt]; try exact rfl) (by first|assumption|(simp (disch:=omega) only [get_same,get_other,hnt]; first|done|exact rfl)) (by exact True.intro) (by rfl) (by rfl) (by first|assumption|rfl|(simp only [zI,zJ,HV.cells,hnt]; exact rfl)) (by omega) ?_
     | refine r_add (by simp (disch:=first|decide|(simp only[zF,zG,hnt];decide)) only [zA,zB,zC,zD,zE,zF,zG,zH,zI,zJ,zK,HV.cells,hnt]; try exact rfl) (by simp (disch:=first|decide|(simp only[zF,zG,hnt];decide)) only [zA,zB,zC,zD,zE,zF,zG,zH,zI,zJ,zK,HV.cells,hnt]; try exact rfl) (by omega) (by omega) ?_
     | refine r_sub (by simp (disch:=first|decide|(simp only[zF,zG,hnt];decide)) only [zA,zB,zC,zD,zE,zF,zG,zH,zI,zJ,zK,HV.cells,hnt]; try exact rfl) (by simp (disch:=first|decide|(simp only[zF,zG,hnt];decide)) only [zA,zB,zC,zD,zE,zF,zG,zH,zI,zJ,zK,HV.cells,hnt]; try exact rfl) (by omega) (by omega) ?_
     | refine r_max2 (by simp (disch:=first|decide|(simp only[zF,zG,hnt];decide)) only [zA,zB,zC,zD,zE,zF,zG,zH,zI,zJ,zK,HV.cells,hnt]; try exact rfl) (by simp (disch:=first|decide|(simp only[zF,zG,hnt];decide)) only [zA,zB,zC,zD,zE,zF,zG,zH,zI,zJ,zK,HV.cells,hnt]; try exact rfl) ?_
     | refine r_min2 (by simp (disch:=first|decide|(simp only[zF,zG,hnt];decide)) only [zA,zB,zC,zD,zE,zF,zG,zH,zI,zJ,zK,HV.cells,hnt]; try exact rfl) (by simp (disch:=first|decide|(simp only[zF,zG,hnt];decide)) only [zA,zB,zC,zD,zE,zF,zG,zH,zI,zJ,zK,HV.cells,hnt]; try exact rfl) ?_
     | refine r_gtr (by simp (disch:=first|decide|(simp only[zF,zG,hnt];decide)) only [zA,zB,zC,zD,zE,zF,zG,zH,zI,zJ,zK,HV.cells,hnt]; try exact rfl) (by simp (disch:=first|decide|(simp only[zF,zG,hnt];decide)) only [zA,zB,zC,zD,zE,zF,zG,zH,zI,zJ,zK,HV.cells,hnt]; try exact rfl) (fun hc => ?_) (fun hc => ?_) <;> (try (exfalso; omega))
     | refine r_eq (by simp (disch:=first|decide|(simp only[zF,zG,hnt];decide)) only [zA,zB,zC,zD,zE,zF,zG,zH,zI,zJ,zK,HV.cells,hnt]; try exact rfl) (by simp (disch:=first|decide|(simp only[zF,zG,hnt];decide)) only [zA,zB,zC,zD,zE,zF,zG,zH,zI,zJ,zK,HV.cells,hnt]; try exact rfl) (fun hc => ?_) (fun hc => ?_) <;> (try (exfalso; omega))
     | refine r_ne (by simp (disch:=first|decide|(simp only[zF,zG,hnt];decide)) only [zA,zB,zC,zD,zE,zF,zG,zH,zI,zJ,zK,HV.cells,hnt]; try exact rfl) (by simp (disch:=first|decide|(simp only[zF,zG,hnt];decide)) only [zA,zB,zC,zD,zE,zF,zG,zH,zI,zJ,zK,HV.cells,hnt]; try exact rfl) (fun hc => ?_) (fun hc => ?_) <;> (try (exfalso; omega))
     | refine r_eqb (by simp (disch:=first|decide|(simp only[zF,zG,hnt];decide)) only [zA,zB,zC,zD,zE,zF,zG,zH,zI,zJ,zK,HV.cells,hnt]; try exact rfl) (by simp (disch:=first|decide|(simp only[zF,zG,hnt];decide)) only [zA,zB,zC,zD,zE,zF,zG,zH,zI,zJ,zK,HV.cells,hnt]; try exact rfl) ?_
     | refine r_not1 (by simp (disch:=first|decide|(simp only[zF,zG,hnt];decide)) only [zA,zB,zC,zD,zE,zF,zG,zH,zI,zJ,zK,HV.cells,hnt]; try exact rfl) ?_
     | refine r_pt (by simp (disch:=first|decide|(simp only[zF,zG,hnt];decide)) only [zA,zB,zC,zD,zE,zF,zG,zH,zI,zJ,zK,HV.cells,hnt]; first|done|exact rfl) (by simp (disch:=first|decide|(simp only[zF,zG,hnt];decide)) only [zA,zB,zC,zD,zE,zF,zG,zH,zI,zJ,zK,HV.cells,hnt]; try exact rfl) ?_
     | refine r_pf (by simp (disch:=first|decide|(simp only[zF,zG,hnt];decide)) only [zA,zB,zC,zD,zE,zF,zG,zH,zI,zJ,zK,HV.cells,hnt]; first|done|exact rfl) (by simp (disch:=first|decide|(simp only[zF,zG,hnt];decide)) only [zA,zB,zC,zD,zE,zF,zG,zH,zI,zJ,zK,HV.cells,hnt]; try exact rfl) ?_
     | refine r_len (by simp (disch:=first|decide|(simp only[zF,zG,hnt];decide)) only [zA,zB,zC,zD,zE,zF,zG,zH,zI,zJ,zK,HV.cells,hnt]; try exact rfl) ?_
     | refine r_ixs (by simp (disch:=first|decide|(simp only[zF,zG,hnt];decide)) only [zA,zB,zC,zD,zE,zF,zG,zH,zI,zJ,zK,HV.cells,hnt]; try exact rfl) (by simp (disch:=first|decide|(simp only[zF,zG,hnt];decide)) only [zA,zB,zC,zD,zE,zF,zG,zH,zI,zJ,zK,HV.cells,hnt]; try exact rfl) (by omega) ?_
     | refine r_ext (by simp (disch:=first|decide|(simp only[zF,zG,hnt];decide)) only [zA,zB,zC,zD,zE,zF,zG,zH,zI,zJ,zK,HV.cells,hnt]; try exact rfl) (by first|assumption|rfl|(simp only [zI,zJ,HV.cells,hnt]; exact rfl)) ?_
     | refine r_bs (by simp (disch:=first|decide|(simp only[zF,zG,hnt];decide)) only [evParts,List.map_cons,List.map_nil,List.nil_append,List.cons_append,List.append_nil,zA,zB,zC,zD,zE,zF,zG,zH,zI,zJ,zK,HV.cells,hnt]; try exact rfl) ?_
     | refine r_nc (by simp (disch:=first|decide|(simp only[zF,zG,hnt];decide)) only [zA,zB,zC,zD,zE,zF,zG,zH,zI,zJ,zK,HV.cells,hnt]; try exact rfl) ?_
     | refine r_rem (by simp (disch:=first|decide|(simp only[zF,zG,hnt];decide)) only [zA,zB,zC,zD,zE,zF,zG,zH,zI,zJ,zK,HV.cells,hnt]; try exact rfl) (by simp (disch:=first|decide|(simp only[zF,zG,hnt];decide)) only [zA,zB,zC,zD,zE,zF,zG,zH,zI,zJ,zK,HV.cells,hnt]; try exact rfl) (by omega) (by omega) ?_
     | refine r_quop (by simp (disch:=first|decide|(simp only[zF,zG,hnt];decide)) only [zA,zB,zC,zD,zE,zF,zG,zH,zI,zJ,zK,HV.cells,hnt]; try exact rfl) (by simp (disch:=first|decide|(simp only[zF,zG,hnt];decide)) only [zA,zB,zC,zD,zE,zF,zG,zH,zI,zJ,zK,HV.cells,hnt]; try exact rfl) (by omega) (by omega) (by omega) ?_
     | refine r_conv (by simp (disch:=first|decide|(simp only[zF,zG,hnt];decide)) only [zA,zB,zC,zD,zE,zF,zG,zH,zI,zJ,zK,HV.cells,hnt]; try exact rfl) (by omega) (by omega) ?_
     | refine w_draw (by omega) (by repeat' first|assumption|refine D.upd ?_ (by omega)|exact D.mono (by assumption) (by omega)) ?_
     | refine d_nil ?_
     | refine d_rest rfl ?_
     | refine d_bs rfl ?_
     | refine d_box rfl ?_
     | refine d_alloc rfl ?_
     | refine d_one rfl ?_
     | refine d_next (by omega) ?_
     | refine d_laid ?_
     | fail
    refine r_callc (by simp (disch:=first|decide|(simp only[zF,zG,hnt];decide)) only [zA,zB,zC,zD,zE,zF,zG,zH,zI,zJ,zK,HV.cells,hnt]; try exact rfl) (by simp (disch:=first|decide|(simp only[zF,zG,hnt];decide)) only [List.map_cons,List.map_nil,List.nil_append,List.cons_append,List.append_nil,zA,zB,zC,zD,zE,zF,zG,zH,zI,zJ,zK,HV.cells,hnt]; try exact rfl) (c_Heights (n := n) (l := l) (cp := c2) hd6 (fun _ => hcn) rfl (by omega) hr6) ?_
    intro u2 σ2 hK1
    have key : ∃ v0 h7 n7, u2 = .tuple [v0, i64 (if (readO t n l).isSome then 0 else 9)] ∧ σ2 = ⟨h7, n7⟩ ∧ Ext h6 n6 h7 n7 ∧ (∀ M, readO t n l = some M → ∃ p c, v0 = .slice p (n + 1) c ∧ Row renc 2 h7 n7 p (BL M (n + 1))) := by
      rcases hK1 with ⟨M, _, hM, p3, c3, h7, n7, rfl, rfl, e7, hr7⟩ | ⟨_, hM, rfl, n7, h7, rfl⟩ | ⟨hM, _⟩
      · exact ⟨_, h7, n7, by rw [hM]; rfl, rfl, e7, fun M' hM' => by rw [hM] at hM'; cases hM'; exact ⟨p3, c3, rfl, hr7⟩⟩
      · exact ⟨_, h6, n7, by rw [hM]; rfl, rfl, Ext.nx hd6 h7, fun M' hM' => by rw [hM] at hM'; cases hM'⟩
      · exact absurd hEl hM
    obtain ⟨v0, h7, n7, rfl, rfl, e7, hv0⟩ := key
    have hle7 := e7.le
    have hd7 := e7.d
    have s7 : h7.get nx = some (.cells t.cells .exact) := by rw [e7.same _ (by omega)]; exact s6
    have x7 : h7.get xb = some (.cells (L2.flatMap Rd.enc) (.opn 4)) := by rw [e7.same _ (by omega)]; exact x6
    have cT7 : ∀ fl h' n', D h' n' → C LW fl 21 [.agg t.cells] ⟨h', n'⟩ (Sc (· = .agg t.cells) ⟨h', n'⟩) := fun fl h' n' e => c_Tube e
    repeat' first
     | refine r_nil ?_
     | refine th_n ?_
     | refine th_r ?_
     | refine w_seq ?_
     | refine w_reg ?_
     | refine w_ret ?_
     | refine w_skip ?_
     | refine w_t (by simp (disch:=first|decide|(simp only[zF,zG,hnt, h5, h11];decide)) only [zA,zB,zC,zD,zE,zF,zG,zH,zI,zJ,zK,HV.cells,hnt, h5, h11]; first|done|exact rfl) ?_
     | refine w_f (by simp (disch:=first|decide|(simp only[zF,zG,hnt, h5, h11];decide)) only [zA,zB,zC,zD,zE,zF,zG,zH,zI,zJ,zK,HV.cells,hnt, h5, h11]; first|done|exact rfl) ?_
     | refine r_take (by simp (disch:=first|decide|(simp only[zF,zG,hnt, h5, h11];decide)) only [zA,zB,zC,zD,zE,zF,zG,zH,zI,zJ,zK,HV.cells,hnt, h5, h11]; first|done|exact rfl) ?_
     | refine r_drop (by simp (disch:=first|decide|(simp only[zF,zG,Bool.not_true,Bool.not_false,hnt, h5, h11];decide)) only [zA,zB,zC,zD,zE,zF,zG,zH,zI,zJ,zK,HV.cells,Bool.not_true,Bool.not_false,hnt, h5, h11]; first|done|exact rfl) ?_
     | refine r_move (by simp (disch:=first|decide|(simp only[zF,zG,hnt, h5, h11];decide)) only [zA,zB,zC,zD,zE,zF,zG,zH,zI,zJ,zK,HV.cells,hnt, h5, h11]; try exact rfl) ?_
     | refine r_fa (by simp (disch:=first|decide|(simp only[zF,zG,hnt, h5, h11];decide)) only [zA,zB,zC,zD,zE,zF,zG,zH,zI,zJ,zK,HV.cells,hnt, h5, h11]; try exact rfl) ?_
     | refine r_ld1 (by simp (disch:=first|decide|(simp only[zF,zG,hnt, h5, h11];decide)) only [zA,zB,zC,zD,zE,zF,zG,zH,zI,zJ,zK,HV.cells,hnt, h5, h11]; try exact rfl) (by first|assumption|(simp (disch:=omega) only [get_same,get_other,hnt, h5, h11]; first|done|exact rfl)) (by first|assumption|rfl|(simp only [zI,zJ,HV.cells,hnt, h5, h11]; exact rfl)) ?_
     | refine r_ldn (by simp (disch:=first|decide|(simp only[zF,zG,hnt, h5, h11];decide)) only [zA,zB,zC,zD,zE,zF,zG,zH,zI,zJ,zK,HV.cells,hnt, h5, h11]; try exact rfl) (by first|assumption|(simp (disch:=omega) only [get_same,get_other,hnt, h5, h11]; first|done|exact rfl)) (by first|assumption|rfl|(simp only [zI,zJ,HV.cells,hnt, h5, h11]; exact rfl)) ?_
     | refine r_box (by simp (disch:=first|decide|(simp only[zF,zG,hnt, h5, h11];decide)) only [zA,zB,zC,zD,zE,zF,zG,zH,zI,zJ,zK,HV.cells,hnt, h5, h11]; try exact rfl) ?_
     | refine r_st (cs' := _) (by simp (disch:=first|decide|(simp only[zF,zG,hnt, h5, h11];decide)) only [zA,zB,zC,zD,zE,zF,zG,zH,zI,zJ,zK,HV.cells,hnt, h5, h11]; try exact rfl) (by simp (disch:=first|decide|(simp only[zF,zG,hnt, h5, h11];decide)) only [zA,zB,zC,zD,zE,zF,zG,zH,zI,zJ,zK,HV.cells,hnt, h5, h11]; try exact rfl) (by first|assumption|(simp (disch:=omega) only [get_same,get_other,hnt, h5, h11]; first|done|exact rfl)) (by exact True.intro) (by rfl) (by rfl) (by first|assumption|rfl|(simp only [zI,zJ,HV.cells,hnt, h5, h11]; exact rfl)) (by omega) ?_
     | refine r_add (by simp (disch:=first|decide|(simp only[zF,zG,hnt, h5, h11];decide)) only [zA,zB,zC,zD,zE,zF,zG,zH,zI,zJ,zK,HV.cells,hnt, h5, h11]; try exact rfl) (by simp (disch:=first|decide|(simp only[zF,zG,hnt, h5, h11];decide)) only [zA,zB,zC,zD,zE,zF,zG,zH,zI,zJ,zK,HV.cells,hnt, h5, h11]; try exact rfl) (by omega) (by omega) ?_
     | refine r_sub (by simp (disch:=first|decide|(simp only[zF,zG,hnt, h5, h11];decide)) only [zA,zB,zC,zD,zE,zF,zG,zH,zI,zJ,zK,HV.cells,hnt, h5, h11]; try exact rfl) (by simp (disch:=first|decide|(simp only[zF,zG,hnt, h5, h11];decide)) only [zA,zB,zC,zD,zE,zF,zG,zH,zI,zJ,zK,HV.cells,hnt, h5, h11]; try exact rfl) (by omega) (by omega) ?_
     | refine r_max2 (by simp (disch:=first|decide|(simp only[zF,zG,hnt, h5, h11];decide)) only [zA,zB,zC,zD,zE,zF,zG,zH,zI,zJ,zK,HV.cells,hnt, h5, h11]; try exact rfl) (by simp (disch:=first|decide|(simp only[zF,zG,hnt, h5, h11];decide)) only [zA,zB,zC,zD,zE,zF,zG,zH,zI,zJ,zK,HV.cells,hnt, h5, h11]; try exact rfl) ?_
     | refine r_min2 (by simp (disch:=first|decide|(simp only[zF,zG,hnt, h5, h11];decide)) only [zA,zB,zC,zD,zE,zF,zG,zH,zI,zJ,zK,HV.cells,hnt, h5, h11]; try exact rfl) (by simp (disch:=first|decide|(simp only[zF,zG,hnt, h5, h11];decide)) only [zA,zB,zC,zD,zE,zF,zG,zH,zI,zJ,zK,HV.cells,hnt, h5, h11]; try exact rfl) ?_
     | refine r_gtr (by simp (disch:=first|decide|(simp only[zF,zG,hnt, h5, h11];decide)) only [zA,zB,zC,zD,zE,zF,zG,zH,zI,zJ,zK,HV.cells,hnt, h5, h11]; try exact rfl) (by simp (disch:=first|decide|(simp only[zF,zG,hnt, h5, h11];decide)) only [zA,zB,zC,zD,zE,zF,zG,zH,zI,zJ,zK,HV.cells,hnt, h5, h11]; try exact rfl) (fun hc => ?_) (fun hc => ?_) <;> (try (exfalso; omega))
     | refine r_eq (by simp (disch:=first|decide|(simp only[zF,zG,hnt, h5, h11];decide)) only [zA,zB,zC,zD,zE,zF,zG,zH,zI,zJ,zK,HV.cells,hnt, h5, h11]; try exact rfl) (by simp (disch:=first|decide|(simp only[zF,zG,hnt, h5, h11];decide)) only [zA,zB,zC,zD,zE,zF,zG,zH,zI,zJ,zK,HV.cells,hnt, h5, h11]; try exact rfl) (fun hc => ?_) (fun hc => ?_) <;> (try (exfalso; omega))
     | refine r_ne (by simp (disch:=first|decide|(simp only[zF,zG,hnt, h5, h11];decide)) only [zA,zB,zC,zD,zE,zF,zG,zH,zI,zJ,zK,HV.cells,hnt, h5, h11]; try exact rfl) (by simp (disch:=first|decide|(simp only[zF,zG,hnt, h5, h11];decide)) only [zA,zB,zC,zD,zE,zF,zG,zH,zI,zJ,zK,HV.cells,hnt, h5, h11]; try exact rfl) (fun hc => ?_) (fun hc => ?_) <;> (try (exfalso; omega))
     | refine r_eqb (by simp (disch:=first|decide|(simp only[zF,zG,hnt, h5, h11];decide)) only [zA,zB,zC,zD,zE,zF,zG,zH,zI,zJ,zK,HV.cells,hnt, h5, h11]; try exact rfl) (by simp (disch:=first|decide|(simp only[zF,zG,hnt, h5, h11];decide)) only [zA,zB,zC,zD,zE,zF,zG,zH,zI,zJ,zK,HV.cells,hnt, h5, h11]; try exact rfl) ?_
     | refine r_not1 (by simp (disch:=first|decide|(simp only[zF,zG,hnt, h5, h11];decide)) only [zA,zB,zC,zD,zE,zF,zG,zH,zI,zJ,zK,HV.cells,hnt, h5, h11]; try exact rfl) ?_
     | refine r_pt (by simp (disch:=first|decide|(simp only[zF,zG,hnt, h5, h11];decide)) only [zA,zB,zC,zD,zE,zF,zG,zH,zI,zJ,zK,HV.cells,hnt, h5, h11]; first|done|exact rfl) (by simp (disch:=first|decide|(simp only[zF,zG,hnt, h5, h11];decide)) only [zA,zB,zC,zD,zE,zF,zG,zH,zI,zJ,zK,HV.cells,hnt, h5, h11]; try exact rfl) ?_
     | refine r_pf (by simp (disch:=first|decide|(simp only[zF,zG,hnt, h5, h11];decide)) only [zA,zB,zC,zD,zE,zF,zG,zH,zI,zJ,zK,HV.cells,hnt, h5, h11]; first|done|exact rfl) (by simp (disch:=first|decide|(simp only[zF,zG,hnt, h5, h11];decide)) only [zA,zB,zC,zD,zE,zF,zG,zH,zI,zJ,zK,HV.cells,hnt, h5, h11]; try exact rfl) ?_
     | refine r_len (by simp (disch:=first|decide|(simp only[zF,zG,hnt, h5, h11];decide)) only [zA,zB,zC,zD,zE,zF,zG,zH,zI,zJ,zK,HV.cells,hnt, h5, h11]; try exact rfl) ?_
     | refine r_ixs (by simp (disch:=first|decide|(simp only[zF,zG,hnt, h5, h11];decide)) only [zA,zB,zC,zD,zE,zF,zG,zH,zI,zJ,zK,HV.cells,hnt, h5, h11]; try exact rfl) (by simp (disch:=first|decide|(simp only[zF,zG,hnt, h5, h11];decide)) only [zA,zB,zC,zD,zE,zF,zG,zH,zI,zJ,zK,HV.cells,hnt, h5, h11]; try exact rfl) (by omega) ?_
     | refine r_ext (by simp (disch:=first|decide|(simp only[zF,zG,hnt, h5, h11];decide)) only [zA,zB,zC,zD,zE,zF,zG,zH,zI,zJ,zK,HV.cells,hnt, h5, h11]; try exact rfl) (by first|assumption|rfl|(simp only [zI,zJ,HV.cells,hnt, h5, h11]; exact rfl)) ?_
     | refine r_bs (by simp (disch:=first|decide|(simp only[zF,zG,hnt, h5, h11];decide)) only [evParts,List.map_cons,List.map_nil,List.nil_append,List.cons_append,List.append_nil,zA,zB,zC,zD,zE,zF,zG,zH,zI,zJ,zK,HV.cells,hnt, h5, h11]; try exact rfl) ?_
     | refine r_nc (by simp (disch:=first|decide|(simp only[zF,zG,hnt, h5, h11];decide)) only [zA,zB,zC,zD,zE,zF,zG,zH,zI,zJ,zK,HV.cells,hnt, h5, h11]; try exact rfl) ?_
     | refine r_rem (by simp (disch:=first|decide|(simp only[zF,zG,hnt, h5, h11];decide)) only [zA,zB,zC,zD,zE,zF,zG,zH,zI,zJ,zK,HV.cells,hnt, h5, h11]; try exact rfl) (by simp (disch:=first|decide|(simp only[zF,zG,hnt, h5, h11];decide)) only [zA,zB,zC,zD,zE,zF,zG,zH,zI,zJ,zK,HV.cells,hnt, h5, h11]; try exact rfl) (by omega) (by omega) ?_
     | refine r_quop (by simp (disch:=first|decide|(simp only[zF,zG,hnt, h5, h11];decide)) only [zA,zB,zC,zD,zE,zF,zG,zH,zI,zJ,zK,HV.cells,hnt, h5, h11]; try exact rfl) (by simp (disch:=first|decide|(simp only[zF,zG,hnt, h5, h11];decide)) only [zA,zB,zC,zD,zE,zF,zG,zH,zI,zJ,zK,HV.cells,hnt, h5, h11]; try exact rfl) (by omega) (by omega) (by omega) ?_
     | refine r_conv (by simp (disch:=first|decide|(simp only[zF,zG,hnt, h5, h11];decide)) only [zA,zB,zC,zD,zE,zF,zG,zH,zI,zJ,zK,HV.cells,hnt, h5, h11]; try exact rfl) (by omega) (by omega) ?_
     | refine r_calls (by simp (disch:=first|decide|(simp only[zF,zG,hnt, h5, h11];decide)) only [zA,zB,zC,zD,zE,zF,zG,zH,zI,zJ,zK,HV.cells,hnt, h5, h11]; try exact rfl) (by simp (disch:=first|decide|(simp only[zF,zG,hnt, h5, h11];decide)) only [List.map_cons,List.map_nil,List.nil_append,List.cons_append,List.append_nil,zA,zB,zC,zD,zE,zF,zG,zH,zI,zJ,zK,HV.cells,hnt, h5, h11]; try exact rfl) (cT7 _ _ _ (by repeat' first|assumption|refine D.upd ?_ (by omega)|exact D.mono (by assumption) (by omega))) (fun n' hn' => ?_)
     | refine w_draw (by omega) (by repeat' first|assumption|refine D.upd ?_ (by omega)|exact D.mono (by assumption) (by omega)) ?_
     | refine d_nil ?_
     | refine d_rest rfl ?_
     | refine d_bs rfl ?_
     | refine d_box rfl ?_
     | refine d_alloc rfl ?_
     | refine d_one rfl ?_
     | refine d_next (by omega) ?_
     | refine d_laid ?_
     | fail
    refine r_callc (by simp (disch:=first|decide|(simp only[zF,zG,hnt, h11];decide)) only [zA,zB,zC,zD,zE,zF,zG,zH,zI,zJ,zK,HV.cells,hnt, h11]; try exact rfl) (by simp (disch:=first|decide|(simp only[zF,zG,hnt, h11];decide)) only [List.map_cons,List.map_nil,List.nil_append,List.cons_append,List.append_nil,zA,zB,zC,zD,zE,zF,zG,zH,zI,zJ,zK,HV.cells,hnt, h11]; try exact rfl) (c_Readings (l := L2) (p := some (xb, 0)) (cp := l.length + 1) (by repeat' first|assumption|refine D.upd ?_ (by omega)|exact D.mono (by assumption) (by omega)) hL2l.symm (by omega) (Row.ext (flat_row0 (c := 0) Rd.enc_len (show xb < n7 by omega) x7) (by repeat' first|assumption|refine Ext.put ?_ (by omega) (by omega)|exact Ext.up (by assumption) (by omega)|exact Ext.nx (by assumption) (by omega)))) ?_
    rintro u3 σ3 ⟨p4, c4, h8, n8, rfl, rfl, e8, hr8⟩
    dsimp only at e8
    have hle8 := e8.le
    have hd8 := e8.d
    have e78 : Ext h7 n7 h8 n8 := Ext.trans (by repeat' first|assumption|refine Ext.put ?_ (by omega) (by omega)|exact Ext.up (by assumption) (by omega)|exact Ext.nx (by assumption) (by omega)) e8
    repeat' first
     | refine r_nil ?_
     | refine th_n ?_
     | refine th_r ?_
     | refine w_seq ?_
     | refine w_reg ?_
     | refine w_ret ?_
     | refine w_skip ?_
     | refine w_t (by simp (disch:=first|decide|(simp only[zF,zG,hnt];decide)) only [zA,zB,zC,zD,zE,zF,zG,zH,zI,zJ,zK,HV.cells,hnt]; first|done|exact rfl) ?_
     | refine w_f (by simp (disch:=first|decide|(simp only[zF,zG,hnt];decide)) only [zA,zB,zC,zD,zE,zF,zG,zH,zI,zJ,zK,HV.cells,hnt]; first|done|exact rfl) ?_
     | refine r_take (by simp (disch:=first|decide|(simp only[zF,zG,hnt];decide)) only [zA,zB,zC,zD,zE,zF,zG,zH,zI,zJ,zK,HV.cells,hnt]; first|done|exact rfl) ?_
     | refine r_drop (by simp (disch:=first|decide|(simp only[zF,zG,Bool.not_true,Bool.not_false,hnt];decide)) only [zA,zB,zC,zD,zE,zF,zG,zH,zI,zJ,zK,HV.cells,Bool.not_true,Bool.not_false,hnt]; first|done|exact rfl) ?_
     | refine r_move (by simp (disch:=first|decide|(simp only[zF,zG,hnt];decide)) only [zA,zB,zC,zD,zE,zF,zG,zH,zI,zJ,zK,HV.cells,hnt]; try exact rfl) ?_
     | refine r_fa (by simp (disch:=first|decide|(simp only[zF,zG,hnt];decide)) only [zA,zB,zC,zD,zE,zF,zG,zH,zI,zJ,zK,HV.cells,hnt]; try exact rfl) ?_
     | refine r_ld1 (by simp (disch:=first|decide|(simp only[zF,zG,hnt];decide)) only [zA,zB,zC,zD,zE,zF,zG,zH,zI,zJ,zK,HV.cells,hnt]; try exact rfl) (by first|assumption|(simp (disch:=omega) only [get_same,get_other,hnt]; first|done|exact rfl)) (by first|assumption|rfl|(simp only [zI,zJ,HV.cells,hnt]; exact rfl)) ?_
     | refine r_ldn (by simp (disch:=first|decide|(simp only[zF,zG,hnt];decide)) only [zA,zB,zC,zD,zE,zF,zG,zH,zI,zJ,zK,HV.cells,hnt]; try exact rfl) (by first|assumption|(simp (disch:=omega) only [get_same,get_other,hnt]; first|done|exact rfl)) (by first|assumption|rfl|(simp only [zI,zJ,HV.cells,hnt]; exact rfl)) ?_
     | refine r_box (by simp (disch:=first|decide|(simp only[zF,zG,hnt];decide)) only [zA,zB,zC,zD,zE,zF,zG,zH,zI,zJ,zK,HV.cells,hnt]; try exact rfl) ?_
     | refine r_st (cs' := _) (by simp (disch:=first|decide|(simp only[zF,zG,hnt];decide)) only [zA,zB,zC,zD,zE,zF,zG,zH,zI,zJ,zK,HV.cells,hnt]; try exact rfl) (by simp (disch:=first|decide|(simp only[zF,zG,hnt];decide)) only [zA,zB,zC,zD,zE,zF,zG,zH,zI,zJ,zK,HV.cells,hnt]; try exact rfl) (by first|assumption|(simp (disch:=omega) only [get_same,get_other,hnt]; first|done|exact rfl)) (by exact True.intro) (by rfl) (by rfl) (by first|assumption|rfl|(simp only [zI,zJ,HV.cells,hnt]; exact rfl)) (by omega) ?_
     | refine r_add (by simp (disch:=first|decide|(simp only[zF,zG,hnt];decide)) only [zA,zB,zC,zD,zE,zF,zG,zH,zI,zJ,zK,HV.cells,hnt]; try exact rfl) (by simp (disch:=first|decide|(simp only[zF,zG,hnt];decide)) only [zA,zB,zC,zD,zE,zF,zG,zH,zI,zJ,zK,HV.cells,hnt]; try exact rfl) (by omega) (by omega) ?_
     | refine r_sub (by simp (disch:=first|decide|(simp only[zF,zG,hnt];decide)) only [zA,zB,zC,zD,zE,zF,zG,zH,zI,zJ,zK,HV.cells,hnt]; try exact rfl) (by simp (disch:=first|decide|(simp only[zF,zG,hnt];decide)) only [zA,zB,zC,zD,zE,zF,zG,zH,zI,zJ,zK,HV.cells,hnt]; try exact rfl) (by omega) (by omega) ?_
     | refine r_max2 (by simp (disch:=first|decide|(simp only[zF,zG,hnt];decide)) only [zA,zB,zC,zD,zE,zF,zG,zH,zI,zJ,zK,HV.cells,hnt]; try exact rfl) (by simp (disch:=first|decide|(simp only[zF,zG,hnt];decide)) only [zA,zB,zC,zD,zE,zF,zG,zH,zI,zJ,zK,HV.cells,hnt]; try exact rfl) ?_
     | refine r_min2 (by simp (disch:=first|decide|(simp only[zF,zG,hnt];decide)) only [zA,zB,zC,zD,zE,zF,zG,zH,zI,zJ,zK,HV.cells,hnt]; try exact rfl) (by simp (disch:=first|decide|(simp only[zF,zG,hnt];decide)) only [zA,zB,zC,zD,zE,zF,zG,zH,zI,zJ,zK,HV.cells,hnt]; try exact rfl) ?_
     | refine r_gtr (by simp (disch:=first|decide|(simp only[zF,zG,hnt];decide)) only [zA,zB,zC,zD,zE,zF,zG,zH,zI,zJ,zK,HV.cells,hnt]; try exact rfl) (by simp (disch:=first|decide|(simp only[zF,zG,hnt];decide)) only [zA,zB,zC,zD,zE,zF,zG,zH,zI,zJ,zK,HV.cells,hnt]; try exact rfl) (fun hc => ?_) (fun hc => ?_) <;> (try (exfalso; omega))
     | refine r_eq (by simp (disch:=first|decide|(simp only[zF,zG,hnt];decide)) only [zA,zB,zC,zD,zE,zF,zG,zH,zI,zJ,zK,HV.cells,hnt]; try exact rfl) (by simp (disch:=first|decide|(simp only[zF,zG,hnt];decide)) only [zA,zB,zC,zD,zE,zF,zG,zH,zI,zJ,zK,HV.cells,hnt]; try exact rfl) (fun hc => ?_) (fun hc => ?_) <;> (try (exfalso; omega))
     | refine r_ne (by simp (disch:=first|decide|(simp only[zF,zG,hnt];decide)) only [zA,zB,zC,zD,zE,zF,zG,zH,zI,zJ,zK,HV.cells,hnt]; try exact rfl) (by simp (disch:=first|decide|(simp only[zF,zG,hnt];decide)) only [zA,zB,zC,zD,zE,zF,zG,zH,zI,zJ,zK,HV.cells,hnt]; try exact rfl) (fun hc => ?_) (fun hc => ?_) <;> (try (exfalso; omega))
     | refine r_eqb (by simp (disch:=first|decide|(simp only[zF,zG,hnt];decide)) only [zA,zB,zC,zD,zE,zF,zG,zH,zI,zJ,zK,HV.cells,hnt]; try exact rfl) (by simp (disch:=first|decide|(simp only[zF,zG,hnt];decide)) only [zA,zB,zC,zD,zE,zF,zG,zH,zI,zJ,zK,HV.cells,hnt]; try exact rfl) ?_
     | refine r_not1 (by simp (disch:=first|decide|(simp only[zF,zG,hnt];decide)) only [zA,zB,zC,zD,zE,zF,zG,zH,zI,zJ,zK,HV.cells,hnt]; try exact rfl) ?_
     | refine r_pt (by simp (disch:=first|decide|(simp only[zF,zG,hnt];decide)) only [zA,zB,zC,zD,zE,zF,zG,zH,zI,zJ,zK,HV.cells,hnt]; first|done|exact rfl) (by simp (disch:=first|decide|(simp only[zF,zG,hnt];decide)) only [zA,zB,zC,zD,zE,zF,zG,zH,zI,zJ,zK,HV.cells,hnt]; try exact rfl) ?_
     | refine r_pf (by simp (disch:=first|decide|(simp only[zF,zG,hnt];decide)) only [zA,zB,zC,zD,zE,zF,zG,zH,zI,zJ,zK,HV.cells,hnt]; first|done|exact rfl) (by simp (disch:=first|decide|(simp only[zF,zG,hnt];decide)) only [zA,zB,zC,zD,zE,zF,zG,zH,zI,zJ,zK,HV.cells,hnt]; try exact rfl) ?_
     | refine r_len (by simp (disch:=first|decide|(simp only[zF,zG,hnt];decide)) only [zA,zB,zC,zD,zE,zF,zG,zH,zI,zJ,zK,HV.cells,hnt]; try exact rfl) ?_
     | refine r_ixs (by simp (disch:=first|decide|(simp only[zF,zG,hnt];decide)) only [zA,zB,zC,zD,zE,zF,zG,zH,zI,zJ,zK,HV.cells,hnt]; try exact rfl) (by simp (disch:=first|decide|(simp only[zF,zG,hnt];decide)) only [zA,zB,zC,zD,zE,zF,zG,zH,zI,zJ,zK,HV.cells,hnt]; try exact rfl) (by omega) ?_
     | refine r_ext (by simp (disch:=first|decide|(simp only[zF,zG,hnt];decide)) only [zA,zB,zC,zD,zE,zF,zG,zH,zI,zJ,zK,HV.cells,hnt]; try exact rfl) (by first|assumption|rfl|(simp only [zI,zJ,HV.cells,hnt]; exact rfl)) ?_
     | refine r_bs (by simp (disch:=first|decide|(simp only[zF,zG,hnt];decide)) only [evParts,List.map_cons,List.map_nil,List.nil_append,List.cons_append,List.append_nil,zA,zB,zC,zD,zE,zF,zG,zH,zI,zJ,zK,HV.cells,hnt]; try exact rfl) ?_
     | refine r_nc (by simp (disch:=first|decide|(simp only[zF,zG,hnt];decide)) only [zA,zB,zC,zD,zE,zF,zG,zH,zI,zJ,zK,HV.cells,hnt]; try exact rfl) ?_
     | refine r_rem (by simp (disch:=first|decide|(simp only[zF,zG,hnt];decide)) only [zA,zB,zC,zD,zE,zF,zG,zH,zI,zJ,zK,HV.cells,hnt]; try exact rfl) (by simp (disch:=first|decide|(simp only[zF,zG,hnt];decide)) only [zA,zB,zC,zD,zE,zF,zG,zH,zI,zJ,zK,HV.cells,hnt]; try exact rfl) (by omega) (by omega) ?_
     | refine r_quop (by simp (disch:=first|decide|(simp only[zF,zG,hnt];decide)) only [zA,zB,zC,zD,zE,zF,zG,zH,zI,zJ,zK,HV.cells,hnt]; try exact rfl) (by simp (disch:=first|decide|(simp only[zF,zG,hnt];decide)) only [zA,zB,zC,zD,zE,zF,zG,zH,zI,zJ,zK,HV.cells,hnt]; try exact rfl) (by omega) (by omega) (by omega) ?_
     | refine r_conv (by simp (disch:=first|decide|(simp only[zF,zG,hnt];decide)) only [zA,zB,zC,zD,zE,zF,zG,zH,zI,zJ,zK,HV.cells,hnt]; try exact rfl) (by omega) (by omega) ?_
     | refine w_draw (by omega) (by repeat' first|assumption|refine D.upd ?_ (by omega)|exact D.mono (by assumption) (by omega)) ?_
     | refine d_nil ?_
     | refine d_rest rfl ?_
     | refine d_bs rfl ?_
     | refine d_box rfl ?_
     | refine d_alloc rfl ?_
     | refine d_one rfl ?_
     | refine d_next (by omega) ?_
     | refine d_laid ?_
     | fail
    refine r_callc (by simp (disch:=first|decide|(simp only[zF,zG,hnt];decide)) only [zA,zB,zC,zD,zE,zF,zG,zH,zI,zJ,zK,HV.cells,hnt]; try exact rfl) (by simp (disch:=first|decide|(simp only[zF,zG,hnt];decide)) only [List.map_cons,List.map_nil,List.nil_append,List.cons_append,List.append_nil,zA,zB,zC,zD,zE,zF,zG,zH,zI,zJ,zK,HV.cells,hnt]; try exact rfl) (c_Heights (n := n) (l := L2) (cp := c4) hd8 (fun _ => hcn) rfl (by omega) hr8) ?_
    intro u4 σ4 hK2
    have key2 : ∃ v1 h9 n9, u4 = .tuple [v1, i64 (if (readO t n L2).isSome then 0 else 9)] ∧ σ4 = ⟨h9, n9⟩ ∧ Ext h8 n8 h9 n9 ∧ (∀ M, readO t n L2 = some M → ∃ p c, v1 = .slice p (n + 1) c ∧ Row renc 2 h9 n9 p (BL M (n + 1))) := by
      rcases hK2 with ⟨M, _, hM, p3, c3, h9, n9, rfl, rfl, e9, hr9⟩ | ⟨_, hM, rfl, n9, h9, rfl⟩ | ⟨hM, _⟩
      · exact ⟨_, h9, n9, by rw [hM]; rfl, rfl, e9, fun M' hM' => by rw [hM] at hM'; cases hM'; exact ⟨p3, c3, rfl, hr9⟩⟩
      · exact ⟨_, h8, n9, by rw [hM]; rfl, rfl, Ext.nx hd8 h9, fun M' hM' => by rw [hM] at hM'; cases hM'⟩
      · exact absurd hE2 hM
    obtain ⟨v1, h9, n9, rfl, rfl, e9, hv1⟩ := key2
    have hle9 := e9.le
    have hd9 := e9.d
    cases hO2 : readO t n L2 with
    | some M2 =>
      obtain ⟨M, hO, hb⟩ := hmore M2 hO2
      obtain ⟨pb, cb, rfl, hrb⟩ := hv1 M2 hO2
      obtain ⟨pa, ca, rfl, hra⟩ := hv0 M hO
      have i1 : (if (readO t n l).isSome then (0 : Int) else 9) = 0 := by rw [hO]; rfl
      have i2 : (if (some M2 : Option Mx).isSome then (0 : Int) else 9) = 0 := rfl
      have cW : ∀ fl h' n', Ext h9 n9 h' n' → C LW fl 57 [.slice pb (n + 1) cb, .slice pa (n + 1) ca] ⟨h', n'⟩ (Sc (· = .bool true) ⟨h', n'⟩) := fun fl h' n' e =>
        c_wider e.d (BL_len M2 (n + 1)).symm (BL_len M (n + 1)).symm (by rw [BL_len]; omega) (by rw [BL_len, BL_len]) (hrb.ext e) (hra.ext ((e78.trans e9).trans e)) (fun i x y hx hy => by
          have hi : i < n + 1 := by have := len_of hx; rw [BL_len] at this; exact this
          rw [BL_get _ hi] at hx hy
          cases hx
          cases hy
          exact hb i (by omega))
      repeat' first
       | refine r_nil ?_
       | refine th_n ?_
       | refine th_r ?_
       | refine w_seq ?_
       | refine w_reg ?_
       | refine w_ret ?_
       | refine w_skip ?_
       | refine w_t (by simp (disch:=first|decide|(simp only[zF,zG,hnt, i1, i2];decide)) only [zA,zB,zC,zD,zE,zF,zG,zH,zI,zJ,zK,HV.cells,hnt, i1, i2]; first|done|exact rfl) ?_
       | refine w_f (by simp (disch:=first|decide|(simp only[zF,zG,hnt, i1, i2];decide)) only [zA,zB,zC,zD,zE,zF,zG,zH,zI,zJ,zK,HV.cells,hnt, i1, i2]; first|done|exact rfl) ?_
       | refine r_take (by simp (disch:=first|decide|(simp only[zF,zG,hnt, i1, i2];decide)) only [zA,zB,zC,zD,zE,zF,zG,zH,zI,zJ,zK,HV.cells,hnt, i1, i2]; first|done|exact rfl) ?_
       | refine r_drop (by simp (disch:=first|decide|(simp only[zF,zG,Bool.not_true,Bool.not_false,hnt, i1, i2];decide)) only [zA,zB,zC,zD,zE,zF,zG,zH,zI,zJ,zK,HV.cells,Bool.not_true,Bool.not_false,hnt, i1, i2]; first|done|exact rfl) ?_
       | refine r_move (by simp (disch:=first|decide|(simp only[zF,zG,hnt, i1, i2];decide)) only [zA,zB,zC,zD,zE,zF,zG,zH,zI,zJ,zK,HV.cells,hnt, i1, i2]; try exact rfl) ?_
       | refine r_fa (by simp (disch:=first|decide|(simp only[zF,zG,hnt, i1, i2];decide)) only [zA,zB,zC,zD,zE,zF,zG,zH,zI,zJ,zK,HV.cells,hnt, i1, i2]; try exact rfl) ?_
       | refine r_ld1 (by simp (disch:=first|decide|(simp only[zF,zG,hnt, i1, i2];decide)) only [zA,zB,zC,zD,zE,zF,zG,zH,zI,zJ,zK,HV.cells,hnt, i1, i2]; try exact rfl) (by first|assumption|(simp (disch:=omega) only [get_same,get_other,hnt, i1, i2]; first|done|exact rfl)) (by first|assumption|rfl|(simp only [zI,zJ,HV.cells,hnt, i1, i2]; exact rfl)) ?_
       | refine r_ldn (by simp (disch:=first|decide|(simp only[zF,zG,hnt, i1, i2];decide)) only [zA,zB,zC,zD,zE,zF,zG,zH,zI,zJ,zK,HV.cells,hnt, i1, i2]; try exact rfl) (by first|assumption|(simp (disch:=omega) only [get_same,get_other,hnt, i1, i2]; first|done|exact rfl)) (by first|assumption|rfl|(simp only [zI,zJ,HV.cells,hnt, i1, i2]; exact rfl)) ?_
       | refine r_box (by simp (disch:=first|decide|(simp only[zF,zG,hnt, i1, i2];decide)) only [zA,zB,zC,zD,zE,zF,zG,zH,zI,zJ,zK,HV.cells,hnt, i1, i2]; try exact rfl) ?_
       | refine r_st (cs' := _) (by simp (disch:=first|decide|(simp only[zF,zG,hnt, i1, i2];decide)) only [zA,zB,zC,zD,zE,zF,zG,zH,zI,zJ,zK,HV.cells,hnt, i1, i2]; try exact rfl) (by simp (disch:=first|decide|(simp only[zF,zG,hnt, i1, i2];decide)) only [zA,zB,zC,zD,zE,zF,zG,zH,zI,zJ,zK,HV.cells,hnt, i1, i2]; try exact rfl) (by first|assumption|(simp (disch:=omega) only [get_same,get_other,hnt, i1, i2]; first|done|exact rfl)) (by exact True.intro) (by rfl) (by rfl) (by first|assumption|rfl|(simp only [zI,zJ,HV.cells,hnt, i1, i2]; exact rfl)) (by omega) ?_
       | refine r_add (by simp (disch:=first|decide|(simp only[zF,zG,hnt, i1, i2];decide)) only [zA,zB,zC,zD,zE,zF,zG,zH,zI,zJ,zK,HV.cells,hnt, i1, i2]; try exact rfl) (by simp (disch:=first|decide|(simp only[zF,zG,hnt, i1, i2];decide)) only [zA,zB,zC,zD,zE,zF,zG,zH,zI,zJ,zK,HV.cells,hnt, i1, i2]; try exact rfl) (by omega) (by omega) ?_
       | refine r_sub (by simp (disch:=first|decide|(simp only[zF,zG,hnt, i1, i2];decide)) only [zA,zB,zC,zD,zE,zF,zG,zH,zI,zJ,zK,HV.cells,hnt, i1, i2]; try exact rfl) (by simp (disch:=first|decide|(simp only[zF,zG,hnt, i1, i2];decide)) only [zA,zB,zC,zD,zE,zF,zG,zH,zI,zJ,zK,HV.cells,hnt, i1, i2]; try exact rfl) (by omega) (by omega) ?_
       | refine r_max2 (by simp (disch:=first|decide|(simp only[zF,zG,hnt, i1, i2];decide)) only [zA,zB,zC,zD,zE,zF,zG,zH,zI,zJ,zK,HV.cells,hnt, i1, i2]; try exact rfl) (by simp (disch:=first|decide|(simp only[zF,zG,hnt, i1, i2];decide)) only [zA,zB,zC,zD,zE,zF,zG,zH,zI,zJ,zK,HV.cells,hnt, i1, i2]; try exact rfl) ?_
       | refine r_min2 (by simp (disch:=first|decide|(simp only[zF,zG,hnt, i1, i2];decide)) only [zA,zB,zC,zD,zE,zF,zG,zH,zI,zJ,zK,HV.cells,hnt, i1, i2]; try exact rfl) (by simp (disch:=first|decide|(simp only[zF,zG,hnt, i1, i2];decide)) only [zA,zB,zC,zD,zE,zF,zG,zH,zI,zJ,zK,HV.cells,hnt, i1, i2]; try exact rfl) ?_
       | refine r_gtr (by simp (disch:=first|decide|(simp only[zF,zG,hnt, i1, i2];decide)) only [zA,zB,zC,zD,zE,zF,zG,zH,zI,zJ,zK,HV.cells,hnt, i1, i2]; try exact rfl) (by simp (disch:=first|decide|(simp only[zF,zG,hnt, i1, i2];decide)) only [zA,zB,zC,zD,zE,zF,zG,zH,zI,zJ,zK,HV.cells,hnt, i1, i2]; try exact rfl) (fun hc => ?_) (fun hc => ?_) <;> (try (exfalso; omega))
       | refine r_eq (by simp (disch:=first|decide|(simp only[zF,zG,hnt, i1, i2];decide)) only [zA,zB,zC,zD,zE,zF,zG,zH,zI,zJ,zK,HV.cells,hnt, i1, i2]; try exact rfl) (by simp (disch:=first|decide|(simp only[zF,zG,hnt, i1, i2];decide)) only [zA,zB,zC,zD,zE,zF,zG,zH,zI,zJ,zK,HV.cells,hnt, i1, i2]; try exact rfl) (fun hc => ?_) (fun hc => ?_) <;> (try (exfalso; omega))
       | refine r_ne (by simp (disch:=first|decide|(simp only[zF,zG,hnt, i1, i2];decide)) only [zA,zB,zC,zD,zE,zF,zG,zH,zI,zJ,zK,HV.cells,hnt, i1, i2]; try exact rfl) (by simp (disch:=first|decide|(simp only[zF,zG,hnt, i1, i2];decide)) only [zA,zB,zC,zD,zE,zF,zG,zH,zI,zJ,zK,HV.cells,hnt, i1, i2]; try exact rfl) (fun hc => ?_) (fun hc => ?_) <;> (try (exfalso; omega))
       | refine r_eqb (by simp (disch:=first|decide|(simp only[zF,zG,hnt, i1, i2];decide)) only [zA,zB,zC,zD,zE,zF,zG,zH,zI,zJ,zK,HV.cells,hnt, i1, i2]; try exact rfl) (by simp (disch:=first|decide|(simp only[zF,zG,hnt, i1, i2];decide)) only [zA,zB,zC,zD,zE,zF,zG,zH,zI,zJ,zK,HV.cells,hnt, i1, i2]; try exact rfl) ?_
       | refine r_not1 (by simp (disch:=first|decide|(simp only[zF,zG,hnt, i1, i2];decide)) only [zA,zB,zC,zD,zE,zF,zG,zH,zI,zJ,zK,HV.cells,hnt, i1, i2]; try exact rfl) ?_
       | refine r_pt (by simp (disch:=first|decide|(simp only[zF,zG,hnt, i1, i2];decide)) only [zA,zB,zC,zD,zE,zF,zG,zH,zI,zJ,zK,HV.cells,hnt, i1, i2]; first|done|exact rfl) (by simp (disch:=first|decide|(simp only[zF,zG,hnt, i1, i2];decide)) only [zA,zB,zC,zD,zE,zF,zG,zH,zI,zJ,zK,HV.cells,hnt, i1, i2]; try exact rfl) ?_
       | refine r_pf (by simp (disch:=first|decide|(simp only[zF,zG,hnt, i1, i2];decide)) only [zA,zB,zC,zD,zE,zF,zG,zH,zI,zJ,zK,HV.cells,hnt, i1, i2]; first|done|exact rfl) (by simp (disch:=first|decide|(simp only[zF,zG,hnt, i1, i2];decide)) only [zA,zB,zC,zD,zE,zF,zG,zH,zI,zJ,zK,HV.cells,hnt, i1, i2]; try exact rfl) ?_
       | refine r_len (by simp (disch:=first|decide|(simp only[zF,zG,hnt, i1, i2];decide)) only [zA,zB,zC,zD,zE,zF,zG,zH,zI,zJ,zK,HV.cells,hnt, i1, i2]; try exact rfl) ?_
       | refine r_ixs (by simp (disch:=first|decide|(simp only[zF,zG,hnt, i1, i2];decide)) only [zA,zB,zC,zD,zE,zF,zG,zH,zI,zJ,zK,HV.cells,hnt, i1, i2]; try exact rfl) (by simp (disch:=first|decide|(simp only[zF,zG,hnt, i1, i2];decide)) only [zA,zB,zC,zD,zE,zF,zG,zH,zI,zJ,zK,HV.cells,hnt, i1, i2]; try exact rfl) (by omega) ?_
       | refine r_ext (by simp (disch:=first|decide|(simp only[zF,zG,hnt, i1, i2];decide)) only [zA,zB,zC,zD,zE,zF,zG,zH,zI,zJ,zK,HV.cells,hnt, i1, i2]; try exact rfl) (by first|assumption|rfl|(simp only [zI,zJ,HV.cells,hnt, i1, i2]; exact rfl)) ?_
       | refine r_bs (by simp (disch:=first|decide|(simp only[zF,zG,hnt, i1, i2];decide)) only [evParts,List.map_cons,List.map_nil,List.nil_append,List.cons_append,List.append_nil,zA,zB,zC,zD,zE,zF,zG,zH,zI,zJ,zK,HV.cells,hnt, i1, i2]; try exact rfl) ?_
       | refine r_nc (by simp (disch:=first|decide|(simp only[zF,zG,hnt, i1, i2];decide)) only [zA,zB,zC,zD,zE,zF,zG,zH,zI,zJ,zK,HV.cells,hnt, i1, i2]; try exact rfl) ?_
       | refine r_rem (by simp (disch:=first|decide|(simp only[zF,zG,hnt, i1, i2];decide)) only [zA,zB,zC,zD,zE,zF,zG,zH,zI,zJ,zK,HV.cells,hnt, i1, i2]; try exact rfl) (by simp (disch:=first|decide|(simp only[zF,zG,hnt, i1, i2];decide)) only [zA,zB,zC,zD,zE,zF,zG,zH,zI,zJ,zK,HV.cells,hnt, i1, i2]; try exact rfl) (by omega) (by omega) ?_
       | refine r_quop (by simp (disch:=first|decide|(simp only[zF,zG,hnt, i1, i2];decide)) only [zA,zB,zC,zD,zE,zF,zG,zH,zI,zJ,zK,HV.cells,hnt, i1, i2]; try exact rfl) (by simp (disch:=first|decide|(simp only[zF,zG,hnt, i1, i2];decide)) only [zA,zB,zC,zD,zE,zF,zG,zH,zI,zJ,zK,HV.cells,hnt, i1, i2]; try exact rfl) (by omega) (by omega) (by omega) ?_
       | refine r_conv (by simp (disch:=first|decide|(simp only[zF,zG,hnt, i1, i2];decide)) only [zA,zB,zC,zD,zE,zF,zG,zH,zI,zJ,zK,HV.cells,hnt, i1, i2]; try exact rfl) (by omega) (by omega) ?_
       | refine r_calls (by simp (disch:=first|decide|(simp only[zF,zG,hnt, i1, i2];decide)) only [zA,zB,zC,zD,zE,zF,zG,zH,zI,zJ,zK,HV.cells,hnt, i1, i2]; try exact rfl) (by simp (disch:=first|decide|(simp only[zF,zG,hnt, i1, i2];decide)) only [List.map_cons,List.map_nil,List.nil_append,List.cons_append,List.append_nil,zA,zB,zC,zD,zE,zF,zG,zH,zI,zJ,zK,HV.cells,hnt, i1, i2]; try exact rfl) (cW _ _ _ (by repeat' first|assumption|refine Ext.put ?_ (by omega) (by omega)|exact Ext.up (by assumption) (by omega)|exact Ext.nx (by assumption) (by omega))) (fun n' hn' => ?_)
       | refine r_calls (by simp (disch:=first|decide|(simp only[zF,zG,hnt, i1, i2];decide)) only [zA,zB,zC,zD,zE,zF,zG,zH,zI,zJ,zK,HV.cells,hnt, i1, i2]; try exact rfl) (by simp (disch:=first|decide|(simp only[zF,zG,hnt, i1, i2];decide)) only [List.map_cons,List.map_nil,List.nil_append,List.cons_append,List.append_nil,zA,zB,zC,zD,zE,zF,zG,zH,zI,zJ,zK,HV.cells,hnt, i1, i2]; try exact rfl) c_wakes (fun n' hn' => ?_)
       | refine w_draw (by omega) (by repeat' first|assumption|refine D.upd ?_ (by omega)|exact D.mono (by assumption) (by omega)) ?_
       | refine d_nil ?_
       | refine d_rest rfl ?_
       | refine d_bs rfl ?_
       | refine d_box rfl ?_
       | refine d_alloc rfl ?_
       | refine d_one rfl ?_
       | refine d_next (by omega) ?_
       | refine d_laid ?_
       | fail
      all_goals (refine fin_r (by simp only [zL, hds]) (by simp (disch:=first|decide|(simp only[zF,zG,hnt];decide)) only [zA,zB,zC,zD,zE,zF,zG,zH,zI,zJ,zK,HV.cells,hnt]; try exact rfl) (sc_flat rfl (by dsimp only; omega) rfl))
    | none =>
      have i2 : (if (none : Option Mx).isSome then (0 : Int) else 9) = 9 := rfl
      cases hO : readO t n l with
      | some M =>
        have i1 : (if (some M : Option Mx).isSome then (0 : Int) else 9) = 0 := rfl
        repeat' first
         | refine r_nil ?_
         | refine th_n ?_
         | refine th_r ?_
         | refine w_seq ?_
         | refine w_reg ?_
         | refine w_ret ?_
         | refine w_skip ?_
         | refine w_t (by simp (disch:=first|decide|(simp only[zF,zG,hnt, i1, i2];decide)) only [zA,zB,zC,zD,zE,zF,zG,zH,zI,zJ,zK,HV.cells,hnt, i1, i2]; first|done|exact rfl) ?_
         | refine w_f (by simp (disch:=first|decide|(simp only[zF,zG,hnt, i1, i2];decide)) only [zA,zB,zC,zD,zE,zF,zG,zH,zI,zJ,zK,HV.cells,hnt, i1, i2]; first|done|exact rfl) ?_
         | refine r_take (by simp (disch:=first|decide|(simp only[zF,zG,hnt, i1, i2];decide)) only [zA,zB,zC,zD,zE,zF,zG,zH,zI,zJ,zK,HV.cells,hnt, i1, i2]; first|done|exact rfl) ?_
         | refine r_drop (by simp (disch:=first|decide|(simp only[zF,zG,Bool.not_true,Bool.not_false,hnt, i1, i2];decide)) only [zA,zB,zC,zD,zE,zF,zG,zH,zI,zJ,zK,HV.cells,Bool.not_true,Bool.not_false,hnt, i1, i2]; first|done|exact rfl) ?_
         | refine r_move (by simp (disch:=first|decide|(simp only[zF,zG,hnt, i1, i2];decide)) only [zA,zB,zC,zD,zE,zF,zG,zH,zI,zJ,zK,HV.cells,hnt, i1, i2]; try exact rfl) ?_
         | refine r_fa (by simp (disch:=first|decide|(simp only[zF,zG,hnt, i1, i2];decide)) only [zA,zB,zC,zD,zE,zF,zG,zH,zI,zJ,zK,HV.cells,hnt, i1, i2]; try exact rfl) ?_
         | refine r_ld1 (by simp (disch:=first|decide|(simp only[zF,zG,hnt, i1, i2];decide)) only [zA,zB,zC,zD,zE,zF,zG,zH,zI,zJ,zK,HV.cells,hnt, i1, i2]; try exact rfl) (by first|assumption|(simp (disch:=omega) only [get_same,get_other,hnt, i1, i2]; first|done|exact rfl)) (by first|assumption|rfl|(simp only [zI,zJ,HV.cells,hnt, i1, i2]; exact rfl)) ?_
         | refine r_ldn (by simp (disch:=first|decide|(simp only[zF,zG,hnt, i1, i2];decide)) only [zA,zB,zC,zD,zE,zF,zG,zH,zI,zJ,zK,HV.cells,hnt, i1, i2]; try exact rfl) (by first|assumption|(simp (disch:=omega) only [get_same,get_other,hnt, i1, i2]; first|done|exact rfl)) (by first|assumption|rfl|(simp only [zI,zJ,HV.cells,hnt, i1, i2]; exact rfl)) ?_
         | refine r_box (by simp (disch:=first|decide|(simp only[zF,zG,hnt, i1, i2];decide)) only [zA,zB,zC,zD,zE,zF,zG,zH,zI,zJ,zK,HV.cells,hnt, i1, i2]; try exact rfl) ?_
         | refine r_st (cs' := _) (by simp (disch:=first|decide|(simp only[zF,zG,hnt, i1, i2];decide)) only [zA,zB,zC,zD,zE,zF,zG,zH,zI,zJ,zK,HV.cells,hnt, i1, i2]; try exact rfl) (by simp (disch:=first|decide|(simp only[zF,zG,hnt, i1, i2];decide)) only [zA,zB,zC,zD,zE,zF,zG,zH,zI,zJ,zK,HV.cells,hnt, i1, i2]; try exact rfl) (by first|assumption|(simp (disch:=omega) only [get_same,get_other,hnt, i1, i2]; first|done|exact rfl)) (by exact True.intro) (by rfl) (by rfl) (by first|assumption|rfl|(simp only [zI,zJ,HV.cells,hnt, i1, i2]; exact rfl)) (by omega) ?_
         | refine r_add (by simp (disch:=first|decide|(simp only[zF,zG,hnt, i1, i2];decide)) only [zA,zB,zC,zD,zE,zF,zG,zH,zI,zJ,zK,HV.cells,hnt, i1, i2]; try exact rfl) (by simp (disch:=first|decide|(simp only[zF,zG,hnt, i1, i2];decide)) only [zA,zB,zC,zD,zE,zF,zG,zH,zI,zJ,zK,HV.cells,hnt, i1, i2]; try exact rfl) (by omega) (by omega) ?_
         | refine r_sub (by simp (disch:=first|decide|(simp only[zF,zG,hnt, i1, i2];decide)) only [zA,zB,zC,zD,zE,zF,zG,zH,zI,zJ,zK,HV.cells,hnt, i1, i2]; try exact rfl) (by simp (disch:=first|decide|(simp only[zF,zG,hnt, i1, i2];decide)) only [zA,zB,zC,zD,zE,zF,zG,zH,zI,zJ,zK,HV.cells,hnt, i1, i2]; try exact rfl) (by omega) (by omega) ?_
         | refine r_max2 (by simp (disch:=first|decide|(simp only[zF,zG,hnt, i1, i2];decide)) only [zA,zB,zC,zD,zE,zF,zG,zH,zI,zJ,zK,HV.cells,hnt, i1, i2]; try exact rfl) (by simp (disch:=first|decide|(simp only[zF,zG,hnt, i1, i2];decide)) only [zA,zB,zC,zD,zE,zF,zG,zH,zI,zJ,zK,HV.cells,hnt, i1, i2]; try exact rfl) ?_
         | refine r_min2 (by simp (disch:=first|decide|(simp only[zF,zG,hnt, i1, i2];decide)) only [zA,zB,zC,zD,zE,zF,zG,zH,zI,zJ,zK,HV.cells,hnt, i1, i2]; try exact rfl) (by simp (disch:=first|decide|(simp only[zF,zG,hnt, i1, i2];decide)) only [zA,zB,zC,zD,zE,zF,zG,zH,zI,zJ,zK,HV.cells,hnt, i1, i2]; try exact rfl) ?_
         | refine r_gtr (by simp (disch:=first|decide|(simp only[zF,zG,hnt, i1, i2];decide)) only [zA,zB,zC,zD,zE,zF,zG,zH,zI,zJ,zK,HV.cells,hnt, i1, i2]; try exact rfl) (by simp (disch:=first|decide|(simp only[zF,zG,hnt, i1, i2];decide)) only [zA,zB,zC,zD,zE,zF,zG,zH,zI,zJ,zK,HV.cells,hnt, i1, i2]; try exact rfl) (fun hc => ?_) (fun hc => ?_) <;> (try (exfalso; omega))
         | refine r_eq (by simp (disch:=first|decide|(simp only[zF,zG,hnt, i1, i2];decide)) only [zA,zB,zC,zD,zE,zF,zG,zH,zI,zJ,zK,HV.cells,hnt, i1, i2]; try exact rfl) (by simp (disch:=first|decide|(simp only[zF,zG,hnt, i1, i2];decide)) only [zA,zB,zC,zD,zE,zF,zG,zH,zI,zJ,zK,HV.cells,hnt, i1, i2]; try exact rfl) (fun hc => ?_) (fun hc => ?_) <;> (try (exfalso; omega))
         | refine r_ne (by simp (disch:=first|decide|(simp only[zF,zG,hnt, i1, i2];decide)) only [zA,zB,zC,zD,zE,zF,zG,zH,zI,zJ,zK,HV.cells,hnt, i1, i2]; try exact rfl) (by simp (disch:=first|decide|(simp only[zF,zG,hnt, i1, i2];decide)) only [zA,zB,zC,zD,zE,zF,zG,zH,zI,zJ,zK,HV.cells,hnt, i1, i2]; try exact rfl) (fun hc => ?_) (fun hc => ?_) <;> (try (exfalso; omega))
         | refine r_eqb (by simp (disch:=first|decide|(simp only[zF,zG,hnt, i1, i2];decide)) only [zA,zB,zC,zD,zE,zF,zG,zH,zI,zJ,zK,HV.cells,hnt, i1, i2]; try exact rfl) (by simp (disch:=first|decide|(simp only[zF,zG,hnt, i1, i2];decide)) only [zA,zB,zC,zD,zE,zF,zG,zH,zI,zJ,zK,HV.cells,hnt, i1, i2]; try exact rfl) ?_
         | refine r_not1 (by simp (disch:=first|decide|(simp only[zF,zG,hnt, i1, i2];decide)) only [zA,zB,zC,zD,zE,zF,zG,zH,zI,zJ,zK,HV.cells,hnt, i1, i2]; try exact rfl) ?_
         | refine r_pt (by simp (disch:=first|decide|(simp only[zF,zG,hnt, i1, i2];decide)) only [zA,zB,zC,zD,zE,zF,zG,zH,zI,zJ,zK,HV.cells,hnt, i1, i2]; first|done|exact rfl) (by simp (disch:=first|decide|(simp only[zF,zG,hnt, i1, i2];decide)) only [zA,zB,zC,zD,zE,zF,zG,zH,zI,zJ,zK,HV.cells,hnt, i1, i2]; try exact rfl) ?_
         | refine r_pf (by simp (disch:=first|decide|(simp only[zF,zG,hnt, i1, i2];decide)) only [zA,zB,zC,zD,zE,zF,zG,zH,zI,zJ,zK,HV.cells,hnt, i1, i2]; first|done|exact rfl) (by simp (disch:=first|decide|(simp only[zF,zG,hnt, i1, i2];decide)) only [zA,zB,zC,zD,zE,zF,zG,zH,zI,zJ,zK,HV.cells,hnt, i1, i2]; try exact rfl) ?_
         | refine r_len (by simp (disch:=first|decide|(simp only[zF,zG,hnt, i1, i2];decide)) only [zA,zB,zC,zD,zE,zF,zG,zH,zI,zJ,zK,HV.cells,hnt, i1, i2]; try exact rfl) ?_
         | refine r_ixs (by simp (disch:=first|decide|(simp only[zF,zG,hnt, i1, i2];decide)) only [zA,zB,zC,zD,zE,zF,zG,zH,zI,zJ,zK,HV.cells,hnt, i1, i2]; try exact rfl) (by simp (disch:=first|decide|(simp only[zF,zG,hnt, i1, i2];decide)) only [zA,zB,zC,zD,zE,zF,zG,zH,zI,zJ,zK,HV.cells,hnt, i1, i2]; try exact rfl) (by omega) ?_
         | refine r_ext (by simp (disch:=first|decide|(simp only[zF,zG,hnt, i1, i2];decide)) only [zA,zB,zC,zD,zE,zF,zG,zH,zI,zJ,zK,HV.cells,hnt, i1, i2]; try exact rfl) (by first|assumption|rfl|(simp only [zI,zJ,HV.cells,hnt, i1, i2]; exact rfl)) ?_
         | refine r_bs (by simp (disch:=first|decide|(simp only[zF,zG,hnt, i1, i2];decide)) only [evParts,List.map_cons,List.map_nil,List.nil_append,List.cons_append,List.append_nil,zA,zB,zC,zD,zE,zF,zG,zH,zI,zJ,zK,HV.cells,hnt, i1, i2]; try exact rfl) ?_
         | refine r_nc (by simp (disch:=first|decide|(simp only[zF,zG,hnt, i1, i2];decide)) only [zA,zB,zC,zD,zE,zF,zG,zH,zI,zJ,zK,HV.cells,hnt, i1, i2]; try exact rfl) ?_
         | refine r_rem (by simp (disch:=first|decide|(simp only[zF,zG,hnt, i1, i2];decide)) only [zA,zB,zC,zD,zE,zF,zG,zH,zI,zJ,zK,HV.cells,hnt, i1, i2]; try exact rfl) (by simp (disch:=first|decide|(simp only[zF,zG,hnt, i1, i2];decide)) only [zA,zB,zC,zD,zE,zF,zG,zH,zI,zJ,zK,HV.cells,hnt, i1, i2]; try exact rfl) (by omega) (by omega) ?_
         | refine r_quop (by simp (disch:=first|decide|(simp only[zF,zG,hnt, i1, i2];decide)) only [zA,zB,zC,zD,zE,zF,zG,zH,zI,zJ,zK,HV.cells,hnt, i1, i2]; try exact rfl) (by simp (disch:=first|decide|(simp only[zF,zG,hnt, i1, i2];decide)) only [zA,zB,zC,zD,zE,zF,zG,zH,zI,zJ,zK,HV.cells,hnt, i1, i2]; try exact rfl) (by omega) (by omega) (by omega) ?_
         | refine r_conv (by simp (disch:=first|decide|(simp only[zF,zG,hnt, i1, i2];decide)) only [zA,zB,zC,zD,zE,zF,zG,zH,zI,zJ,zK,HV.cells,hnt, i1, i2]; try exact rfl) (by omega) (by omega) ?_
         | refine r_calls (by simp (disch:=first|decide|(simp only[zF,zG,hnt, i1, i2];decide)) only [zA,zB,zC,zD,zE,zF,zG,zH,zI,zJ,zK,HV.cells,hnt, i1, i2]; try exact rfl) (by simp (disch:=first|decide|(simp only[zF,zG,hnt, i1, i2];decide)) only [List.map_cons,List.map_nil,List.nil_append,List.cons_append,List.append_nil,zA,zB,zC,zD,zE,zF,zG,zH,zI,zJ,zK,HV.cells,hnt, i1, i2]; try exact rfl) c_wakes (fun n' hn' => ?_)
         | refine w_draw (by omega) (by repeat' first|assumption|refine D.upd ?_ (by omega)|exact D.mono (by assumption) (by omega)) ?_
         | refine d_nil ?_
         | refine d_rest rfl ?_
         | refine d_bs rfl ?_
         | refine d_box rfl ?_
         | refine d_alloc rfl ?_
         | refine d_one rfl ?_
         | refine d_next (by omega) ?_
         | refine d_laid ?_
         | fail
        all_goals (refine fin_r (by simp only [zL, hds]) (by simp (disch:=first|decide|(simp only[zF,zG,hnt];decide)) only [zA,zB,zC,zD,zE,zF,zG,zH,zI,zJ,zK,HV.cells,hnt]; try exact rfl) (sc_flat rfl (by dsimp only; omega) rfl))
      | none =>
        repeat' first
         | refine r_nil ?_
         | refine th_n ?_
         | refine th_r ?_
         | refine w_seq ?_
         | refine w_reg ?_
         | refine w_ret ?_
         | refine w_skip ?_
         | refine w_t (by simp (disch:=first|decide|(simp only[zF,zG,hnt, i2];decide)) only [zA,zB,zC,zD,zE,zF,zG,zH,zI,zJ,zK,HV.cells,hnt, i2]; first|done|exact rfl) ?_
         | refine w_f (by simp (disch:=first|decide|(simp only[zF,zG,hnt, i2];decide)) only [zA,zB,zC,zD,zE,zF,zG,zH,zI,zJ,zK,HV.cells,hnt, i2]; first|done|exact rfl) ?_
         | refine r_take (by simp (disch:=first|decide|(simp only[zF,zG,hnt, i2];decide)) only [zA,zB,zC,zD,zE,zF,zG,zH,zI,zJ,zK,HV.cells,hnt, i2]; first|done|exact rfl) ?_
         | refine r_drop (by simp (disch:=first|decide|(simp only[zF,zG,Bool.not_true,Bool.not_false,hnt, i2];decide)) only [zA,zB,zC,zD,zE,zF,zG,zH,zI,zJ,zK,HV.cells,Bool.not_true,Bool.not_false,hnt, i2]; first|done|exact rfl) ?_
         | refine r_move (by simp (disch:=first|decide|(simp only[zF,zG,hnt, i2];decide)) only [zA,zB,zC,zD,zE,zF,zG,zH,zI,zJ,zK,HV.cells,hnt, i2]; try exact rfl) ?_
         | refine r_fa (by simp (disch:=first|decide|(simp only[zF,zG,hnt, i2];decide)) only [zA,zB,zC,zD,zE,zF,zG,zH,zI,zJ,zK,HV.cells,hnt, i2]; try exact rfl) ?_
         | refine r_ld1 (by simp (disch:=first|decide|(simp only[zF,zG,hnt, i2];decide)) only [zA,zB,zC,zD,zE,zF,zG,zH,zI,zJ,zK,HV.cells,hnt, i2]; try exact rfl) (by first|assumption|(simp (disch:=omega) only [get_same,get_other,hnt, i2]; first|done|exact rfl)) (by first|assumption|rfl|(simp only [zI,zJ,HV.cells,hnt, i2]; exact rfl)) ?_
         | refine r_ldn (by simp (disch:=first|decide|(simp only[zF,zG,hnt, i2];decide)) only [zA,zB,zC,zD,zE,zF,zG,zH,zI,zJ,zK,HV.cells,hnt, i2]; try exact rfl) (by first|assumption|(simp (disch:=omega) only [get_same,get_other,hnt, i2]; first|done|exact rfl)) (by first|assumption|rfl|(simp only [zI,zJ,HV.cells,hnt, i2]; exact rfl)) ?_
         | refine r_box (by simp (disch:=first|decide|(simp only[zF,zG,hnt, i2];decide)) only [zA,zB,zC,zD,zE,zF,zG,zH,zI,zJ,zK,HV.cells,hnt, i2]; try exact rfl) ?_
         | refine r_st (cs' := _) (by simp (disch:=first|decide|(simp only[zF,zG,hnt, i2];decide)) only [zA,zB,zC,zD,zE,zF,zG,zH,zI,zJ,zK,HV.cells,hnt, i2]; try exact rfl) (by simp (disch:=first|decide|(simp only[zF,zG,hnt, i2];decide)) only [zA,zB,zC,zD,zE,zF,zG,zH,zI,zJ,zK,HV.cells,hnt, i2]; try exact rfl) (by first|assumption|(simp (disch:=omega) only [get_same,get_other,hnt, i2]; first|done|exact rfl)) (by exact True.intro) (by rfl) (by rfl) (by first|assumption|rfl|(simp only [zI,zJ,HV.cells,hnt, i2]; exact rfl)) (by omega) ?_
         | refine r_add (by simp (disch:=first|decide|(simp only[zF,zG,hnt, i2];decide)) only [zA,zB,zC,zD,zE,zF,zG,zH,zI,zJ,zK,HV.cells,hnt, i2]; try exact rfl) (by simp (disch:=first|decide|(simp only[zF,zG,hnt, i2];decide)) only [zA,zB,zC,zD,zE,zF,zG,zH,zI,zJ,zK,HV.cells,hnt, i2]; try exact rfl) (by omega) (by omega) ?_
         | refine r_sub (by simp (disch:=first|decide|(simp only[zF,zG,hnt, i2];decide)) only [zA,zB,zC,zD,zE,zF,zG,zH,zI,zJ,zK,HV.cells,hnt, i2]; try exact rfl) (by simp (disch:=first|decide|(simp only[zF,zG,hnt, i2];decide)) only [zA,zB,zC,zD,zE,zF,zG,zH,zI,zJ,zK,HV.cells,hnt, i2]; try exact rfl) (by omega) (by omega) ?_
         | refine r_max2 (by simp (disch:=first|decide|(simp only[zF,zG,hnt, i2];decide)) only [zA,zB,zC,zD,zE,zF,zG,zH,zI,zJ,zK,HV.cells,hnt, i2]; try exact rfl) (by simp (disch:=first|decide|(simp only[zF,zG,hnt, i2];decide)) only [zA,zB,zC,zD,zE,zF,zG,zH,zI,zJ,zK,HV.cells,hnt, i2]; try exact rfl) ?_
         | refine r_min2 (by simp (disch:=first|decide|(simp only[zF,zG,hnt, i2];decide)) only [zA,zB,zC,zD,zE,zF,zG,zH,zI,zJ,zK,HV.cells,hnt, i2]; try exact rfl) (by simp (disch:=first|decide|(simp only[zF,zG,hnt, i2];decide)) only [zA,zB,zC,zD,zE,zF,zG,zH,zI,zJ,zK,HV.cells,hnt, i2]; try exact rfl) ?_
         | refine r_gtr (by simp (disch:=first|decide|(simp only[zF,zG,hnt, i2];decide)) only [zA,zB,zC,zD,zE,zF,zG,zH,zI,zJ,zK,HV.cells,hnt, i2]; try exact rfl) (by simp (disch:=first|decide|(simp only[zF,zG,hnt, i2];decide)) only [zA,zB,zC,zD,zE,zF,zG,zH,zI,zJ,zK,HV.cells,hnt, i2]; try exact rfl) (fun hc => ?_) (fun hc => ?_) <;> (try (exfalso; omega))
         | refine r_eq (by simp (disch:=first|decide|(simp only[zF,zG,hnt, i2];decide)) only [zA,zB,zC,zD,zE,zF,zG,zH,zI,zJ,zK,HV.cells,hnt, i2]; try exact rfl) (by simp (disch:=first|decide|(simp only[zF,zG,hnt, i2];decide)) only [zA,zB,zC,zD,zE,zF,zG,zH,zI,zJ,zK,HV.cells,hnt, i2]; try exact rfl) (fun hc => ?_) (fun hc => ?_) <;> (try (exfalso; omega))
         | refine r_ne (by simp (disch:=first|decide|(simp only[zF,zG,hnt, i2];decide)) only [zA,zB,zC,zD,zE,zF,zG,zH,zI,zJ,zK,HV.cells,hnt, i2]; try exact rfl) (by simp (disch:=first|decide|(simp only[zF,zG,hnt, i2];decide)) only [zA,zB,zC,zD,zE,zF,zG,zH,zI,zJ,zK,HV.cells,hnt, i2]; try exact rfl) (fun hc => ?_) (fun hc => ?_) <;> (try (exfalso; omega))
         | refine r_eqb (by simp (disch:=first|decide|(simp only[zF,zG,hnt, i2];decide)) only [zA,zB,zC,zD,zE,zF,zG,zH,zI,zJ,zK,HV.cells,hnt, i2]; try exact rfl) (by simp (disch:=first|decide|(simp only[zF,zG,hnt, i2];decide)) only [zA,zB,zC,zD,zE,zF,zG,zH,zI,zJ,zK,HV.cells,hnt, i2]; try exact rfl) ?_
         | refine r_not1 (by simp (disch:=first|decide|(simp only[zF,zG,hnt, i2];decide)) only [zA,zB,zC,zD,zE,zF,zG,zH,zI,zJ,zK,HV.cells,hnt, i2]; try exact rfl) ?_
         | refine r_pt (by simp (disch:=first|decide|(simp only[zF,zG,hnt, i2];decide)) only [zA,zB,zC,zD,zE,zF,zG,zH,zI,zJ,zK,HV.cells,hnt, i2]; first|done|exact rfl) (by simp (disch:=first|decide|(simp only[zF,zG,hnt, i2];decide)) only [zA,zB,zC,zD,zE,zF,zG,zH,zI,zJ,zK,HV.cells,hnt, i2]; try exact rfl) ?_
         | refine r_pf (by simp (disch:=first|decide|(simp only[zF,zG,hnt, i2];decide)) only [zA,zB,zC,zD,zE,zF,zG,zH,zI,zJ,zK,HV.cells,hnt, i2]; first|done|exact rfl) (by simp (disch:=first|decide|(simp only[zF,zG,hnt, i2];decide)) only [zA,zB,zC,zD,zE,zF,zG,zH,zI,zJ,zK,HV.cells,hnt, i2]; try exact rfl) ?_
         | refine r_len (by simp (disch:=first|decide|(simp only[zF,zG,hnt, i2];decide)) only [zA,zB,zC,zD,zE,zF,zG,zH,zI,zJ,zK,HV.cells,hnt, i2]; try exact rfl) ?_
         | refine r_ixs (by simp (disch:=first|decide|(simp only[zF,zG,hnt, i2];decide)) only [zA,zB,zC,zD,zE,zF,zG,zH,zI,zJ,zK,HV.cells,hnt, i2]; try exact rfl) (by simp (disch:=first|decide|(simp only[zF,zG,hnt, i2];decide)) only [zA,zB,zC,zD,zE,zF,zG,zH,zI,zJ,zK,HV.cells,hnt, i2]; try exact rfl) (by omega) ?_
         | refine r_ext (by simp (disch:=first|decide|(simp only[zF,zG,hnt, i2];decide)) only [zA,zB,zC,zD,zE,zF,zG,zH,zI,zJ,zK,HV.cells,hnt, i2]; try exact rfl) (by first|assumption|rfl|(simp only [zI,zJ,HV.cells,hnt, i2]; exact rfl)) ?_
         | refine r_bs (by simp (disch:=first|decide|(simp only[zF,zG,hnt, i2];decide)) only [evParts,List.map_cons,List.map_nil,List.nil_append,List.cons_append,List.append_nil,zA,zB,zC,zD,zE,zF,zG,zH,zI,zJ,zK,HV.cells,hnt, i2]; try exact rfl) ?_
         | refine r_nc (by simp (disch:=first|decide|(simp only[zF,zG,hnt, i2];decide)) only [zA,zB,zC,zD,zE,zF,zG,zH,zI,zJ,zK,HV.cells,hnt, i2]; try exact rfl) ?_
         | refine r_rem (by simp (disch:=first|decide|(simp only[zF,zG,hnt, i2];decide)) only [zA,zB,zC,zD,zE,zF,zG,zH,zI,zJ,zK,HV.cells,hnt, i2]; try exact rfl) (by simp (disch:=first|decide|(simp only[zF,zG,hnt, i2];decide)) only [zA,zB,zC,zD,zE,zF,zG,zH,zI,zJ,zK,HV.cells,hnt, i2]; try exact rfl) (by omega) (by omega) ?_
         | refine r_quop (by simp (disch:=first|decide|(simp only[zF,zG,hnt, i2];decide)) only [zA,zB,zC,zD,zE,zF,zG,zH,zI,zJ,zK,HV.cells,hnt, i2]; try exact rfl) (by simp (disch:=first|decide|(simp only[zF,zG,hnt, i2];decide)) only [zA,zB,zC,zD,zE,zF,zG,zH,zI,zJ,zK,HV.cells,hnt, i2]; try exact rfl) (by omega) (by omega) (by omega) ?_
         | refine r_conv (by simp (disch:=first|decide|(simp only[zF,zG,hnt, i2];decide)) only [zA,zB,zC,zD,zE,zF,zG,zH,zI,zJ,zK,HV.cells,hnt, i2]; try exact rfl) (by omega) (by omega) ?_
         | refine r_calls (by simp (disch:=first|decide|(simp only[zF,zG,hnt, i2];decide)) only [zA,zB,zC,zD,zE,zF,zG,zH,zI,zJ,zK,HV.cells,hnt, i2]; try exact rfl) (by simp (disch:=first|decide|(simp only[zF,zG,hnt, i2];decide)) only [List.map_cons,List.map_nil,List.nil_append,List.cons_append,List.append_nil,zA,zB,zC,zD,zE,zF,zG,zH,zI,zJ,zK,HV.cells,hnt, i2]; try exact rfl) c_wakes (fun n' hn' => ?_)
         | refine w_draw (by omega) (by repeat' first|assumption|refine D.upd ?_ (by omega)|exact D.mono (by assumption) (by omega)) ?_
         | refine d_nil ?_
         | refine d_rest rfl ?_
         | refine d_bs rfl ?_
         | refine d_box rfl ?_
         | refine d_alloc rfl ?_
         | refine d_one rfl ?_
         | refine d_next (by omega) ?_
         | refine d_laid ?_
         | fail
        all_goals (refine fin_r (by simp only [zL, hds]) (by simp (disch:=first|decide|(simp only[zF,zG,hnt];decide)) only [zA,zB,zC,zD,zE,zF,zG,zH,zI,zJ,zK,HV.cells,hnt]; try exact rfl) (sc_flat rfl (by dsimp only; omega) rfl))
end Go.Hx

namespace Go.Hx
set_option linter.unusedSimpArgs false
set_option linter.unusedVariables false
set_option maxRecDepth 20000
set_option maxHeartbeats 4000000
attribute [local irreducible] W R C thenH inBlockH
/- 12 -/
theorem c_law12 {fl : Nat} {h : Tr HBlk} {nx : Nat} (hd : D h nx) {t : Tb} {l : List Rd} {r : Rd} {w1 w2 : Int} {p : Option (Nat × Nat)} {m cp : Nat} (hm : m = l.length) (hlen : l.length < 1000000000000) (hrow : Row Rd.enc 4 h nx p l) (hw1 : 0 ≤ w1 ∧ w1 < 256) (hw2 : 0 ≤ w2 ∧ w2 < 256) :
    C LW fl 12 [.agg t.cells, .slice p m cp, .agg r.enc, .int .u8 w1, .int .u8 w2] ⟨h, nx⟩ (Sc (· = .bool true) ⟨h, nx⟩) := by
  subst hm
  have tk : takeN 4 (t.cells.drop 0) = some t.cells := rfl
  have tk2 : takeN 4 (r.enc.drop 0) = some r.enc := rfl
  have fi0 : fillH (repl 0 [i64 0, i64 0, i64 0, i64 0]) [] = some [] := rfl
  have fi1 : fillH (repl 1 [i64 0, i64 0, i64 0, i64 0]) [(0, (4, .agg r.enc))] = some r.enc := rfl
  have tk3 : takeN (1 * 4) (r.enc.drop 0) = some r.enc := rfl
  have ro : r.enc.all HV.one = true := rfl
  refine c_in lw12 rfl rfl rfl ?_
  dsimp only [L12]
  repeat' first
   | refine r_nil ?_
   | refine th_n ?_
   | refine th_r ?_
   | refine w_seq ?_
   | refine w_reg ?_
   | refine w_ret ?_
   | refine w_skip ?_
   | refine w_t (by simp (disch:=first|decide|(simp only[zF,zG,fi0, fi1];decide)) only [zA,zB,zC,zD,zE,zF,zG,zH,zI,zJ,zK,HV.cells,fi0, fi1]; first|done|exact rfl) ?_
   | refine w_f (by simp (disch:=first|decide|(simp only[zF,zG,fi0, fi1];decide)) only [zA,zB,zC,zD,zE,zF,zG,zH,zI,zJ,zK,HV.cells,fi0, fi1]; first|done|exact rfl) ?_
   | refine r_take (by simp (disch:=first|decide|(simp only[zF,zG,fi0, fi1];decide)) only [zA,zB,zC,zD,zE,zF,zG,zH,zI,zJ,zK,HV.cells,fi0, fi1]; first|done|exact rfl) ?_
   | refine r_drop (by simp (disch:=first|decide|(simp only[zF,zG,Bool.not_true,Bool.not_false,fi0, fi1];decide)) only [zA,zB,zC,zD,zE,zF,zG,zH,zI,zJ,zK,HV.cells,Bool.not_true,Bool.not_false,fi0, fi1]; first|done|exact rfl) ?_
   | refine r_move (by simp (disch:=first|decide|(simp only[zF,zG,fi0, fi1];decide)) only [zA,zB,zC,zD,zE,zF,zG,zH,zI,zJ,zK,HV.cells,fi0, fi1]; try exact rfl) ?_
   | refine r_fa (by simp (disch:=first|decide|(simp only[zF,zG,fi0, fi1];decide)) only [zA,zB,zC,zD,zE,zF,zG,zH,zI,zJ,zK,HV.cells,fi0, fi1]; try exact rfl) ?_
   | refine r_ld1 (by simp (disch:=first|decide|(simp only[zF,zG,fi0, fi1];decide)) only [zA,zB,zC,zD,zE,zF,zG,zH,zI,zJ,zK,HV.cells,fi0, fi1]; try exact rfl) (by first|assumption|(simp (disch:=omega) only [get_same,get_other,fi0, fi1]; first|done|exact rfl)) (by first|assumption|rfl|(simp only [zI,zJ,HV.cells,fi0, fi1]; exact rfl)) ?_
   | refine r_ldn (by simp (disch:=first|decide|(simp only[zF,zG,fi0, fi1];decide)) only [zA,zB,zC,zD,zE,zF,zG,zH,zI,zJ,zK,HV.cells,fi0, fi1]; try exact rfl) (by first|assumption|(simp (disch:=omega) only [get_same,get_other,fi0, fi1]; first|done|exact rfl)) (by first|assumption|rfl|(simp only [zI,zJ,HV.cells,fi0, fi1]; exact rfl)) ?_
   | refine r_box (by simp (disch:=first|decide|(simp only[zF,zG,fi0, fi1];decide)) only [zA,zB,zC,zD,zE,zF,zG,zH,zI,zJ,zK,HV.cells,fi0, fi1]; try exact rfl) ?_
   | refine r_st (cs' := _) (by simp (disch:=first|decide|(simp only[zF,zG,fi0, fi1];decide)) only [zA,zB,zC,zD,zE,zF,zG,zH,zI,zJ,zK,HV.cells,fi0, fi1]; try exact rfl) (by simp (disch:=first|decide|(simp only[zF,zG,fi0, fi1];decide)) only [zA,zB,zC,zD,zE,zF,zG,zH,zI,zJ,zK,HV.cells,fi0, fi1]; try exact rfl) (by first|assumption|(simp (disch:=omega) only [get_same,get_other,fi0, fi1]; first|done|exact rfl)) (by exact True.intro) (by rfl) (by rfl) (by first|assumption|rfl|(simp only [zI,zJ,HV.cells,fi0, fi1]; exact rfl)) (by omega) ?_
   | refine r_add (by simp (disch:=first|decide|(simp only[zF,zG,fi0, fi1];decide)) only [zA,zB,zC,zD,zE,zF,zG,zH,zI,zJ,zK,HV.cells,fi0, fi1]; try exact rfl) (by simp (disch:=first|decide|(simp only[zF,zG,fi0, fi1];decide)) only [zA,zB,zC,zD,zE,zF,zG,zH,zI,zJ,zK,HV.cells,fi0, fi1]; try exact rfl) (by omega) (by omega) ?_
   | refine r_sub (by simp (disch:=first|decide|(simp only[zF,zG,fi0, fi1];decide)) only [zA,zB,zC,zD,zE,zF,zG,zH,zI,zJ,zK,HV.cells,fi0, fi1]; try exact rfl) (by simp (disch:=first|decide|(simp only[zF,zG,fi0, fi1];decide)) only [zA,zB,zC,zD,zE,zF,zG,zH,zI,zJ,zK,HV.cells,fi0, fi1]; try exact rfl) (by omega) (by omega) ?_
   | refine r_max2 (by simp (disch:=first|decide|(simp only[zF,zG,fi0, fi1];decide)) only [zA,zB,zC,zD,zE,zF,zG,zH,zI,zJ,zK,HV.cells,fi0, fi1]; try exact rfl) (by simp (disch:=first|decide|(simp only[zF,zG,fi0, fi1];decide)) only [zA,zB,zC,zD,zE,zF,zG,zH,zI,zJ,zK,HV.cells,fi0, fi1]; try exact rfl) ?_
   | refine r_min2 (by simp (disch:=first|decide|(simp only[zF,zG,fi0, fi1];decide)) only [zA,zB,zC,zD,zE,zF,zG,zH,zI,zJ,zK,HV.cells,fi0, fi1]; try exact rfl) (by simp (disch:=first|decide|(simp only[zF,zG,fi0, fi1];decide)) only [zA,zB,zC,zD,zE,zF,zG,zH,zI,zJ,zK,HV.cells,fi0, fi1]; try exact rfl) ?_
   | refine r_gtr (by simp (disch:=first|decide|(simp only[zF,zG,fi0, fi1];decide)) only [zA,zB,zC,zD,zE,zF,zG,zH,zI,zJ,zK,HV.cells,fi0, fi1]; try exact rfl) (by simp (disch:=first|decide|(simp only[zF,zG,fi0, fi1];decide)) only [zA,zB,zC,zD,zE,zF,zG,zH,zI,zJ,zK,HV.cells,fi0, fi1]; try exact rfl) (fun hc => ?_) (fun hc => ?_) <;> (try (exfalso; omega))
   | refine r_eq (by simp (disch:=first|decide|(simp only[zF,zG,fi0, fi1];decide)) only [zA,zB,zC,zD,zE,zF,zG,zH,zI,zJ,zK,HV.cells,fi0, fi1]; try exact rfl) (by simp (disch:=first|decide|(simp only[zF,zG,fi0, fi1];decide)) only [zA,zB,zC,zD,zE,zF,zG,zH,zI,zJ,zK,HV.cells,fi0, fi1]; try exact rfl) (fun hc => ?_) (fun hc => ?_) <;> (try (exfalso; omega))
   | refine r_ne (by simp (disch:=first|decide|(simp only[zF,zG,fi0, fi1];decide)) only [zA,zB,zC,zD,zE,zF,zG,zH,zI,zJ,zK,HV.cells,fi0, fi1]; try exact rfl) (by simp (disch:=first|decide|(simp only[zF,zG,fi0, fi1];decide)) only [zA,zB,zC,zD,zE,zF,zG,zH,zI,zJ,zK,HV.cells,fi0, fi1]; try exact rfl) (fun hc => ?_) (fun hc => ?_) <;> (try (exfalso; omega))
   | refine r_eqb (by simp (disch:=first|decide|(simp only[zF,zG,fi0, fi1];decide)) only [zA,zB,zC,zD,zE,zF,zG,zH,zI,zJ,zK,HV.cells,fi0, fi1]; try exact rfl) (by simp (disch:=first|decide|(simp only[zF,zG,fi0, fi1];decide)) only [zA,zB,zC,zD,zE,zF,zG,zH,zI,zJ,zK,HV.cells,fi0, fi1]; try exact rfl) ?_
   | refine r_not1 (by simp (disch:=first|decide|(simp only[zF,zG,fi0, fi1];decide)) only [zA,zB,zC,zD,zE,zF,zG,zH,zI,zJ,zK,HV.cells,fi0, fi1]; try exact rfl) ?_
   | refine r_pt (by simp (disch:=first|decide|(simp only[zF,zG,fi0, fi1];decide)) only [zA,zB,zC,zD,zE,zF,zG,zH,zI,zJ,zK,HV.cells,fi0, fi1]; first|done|exact rfl) (by simp (disch:=first|decide|(simp only[zF,zG,fi0, fi1];decide)) only [zA,zB,zC,zD,zE,zF,zG,zH,zI,zJ,zK,HV.cells,fi0, fi1]; try exact rfl) ?_
   | refine r_pf (by simp (disch:=first|decide|(simp only[zF,zG,fi0, fi1];decide)) only [zA,zB,zC,zD,zE,zF,zG,zH,zI,zJ,zK,HV.cells,fi0, fi1]; first|done|exact rfl) (by simp (disch:=first|decide|(simp only[zF,zG,fi0, fi1];decide)) only [zA,zB,zC,zD,zE,zF,zG,zH,zI,zJ,zK,HV.cells,fi0, fi1]; try exact rfl) ?_
   | refine r_len (by simp (disch:=first|decide|(simp only[zF,zG,fi0, fi1];decide)) only [zA,zB,zC,zD,zE,zF,zG,zH,zI,zJ,zK,HV.cells,fi0, fi1]; try exact rfl) ?_
   | refine r_ixs (by simp (disch:=first|decide|(simp only[zF,zG,fi0, fi1];decide)) only [zA,zB,zC,zD,zE,zF,zG,zH,zI,zJ,zK,HV.cells,fi0, fi1]; try exact rfl) (by simp (disch:=first|decide|(simp only[zF,zG,fi0, fi1];decide)) only [zA,zB,zC,zD,zE,zF,zG,zH,zI,zJ,zK,HV.cells,fi0, fi1]; try exact rfl) (by omega) ?_
   | refine r_ext (by simp (disch:=first|decide|(simp only[zF,zG,fi0, fi1];decide)) only [zA,zB,zC,zD,zE,zF,zG,zH,zI,zJ,zK,HV.cells,fi0, fi1]; try exact rfl) (by first|assumption|rfl|(simp only [zI,zJ,HV.cells,fi0, fi1]; exact rfl)) ?_
   | refine r_bs (by simp (disch:=first|decide|(simp only[zF,zG,fi0, fi1];decide)) only [evParts,List.map_cons,List.map_nil,List.nil_append,List.cons_append,List.append_nil,zA,zB,zC,zD,zE,zF,zG,zH,zI,zJ,zK,HV.cells,fi0, fi1]; try exact rfl) ?_
   | refine r_nc (by simp (disch:=first|decide|(simp only[zF,zG,fi0, fi1];decide)) only [zA,zB,zC,zD,zE,zF,zG,zH,zI,zJ,zK,HV.cells,fi0, fi1]; try exact rfl) ?_
   | refine r_rem (by simp (disch:=first|decide|(simp only[zF,zG,fi0, fi1];decide)) only [zA,zB,zC,zD,zE,zF,zG,zH,zI,zJ,zK,HV.cells,fi0, fi1]; try exact rfl) (by simp (disch:=first|decide|(simp only[zF,zG,fi0, fi1];decide)) only [zA,zB,zC,zD,zE,zF,zG,zH,zI,zJ,zK,HV.cells,fi0, fi1]; try exact rfl) (by omega) (by omega) ?_
   | refine r_quop (by simp (disch:=first|decide|(simp only[zF,zG,fi0, fi1];decide)) only [zA,zB,zC,zD,zE,zF,zG,zH,zI,zJ,zK,HV.cells,fi0, fi1]; try exact rfl) (by simp (disch:=first|decide|(simp only[zF,zG,fi0, fi1];decide)) only [zA,zB,zC,zD,zE,zF,zG,zH,zI,zJ,zK,HV.cells,fi0, fi1]; try exact rfl) (by omega) (by omega) (by omega) ?_
   | refine r_conv (by simp (disch:=first|decide|(simp only[zF,zG,fi0, fi1];decide)) only [zA,zB,zC,zD,zE,zF,zG,zH,zI,zJ,zK,HV.cells,fi0, fi1]; try exact rfl) (by omega) (by omega) ?_
   | refine w_drawg (by omega) ?_
   | refine g_end rfl (by simp (disch:=decide) only [mg_nil,mg_all,mg_in,mg_out,ad_nil,ad_cons]; try exact rfl) ?_
   | refine g_step rfl (by simp (disch:=decide) only [mg_nil,mg_all,mg_in,mg_out,ad_nil,ad_cons]; try exact rfl) ?_
   | refine g_same ?_
   | refine g_new ?_
   | fail
  cases hl : l with
  | nil =>
    subst hl
    refine r_app (by simp (disch:=first|decide|(simp only[zF,zG];decide)) only [zA,zB,zC,zD,zE,zF,zG,zH,zI,zJ,zK,HV.cells]; try exact rfl) (by simp (disch:=first|decide|(simp only[zF,zG];decide)) only [zA,zB,zC,zD,zE,zF,zG,zH,zI,zJ,zK,HV.cells]; try exact rfl) (app_none (Nat.le_refl 0)) ?_
    repeat' first
     | refine r_nil ?_
     | refine th_n ?_
     | refine th_r ?_
     | refine w_seq ?_
     | refine w_reg ?_
     | refine w_ret ?_
     | refine w_skip ?_
     | refine w_t (by simp (disch:=first|decide|(simp only[zF,zG,fi0, fi1];decide)) only [zA,zB,zC,zD,zE,zF,zG,zH,zI,zJ,zK,HV.cells,fi0, fi1]; first|done|exact rfl) ?_
     | refine w_f (by simp (disch:=first|decide|(simp only[zF,zG,fi0, fi1];decide)) only [zA,zB,zC,zD,zE,zF,zG,zH,zI,zJ,zK,HV.cells,fi0, fi1]; first|done|exact rfl) ?_
     | refine r_take (by simp (disch:=first|decide|(simp only[zF,zG,fi0, fi1];decide)) only [zA,zB,zC,zD,zE,zF,zG,zH,zI,zJ,zK,HV.cells,fi0, fi1]; first|done|exact rfl) ?_
     | refine r_drop (by simp (disch:=first|decide|(simp only[zF,zG,Bool.not_true,Bool.not_false,fi0, fi1];decide)) only [zA,zB,zC,zD,zE,zF,zG,zH,zI,zJ,zK,HV.cells,Bool.not_true,Bool.not_false,fi0, fi1]; first|done|exact rfl) ?_
     | refine r_move (by simp (disch:=first|decide|(simp only[zF,zG,fi0, fi1];decide)) only [zA,zB,zC,zD,zE,zF,zG,zH,zI,zJ,zK,HV.cells,fi0, fi1]; try exact rfl) ?_
     | refine r_fa (by simp (disch:=first|decide|(simp only[zF,zG,fi0, fi1];decide)) only [zA,zB,zC,zD,zE,zF,zG,zH,zI,zJ,zK,HV.cells,fi0, fi1]; try exact rfl) ?_
     | refine r_ld1 (by simp (disch:=first|decide|(simp only[zF,zG,fi0, fi1];decide)) only [zA,zB,zC,zD,zE,zF,zG,zH,zI,zJ,zK,HV.cells,fi0, fi1]; try exact rfl) (by first|assumption|(simp (disch:=omega) only [get_same,get_other,fi0, fi1]; first|done|exact rfl)) (by first|assumption|rfl|(simp only [zI,zJ,HV.cells,fi0, fi1]; exact rfl)) ?_
     | refine r_ldn (by simp (disch:=first|decide|(simp only[zF,zG,fi0, fi1];decide)) only [zA,zB,zC,zD,zE,zF,zG,zH,zI,zJ,zK,HV.cells,fi0, fi1]; try exact rfl) (by first|assumption|(simp (disch:=omega) only [get_same,get_other,fi0, fi1]; first|done|exact rfl)) (by first|assumption|rfl|(simp only [zI,zJ,HV.cells,fi0, fi1]; exact rfl)) ?_
     | refine r_box (by simp (disch:=first|decide|(simp only[zF,zG,fi0, fi1];decide)) only [zA,zB,zC,zD,zE,zF,zG,zH,zI,zJ,zK,HV.cells,fi0, fi1]; try exact rfl) ?_
     | refine r_st (cs' := _) (by simp (disch:=first|decide|(simp only[zF,zG,fi0, fi1];decide)) only [zA,zB,zC,zD,zE,zF,zG,zH,zI,zJ,zK,HV.cells,fi0, fi1]; try exact rfl) (by simp (disch:=first|decide|(simp only[zF,zG,fi0, fi1];decide)) only [zA,zB,zC,zD,zE,zF,zG,zH,zI,zJ,zK,HV.cells,fi0, fi1]; try exact rfl) (by first|assumption|(simp (disch:=omega) only [get_same,get_other,fi0, fi1]; first|done|exact rfl)) (by exact True.intro) (by rfl) (by rfl) (by first|assumption|rfl|(simp only [zI,zJ,HV.cells,fi0, fi1]; exact rfl)) (by omega) ?_
     | refine r_add (by simp (disch:=first|decide|(simp only[zF,zG,fi0, fi1];decide)) only [zA,zB,zC,zD,zE,zF,zG,zH,zI,zJ,zK,HV.cells,fi0, fi1]; try exact rfl) (by simp (disch:=first|decide|(simp only[zF,zG,fi0, fi1];decide)) only [zA,zB,zC,zD,zE,zF,zG,zH,zI,zJ,zK,HV.cells,fi0, fi1]; try exact rfl) (by omega) (by omega) ?_
     | refine r_sub (by simp (disch:=first|decide|(simp only[zF,zG,fi0, fi1];decide)) only [zA,zB,zC,zD,zE,zF,zG,zH,zI,zJ,zK,HV.cells,fi0, fi1]; try exact rfl) (by simp (disch:=first|decide|(simp only[zF,zG,fi0, fi1];decide)) only [zA,zB,zC,zD,zE,zF,zG,zH,zI,zJ,zK,HV.cells,fi0, fi1]; try exact rfl) (by omega) (by omega) ?_
     | refine r_max2 (by simp (disch:=first|decide|(simp only[zF,zG,fi0, fi1];decide)) only [zA,zB,zC,zD,zE,zF,zG,zH,zI,zJ,zK,HV.cells,fi0, fi1]; try exact rfl) (by simp (disch:=first|decide|(simp only[zF,zG,fi0, fi1];decide)) only [zA,zB,zC,zD,zE,zF,zG,zH,zI,zJ,zK,HV.cells,fi0, fi1]; try exact rfl) ?_
     | refine r_min2 (by simp (disch:=first|decide|(simp only[zF,zG,fi0, fi1];decide)) only [zA,zB,zC,zD,zE,zF,zG,zH,zI,zJ,zK,HV.cells,fi0, fi1]; try exact rfl) (by simp (disch:=first|decide|(simp only[zF,zG,fi0, fi1];decide)) only [zA,zB,zC,zD,zE,zF,zG,zH,zI,zJ,zK,HV.cells,fi0, fi1]; try exact rfl) ?_
     | refine r_gtr (by simp (disch:=first|decide|(simp only[zF,zG,fi0, fi1];decide)) only [zA,zB,zC,zD,zE,zF,zG,zH,zI,zJ,zK,HV.cells,fi0, fi1]; try exact rfl) (by simp (disch:=first|decide|(simp only[zF,zG,fi0, fi1];decide)) only [zA,zB,zC,zD,zE,zF,zG,zH,zI,zJ,zK,HV.cells,fi0, fi1]; try exact rfl) (fun hc => ?_) (fun hc => ?_) <;> (try (exfalso; omega))
     | refine r_eq (by simp (disch:=first|decide|(simp only[zF,zG,fi0, fi1];decide)) only [zA,zB,zC,zD,zE,zF,zG,zH,zI,zJ,zK,HV.cells,fi0, fi1]; try exact rfl) (by simp (disch:=first|decide|(simp only[zF,zG,fi0, fi1];decide)) only [zA,zB,zC,zD,zE,zF,zG,zH,zI,zJ,zK,HV.cells,fi0, fi1]; try exact rfl) (fun hc => ?_) (fun hc => ?_) <;> (try (exfalso; omega))
     | refine r_ne (by simp (disch:=first|decide|(simp only[zF,zG,fi0, fi1];decide)) only [zA,zB,zC,zD,zE,zF,zG,zH,zI,zJ,zK,HV.cells,fi0, fi1]; try exact rfl) (by simp (disch:=first|decide|(simp only[zF,zG,fi0, fi1];decide)) only [zA,zB,zC,zD,zE,zF,zG,zH,zI,zJ,zK,HV.cells,fi0, fi1]; try exact rfl) (fun hc => ?_) (fun hc => ?_) <;> (try (exfalso; omega))
     | refine r_eqb (by simp (disch:=first|decide|(simp only[zF,zG,fi0, fi1];decide)) only [zA,zB,zC,zD,zE,zF,zG,zH,zI,zJ,zK,HV.cells,fi0, fi1]; try exact rfl) (by simp (disch:=first|decide|(simp only[zF,zG,fi0, fi1];decide)) only [zA,zB,zC,zD,zE,zF,zG,zH,zI,zJ,zK,HV.cells,fi0, fi1]; try exact rfl) ?_
     | refine r_not1 (by simp (disch:=first|decide|(simp only[zF,zG,fi0, fi1];decide)) only [zA,zB,zC,zD,zE,zF,zG,zH,zI,zJ,zK,HV.cells,fi0, fi1]; try exact rfl) ?_
     | refine r_pt (by simp (disch:=first|decide|(simp only[zF,zG,fi0, fi1];decide)) only [zA,zB,zC,zD,zE,zF,zG,zH,zI,zJ,zK,HV.cells,fi0, fi1]; first|done|exact rfl) (by simp (disch:=first|decide|(simp only[zF,zG,fi0, fi1];decide)) only [zA,zB,zC,zD,zE,zF,zG,zH,zI,zJ,zK,HV.cells,fi0, fi1]; try exact rfl) ?_
     | refine r_pf (by simp (disch:=first|decide|(simp only[zF,zG,fi0, fi1];decide)) only [zA,zB,zC,zD,zE,zF,zG,zH,zI,zJ,zK,HV.cells,fi0, fi1]; first|done|exact rfl) (by simp (disch:=first|decide|(simp only[zF,zG,fi0, fi1];decide)) only [zA,zB,zC,zD,zE,zF,zG,zH,zI,zJ,zK,HV.cells,fi0, fi1]; try exact rfl) ?_
     | refine r_len (by simp (disch:=first|decide|(simp only[zF,zG,fi0, fi1];decide)) only [zA,zB,zC,zD,zE,zF,zG,zH,zI,zJ,zK,HV.cells,fi0, fi1]; try exact rfl) ?_
     | refine r_ixs (by simp (disch:=first|decide|(simp only[zF,zG,fi0, fi1];decide)) only [zA,zB,zC,zD,zE,zF,zG,zH,zI,zJ,zK,HV.cells,fi0, fi1]; try exact rfl) (by simp (disch:=first|decide|(simp only[zF,zG,fi0, fi1];decide)) only [zA,zB,zC,zD,zE,zF,zG,zH,zI,zJ,zK,HV.cells,fi0, fi1]; try exact rfl) (by omega) ?_
     | refine r_ext (by simp (disch:=first|decide|(simp only[zF,zG,fi0, fi1];decide)) only [zA,zB,zC,zD,zE,zF,zG,zH,zI,zJ,zK,HV.cells,fi0, fi1]; try exact rfl) (by first|assumption|rfl|(simp only [zI,zJ,HV.cells,fi0, fi1]; exact rfl)) ?_
     | refine r_bs (by simp (disch:=first|decide|(simp only[zF,zG,fi0, fi1];decide)) only [evParts,List.map_cons,List.map_nil,List.nil_append,List.cons_append,List.append_nil,zA,zB,zC,zD,zE,zF,zG,zH,zI,zJ,zK,HV.cells,fi0, fi1]; try exact rfl) ?_
     | refine r_nc (by simp (disch:=first|decide|(simp only[zF,zG,fi0, fi1];decide)) only [zA,zB,zC,zD,zE,zF,zG,zH,zI,zJ,zK,HV.cells,fi0, fi1]; try exact rfl) ?_
     | refine r_rem (by simp (disch:=first|decide|(simp only[zF,zG,fi0, fi1];decide)) only [zA,zB,zC,zD,zE,zF,zG,zH,zI,zJ,zK,HV.cells,fi0, fi1]; try exact rfl) (by simp (disch:=first|decide|(simp only[zF,zG,fi0, fi1];decide)) only [zA,zB,zC,zD,zE,zF,zG,zH,zI,zJ,zK,HV.cells,fi0, fi1]; try exact rfl) (by omega) (by omega) ?_
     | refine r_quop (by simp (disch:=first|decide|(simp only[zF,zG,fi0, fi1];decide)) only [zA,zB,zC,zD,zE,zF,zG,zH,zI,zJ,zK,HV.cells,fi0, fi1]; try exact rfl) (by simp (disch:=first|decide|(simp only[zF,zG,fi0, fi1];decide)) only [zA,zB,zC,zD,zE,zF,zG,zH,zI,zJ,zK,HV.cells,fi0, fi1]; try exact rfl) (by omega) (by omega) (by omega) ?_
     | refine r_conv (by simp (disch:=first|decide|(simp only[zF,zG,fi0, fi1];decide)) only [zA,zB,zC,zD,zE,zF,zG,zH,zI,zJ,zK,HV.cells,fi0, fi1]; try exact rfl) (by omega) (by omega) ?_
     | refine w_drawg (by omega) ?_
     | refine g_end rfl (by simp (disch:=decide) only [mg_nil,mg_all,mg_in,mg_out,ad_nil,ad_cons]; try exact rfl) ?_
     | refine g_step rfl (by simp (disch:=decide) only [mg_nil,mg_all,mg_in,mg_out,ad_nil,ad_cons]; try exact rfl) ?_
     | refine g_same ?_
     | refine g_new ?_
     | fail
    refine r_app (by simp (disch:=first|decide|(simp only[zF,zG];decide)) only [zA,zB,zC,zD,zE,zF,zG,zH,zI,zJ,zK,HV.cells]; try exact rfl) (by simp (disch:=first|decide|(simp only[zF,zG];decide)) only [zA,zB,zC,zD,zE,zF,zG,zH,zI,zJ,zK,HV.cells]; try exact rfl) (app_exact (n := 1) (o := 0) (k := 0) (z := 0) (cs2 := []) (old := []) (by first|assumption|(simp (disch:=omega) only [get_same,get_other]; first|done|exact rfl)) tk3 (by first|assumption|(simp (disch:=omega) only [get_same,get_other]; first|done|exact rfl)) rfl (by omega) (by omega) (by omega) (by omega)) ?_
    refine r_move (by simp (disch:=first|decide|(simp only[zF,zG];decide)) only [zA,zB,zC,zD,zE,zF,zG,zH,zI,zJ,zK,HV.cells]; try exact rfl) ?_
    refine r_nil ?_
    refine th_n ?_
    show W LW nx none T12 _ _ _
    refine rest12 (l := []) (r := r) (w1 := w1) (w2 := w2) (cp := cp) (p := p) hd (by simp) hrow hw1 hw2 (xb := nx + 1 + 1 + 1 + 1) (by repeat' first|assumption|refine Ext.put ?_ (by omega) (by omega)|exact Ext.up (by assumption) (by omega)|exact Ext.nx (by assumption) (by omega)) (by omega) (by omega) (by first|assumption|(simp (disch:=omega) only [get_same,get_other]; first|done|exact rfl)) ?_ ?_ ?_ ?_ ?_ ?_ ?_ ?_
    · rw [get_same]; rfl
    all_goals first|(simp only [zL,zM,zF,zG];done)|(simp (disch:=first|decide|(simp only[zF,zG];decide)) only [zA,zB,zC,zD,zE,zF,zG,zH,zI,zJ,zK,HV.cells];first|done|exact rfl)|assumption
  | cons x0 l0 =>
    rw [← hl]
    have hne : l ≠ [] := by rw [hl]; simp
    have hpos : 0 < l.length := List.length_pos_iff.2 hne
    obtain ⟨b, o, cs, kk, rfl, hb, hg, hcs⟩ := hrow hne
    have ht := row_take (o := o) Rd.enc_len l (by simpa using hcs)
    refine r_app (by simp (disch:=first|decide|(simp only[zF,zG];decide)) only [zA,zB,zC,zD,zE,zF,zG,zH,zI,zJ,zK,HV.cells]; try exact rfl) (by simp (disch:=first|decide|(simp only[zF,zG];decide)) only [zA,zB,zC,zD,zE,zF,zG,zH,zI,zJ,zK,HV.cells]; try exact rfl) (app_exact (size := 4) (n := l.length) (b := nx + 1 + 1) (o := 0) (k := 0) (z := 0) (cs2 := []) (old := []) (by first|assumption|(simp (disch:=omega) only [get_same,get_other,hg]; first|done|exact rfl)) ht (by first|assumption|(simp (disch:=omega) only [get_same,get_other]; first|done|exact rfl)) rfl (by omega) (by omega) (by omega) (by omega)) ?_
    rw [show 0 + l.length = l.length from Nat.zero_add _]
    repeat' first
     | refine r_nil ?_
     | refine th_n ?_
     | refine th_r ?_
     | refine w_seq ?_
     | refine w_reg ?_
     | refine w_ret ?_
     | refine w_skip ?_
     | refine w_t (by simp (disch:=first|decide|(simp only[zF,zG,fi0, fi1];decide)) only [zA,zB,zC,zD,zE,zF,zG,zH,zI,zJ,zK,HV.cells,fi0, fi1]; first|done|exact rfl) ?_
     | refine w_f (by simp (disch:=first|decide|(simp only[zF,zG,fi0, fi1];decide)) only [zA,zB,zC,zD,zE,zF,zG,zH,zI,zJ,zK,HV.cells,fi0, fi1]; first|done|exact rfl) ?_
     | refine r_take (by simp (disch:=first|decide|(simp only[zF,zG,fi0, fi1];decide)) only [zA,zB,zC,zD,zE,zF,zG,zH,zI,zJ,zK,HV.cells,fi0, fi1]; first|done|exact rfl) ?_
     | refine r_drop (by simp (disch:=first|decide|(simp only[zF,zG,Bool.not_true,Bool.not_false,fi0, fi1];decide)) only [zA,zB,zC,zD,zE,zF,zG,zH,zI,zJ,zK,HV.cells,Bool.not_true,Bool.not_false,fi0, fi1]; first|done|exact rfl) ?_
     | refine r_move (by simp (disch:=first|decide|(simp only[zF,zG,fi0, fi1];decide)) only [zA,zB,zC,zD,zE,zF,zG,zH,zI,zJ,zK,HV.cells,fi0, fi1]; try exact rfl) ?_
     | refine r_fa (by simp (disch:=first|decide|(simp only[zF,zG,fi0, fi1];decide)) only [zA,zB,zC,zD,zE,zF,zG,zH,zI,zJ,zK,HV.cells,fi0, fi1]; try exact rfl) ?_
     | refine r_ld1 (by simp (disch:=first|decide|(simp only[zF,zG,fi0, fi1];decide)) only [zA,zB,zC,zD,zE,zF,zG,zH,zI,zJ,zK,HV.cells,fi0, fi1]; try exact rfl) (by first|assumption|(simp (disch:=omega) only [get_same,get_other,fi0, fi1]; first|done|exact rfl)) (by first|assumption|rfl|(simp only [zI,zJ,HV.cells,fi0, fi1]; exact rfl)) ?_
     | refine r_ldn (by simp (disch:=first|decide|(simp only[zF,zG,fi0, fi1];decide)) only [zA,zB,zC,zD,zE,zF,zG,zH,zI,zJ,zK,HV.cells,fi0, fi1]; try exact rfl) (by first|assumption|(simp (disch:=omega) only [get_same,get_other,fi0, fi1]; first|done|exact rfl)) (by first|assumption|rfl|(simp only [zI,zJ,HV.cells,fi0, fi1]; exact rfl)) ?_
     | refine r_box (by simp (disch:=first|decide|(simp only[zF,zG,fi0, fi1];decide)) only [zA,zB,zC,zD,zE,zF,zG,zH,zI,zJ,zK,HV.cells,fi0, fi1]; try exact rfl) ?_
     | refine r_st (cs' := _) (by simp (disch:=first|decide|(simp only[zF,zG,fi0, fi1];decide)) only [zA,zB,zC,zD,zE,zF,zG,zH,zI,zJ,zK,HV.cells,fi0, fi1]; try exact rfl) (by simp (disch:=first|decide|(simp only[zF,zG,fi0, fi1];decide)) only [zA,zB,zC,zD,zE,zF,zG,zH,zI,zJ,zK,HV.cells,fi0, fi1]; try exact rfl) (by first|assumption|(simp (disch:=omega) only [get_same,get_other,fi0, fi1]; first|done|exact rfl)) (by exact True.intro) (by rfl) (by rfl) (by first|assumption|rfl|(simp only [zI,zJ,HV.cells,fi0, fi1]; exact rfl)) (by omega) ?_
     | refine r_add (by simp (disch:=first|decide|(simp only[zF,zG,fi0, fi1];decide)) only [zA,zB,zC,zD,zE,zF,zG,zH,zI,zJ,zK,HV.cells,fi0, fi1]; try exact rfl) (by simp (disch:=first|decide|(simp only[zF,zG,fi0, fi1];decide)) only [zA,zB,zC,zD,zE,zF,zG,zH,zI,zJ,zK,HV.cells,fi0, fi1]; try exact rfl) (by omega) (by omega) ?_
     | refine r_sub (by simp (disch:=first|decide|(simp only[zF,zG,fi0, fi1];decide)) only [zA,zB,zC,zD,zE,zF,zG,zH,zI,zJ,zK,HV.cells,fi0, fi1]; try exact rfl) (by simp (disch:=first|decide|(simp only[zF,zG,fi0, fi1];decide)) only [zA,zB,zC,zD,zE,zF,zG,zH,zI,zJ,zK,HV.cells,fi0, fi1]; try exact rfl) (by omega) (by omega) ?_
     | refine r_max2 (by simp (disch:=first|decide|(simp only[zF,zG,fi0, fi1];decide)) only [zA,zB,zC,zD,zE,zF,zG,zH,zI,zJ,zK,HV.cells,fi0, fi1]; try exact rfl) (by simp (disch:=first|decide|(simp only[zF,zG,fi0, fi1];decide)) only [zA,zB,zC,zD,zE,zF,zG,zH,zI,zJ,zK,HV.cells,fi0, fi1]; try exact rfl) ?_
     | refine r_min2 (by simp (disch:=first|decide|(simp only[zF,zG,fi0, fi1];decide)) only [zA,zB,zC,zD,zE,zF,zG,zH,zI,zJ,zK,HV.cells,fi0, fi1]; try exact rfl) (by simp (disch:=first|decide|(simp only[zF,zG,fi0, fi1];decide)) only [zA,zB,zC,zD,zE,zF,zG,zH,zI,zJ,zK,HV.cells,fi0, fi1]; try exact rfl) ?_
     | refine r_gtr (by simp (disch:=first|decide|(simp only[zF,zG,fi0, fi1];decide)) only [zA,zB,zC,zD,zE,zF,zG,zH,zI,zJ,zK,HV.cells,fi0, fi1]; try exact rfl) (by simp (disch:=first|decide|(simp only[zF,zG,fi0, fi1];decide)) only [zA,zB,zC,zD,zE,zF,zG,zH,zI,zJ,zK,HV.cells,fi0, fi1]; try exact rfl) (fun hc => ?_) (fun hc => ?_) <;> (try (exfalso; omega))
     | refine r_eq (by simp (disch:=first|decide|(simp only[zF,zG,fi0, fi1];decide)) only [zA,zB,zC,zD,zE,zF,zG,zH,zI,zJ,zK,HV.cells,fi0, fi1]; try exact rfl) (by simp (disch:=first|decide|(simp only[zF,zG,fi0, fi1];decide)) only [zA,zB,zC,zD,zE,zF,zG,zH,zI,zJ,zK,HV.cells,fi0, fi1]; try exact rfl) (fun hc => ?_) (fun hc => ?_) <;> (try (exfalso; omega))
     | refine r_ne (by simp (disch:=first|decide|(simp only[zF,zG,fi0, fi1];decide)) only [zA,zB,zC,zD,zE,zF,zG,zH,zI,zJ,zK,HV.cells,fi0, fi1]; try exact rfl) (by simp (disch:=first|decide|(simp only[zF,zG,fi0, fi1];decide)) only [zA,zB,zC,zD,zE,zF,zG,zH,zI,zJ,zK,HV.cells,fi0, fi1]; try exact rfl) (fun hc => ?_) (fun hc => ?_) <;> (try (exfalso; omega))
     | refine r_eqb (by simp (disch:=first|decide|(simp only[zF,zG,fi0, fi1];decide)) only [zA,zB,zC,zD,zE,zF,zG,zH,zI,zJ,zK,HV.cells,fi0, fi1]; try exact rfl) (by simp (disch:=first|decide|(simp only[zF,zG,fi0, fi1];decide)) only [zA,zB,zC,zD,zE,zF,zG,zH,zI,zJ,zK,HV.cells,fi0, fi1]; try exact rfl) ?_
     | refine r_not1 (by simp (disch:=first|decide|(simp only[zF,zG,fi0, fi1];decide)) only [zA,zB,zC,zD,zE,zF,zG,zH,zI,zJ,zK,HV.cells,fi0, fi1]; try exact rfl) ?_
     | refine r_pt (by simp (disch:=first|decide|(simp only[zF,zG,fi0, fi1];decide)) only [zA,zB,zC,zD,zE,zF,zG,zH,zI,zJ,zK,HV.cells,fi0, fi1]; first|done|exact rfl) (by simp (disch:=first|decide|(simp only[zF,zG,fi0, fi1];decide)) only [zA,zB,zC,zD,zE,zF,zG,zH,zI,zJ,zK,HV.cells,fi0, fi1]; try exact rfl) ?_
     | refine r_pf (by simp (disch:=first|decide|(simp only[zF,zG,fi0, fi1];decide)) only [zA,zB,zC,zD,zE,zF,zG,zH,zI,zJ,zK,HV.cells,fi0, fi1]; first|done|exact rfl) (by simp (disch:=first|decide|(simp only[zF,zG,fi0, fi1];decide)) only [zA,zB,zC,zD,zE,zF,zG,zH,zI,zJ,zK,HV.cells,fi0, fi1]; try exact rfl) ?_
     | refine r_len (by simp (disch:=first|decide|(simp only[zF,zG,fi0, fi1];decide)) only [zA,zB,zC,zD,zE,zF,zG,zH,zI,zJ,zK,HV.cells,fi0, fi1]; try exact rfl) ?_
     | refine r_ixs (by simp (disch:=first|decide|(simp only[zF,zG,fi0, fi1];decide)) only [zA,zB,zC,zD,zE,zF,zG,zH,zI,zJ,zK,HV.cells,fi0, fi1]; try exact rfl) (by simp (disch:=first|decide|(simp only[zF,zG,fi0, fi1];decide)) only [zA,zB,zC,zD,zE,zF,zG,zH,zI,zJ,zK,HV.cells,fi0, fi1]; try exact rfl) (by omega) ?_
     | refine r_ext (by simp (disch:=first|decide|(simp only[zF,zG,fi0, fi1];decide)) only [zA,zB,zC,zD,zE,zF,zG,zH,zI,zJ,zK,HV.cells,fi0, fi1]; try exact rfl) (by first|assumption|rfl|(simp only [zI,zJ,HV.cells,fi0, fi1]; exact rfl)) ?_
     | refine r_bs (by simp (disch:=first|decide|(simp only[zF,zG,fi0, fi1];decide)) only [evParts,List.map_cons,List.map_nil,List.nil_append,List.cons_append,List.append_nil,zA,zB,zC,zD,zE,zF,zG,zH,zI,zJ,zK,HV.cells,fi0, fi1]; try exact rfl) ?_
     | refine r_nc (by simp (disch:=first|decide|(simp only[zF,zG,fi0, fi1];decide)) only [zA,zB,zC,zD,zE,zF,zG,zH,zI,zJ,zK,HV.cells,fi0, fi1]; try exact rfl) ?_
     | refine r_rem (by simp (disch:=first|decide|(simp only[zF,zG,fi0, fi1];decide)) only [zA,zB,zC,zD,zE,zF,zG,zH,zI,zJ,zK,HV.cells,fi0, fi1]; try exact rfl) (by simp (disch:=first|decide|(simp only[zF,zG,fi0, fi1];decide)) only [zA,zB,zC,zD,zE,zF,zG,zH,zI,zJ,zK,HV.cells,fi0, fi1]; try exact rfl) (by omega) (by omega) ?_
     | refine r_quop (by simp (disch:=first|decide|(simp only[zF,zG,fi0, fi1];decide)) only [zA,zB,zC,zD,zE,zF,zG,zH,zI,zJ,zK,HV.cells,fi0, fi1]; try exact rfl) (by simp (disch:=first|decide|(simp only[zF,zG,fi0, fi1];decide)) only [zA,zB,zC,zD,zE,zF,zG,zH,zI,zJ,zK,HV.cells,fi0, fi1]; try exact rfl) (by omega) (by omega) (by omega) ?_
     | refine r_conv (by simp (disch:=first|decide|(simp only[zF,zG,fi0, fi1];decide)) only [zA,zB,zC,zD,zE,zF,zG,zH,zI,zJ,zK,HV.cells,fi0, fi1]; try exact rfl) (by omega) (by omega) ?_
     | refine w_drawg (by omega) ?_
     | refine g_end rfl (by simp (disch:=decide) only [mg_nil,mg_all,mg_in,mg_out,ad_nil,ad_cons]; try exact rfl) ?_
     | refine g_step rfl (by simp (disch:=decide) only [mg_nil,mg_all,mg_in,mg_out,ad_nil,ad_cons]; try exact rfl) ?_
     | refine g_same ?_
     | refine g_new ?_
     | fail
    refine r_app (by simp (disch:=first|decide|(simp only[zF,zG];decide)) only [zA,zB,zC,zD,zE,zF,zG,zH,zI,zJ,zK,HV.cells]; try exact rfl) (by simp (disch:=first|decide|(simp only[zF,zG];decide)) only [zA,zB,zC,zD,zE,zF,zG,zH,zI,zJ,zK,HV.cells]; try exact rfl) (app_opn (b := nx + 1 + 1 + 1) (n := 1) (k := l.length) (z := l.length) (old := l.flatMap Rd.enc) (by first|assumption|(simp (disch:=omega) only [get_same,get_other]; first|done|exact rfl)) tk3 (by first|assumption|(simp (disch:=omega) only [get_same,get_other]; first|done|exact rfl)) (flat_len Rd.enc_len l) (by omega) rfl ro (by omega) (by omega) (by omega) (by omega)) ?_
    refine r_move (by simp (disch:=first|decide|(simp only[zF,zG];decide)) only [zA,zB,zC,zD,zE,zF,zG,zH,zI,zJ,zK,HV.cells]; try exact rfl) ?_
    refine r_nil ?_
    refine th_n ?_
    show W LW nx none T12 _ _ _
    refine rest12 (l := l) (r := r) (w1 := w1) (w2 := w2) (cp := cp) hd hlen hrow hw1 hw2 (xb := nx + 1 + 1 + 1 + 1 + 1) (by repeat' first|assumption|refine Ext.put ?_ (by omega) (by omega)|exact Ext.up (by assumption) (by omega)|exact Ext.nx (by assumption) (by omega)) (by omega) (by omega) (by first|assumption|(simp (disch:=omega) only [get_same,get_other]; first|done|exact rfl)) ?_ ?_ ?_ ?_ ?_ ?_ ?_ ?_
    · rw [get_same, List.flatMap_append]; simp
    all_goals first|(simp only [zL,zM,zF,zG];done)|(simp (disch:=first|decide|(simp only[zF,zG];decide)) only [zA,zB,zC,zD,zE,zF,zG,zH,zI,zJ,zK,HV.cells];first|done|exact rfl)|assumption
end Go.Hx

