import Derived.Test.YtojkmobfhkjfnaaH04
set_option linter.all false
namespace Go.Hx
set_option linter.unusedSimpArgs false
set_option linter.unusedVariables false
set_option maxRecDepth 20000
set_option maxHeartbeats 4000000
attribute [local irreducible] W R C thenH inBlockH
/-- Is a reading right, by volumes? -/
def RightV (c : Nat) (r : Rd) (v : List Int) : Prop := max r.lo (hgt v r.g.toNat - hgt v r.f.toNat) ≤ (if r.g < c then min r.hi (hgt v (r.g.toNat + 1) - hgt v r.f.toNat - 1) else r.hi)
instance (c : Nat) (r : Rd) (v : List Int) : Decidable (RightV c r v) := by unfold RightV; infer_instance
/- 71 -/
theorem c_Right {fl : Nat} {h : Tr HBlk} {nx : Nat} (hd : D h nx) {c t a b : Int} {cn : Nat} {r : Rd} {p : Option (Nat × Nat)} {v : List Int} {n cp : Nat} (hn : n = v.length) (hlen : v.length ≤ 15) (hrow : Row ienc 1 h nx p v) (hv : ∀ x ∈ v, -1000000 ≤ x ∧ x ≤ 1000000)
    (hc : c = cn) (hcv : v.length = cn) (hr : RdOk2 c r) : C LW fl 71 [.agg [i64 c, i64 t, i64 a, i64 b], .agg r.enc, .slice p n cp] ⟨h, nx⟩ (Sc (· = .bool (decide (RightV cn r v))) ⟨h, nx⟩) := by
  subst hn
  obtain ⟨f, g, lo, hi⟩ := r
  unfold RdOk2 at hr
  dsimp only at hr
  obtain ⟨f', rfl⟩ : ∃ k : Nat, f = k := ⟨f.toNat, by omega⟩
  obtain ⟨g', rfl⟩ : ∃ k : Nat, g = k := ⟨g.toNat, by omega⟩
  have b1 := hgt_bd (B := 1000000) (by omega) hv f' (by omega)
  have b2 := hgt_bd (B := 1000000) (by omega) hv g' (by omega)
  have cH : ∀ fl h' n' (k : Nat), k ≤ v.length → Ext h nx h' n' → C LW fl 38 [.slice p v.length cp, i64 k] ⟨h', n'⟩ (Sc (· = i64 (hgt v k)) ⟨h', n'⟩) := fun fl h' n' k hk e => c_Height rfl hk (by omega) (hrow.ext e) hv
  have key1 : g' < cn → (RightV cn ⟨f', g', lo, hi⟩ v ↔ max lo (hgt v g' - hgt v f') ≤ min hi (hgt v (g' + 1) - hgt v f' - 1)) := fun hg => by
    unfold RightV; simp only [Int.toNat_natCast]; rw [if_pos (by omega)]
  have key2 : ¬ g' < cn → (RightV cn ⟨f', g', lo, hi⟩ v ↔ max lo (hgt v g' - hgt v f') ≤ hi) := fun hg => by
    unfold RightV; simp only [Int.toNat_natCast]; rw [if_neg (by omega)]
  show C LW fl 71 [.agg [i64 c, i64 t, i64 a, i64 b], .agg [i64 f', i64 g', i64 lo, i64 hi], .slice p v.length cp] ⟨h, nx⟩ _
  refine c_in lw71 rfl rfl rfl ?_
  dsimp only [L71]
  repeat' first
   | refine r_nil ?_
   | refine th_n ?_
   | refine th_r ?_
   | refine w_seq ?_
   | refine w_reg ?_
   | refine w_ret ?_
   | refine w_skip ?_
   | refine w_t (by simp (disch:=first|decide|(simp only[zF,zG];decide)) only [zA,zB,zC,zD,zE,zF,zG,zH,zI,zJ,zK,HV.cells]; first|done|exact rfl) ?_
   | refine w_f (by simp (disch:=first|decide|(simp only[zF,zG];decide)) only [zA,zB,zC,zD,zE,zF,zG,zH,zI,zJ,zK,HV.cells]; first|done|exact rfl) ?_
   | refine r_take (by simp (disch:=first|decide|(simp only[zF,zG];decide)) only [zA,zB,zC,zD,zE,zF,zG,zH,zI,zJ,zK,HV.cells]; first|done|exact rfl) ?_
   | refine r_drop (by simp (disch:=first|decide|(simp only[zF,zG,Bool.not_true,Bool.not_false];decide)) only [zA,zB,zC,zD,zE,zF,zG,zH,zI,zJ,zK,HV.cells,Bool.not_true,Bool.not_false]; first|done|exact rfl) ?_
   | refine r_move (by simp (disch:=first|decide|(simp only[zF,zG];decide)) only [zA,zB,zC,zD,zE,zF,zG,zH,zI,zJ,zK,HV.cells]; try exact rfl) ?_
   | refine r_fa (by simp (disch:=first|decide|(simp only[zF,zG];decide)) only [zA,zB,zC,zD,zE,zF,zG,zH,zI,zJ,zK,HV.cells]; try exact rfl) ?_
   | refine r_ld1 (by simp (disch:=first|decide|(simp only[zF,zG];decide)) only [zA,zB,zC,zD,zE,zF,zG,zH,zI,zJ,zK,HV.cells]; try exact rfl) (by first|assumption|(simp (disch:=omega) only [get_same,get_other]; first|done|exact rfl)) (by first|assumption|rfl|(simp only [zI,zJ,HV.cells]; exact rfl)) ?_
   | refine r_box (by simp (disch:=first|decide|(simp only[zF,zG];decide)) only [zA,zB,zC,zD,zE,zF,zG,zH,zI,zJ,zK,HV.cells]; try exact rfl) ?_
   | refine r_add (by simp (disch:=first|decide|(simp only[zF,zG];decide)) only [zA,zB,zC,zD,zE,zF,zG,zH,zI,zJ,zK,HV.cells]; try exact rfl) (by simp (disch:=first|decide|(simp only[zF,zG];decide)) only [zA,zB,zC,zD,zE,zF,zG,zH,zI,zJ,zK,HV.cells]; try exact rfl) (by omega) (by omega) ?_
   | refine r_sub (by simp (disch:=first|decide|(simp only[zF,zG];decide)) only [zA,zB,zC,zD,zE,zF,zG,zH,zI,zJ,zK,HV.cells]; try exact rfl) (by simp (disch:=first|decide|(simp only[zF,zG];decide)) only [zA,zB,zC,zD,zE,zF,zG,zH,zI,zJ,zK,HV.cells]; try exact rfl) (by omega) (by omega) ?_
   | refine r_max2 (by simp (disch:=first|decide|(simp only[zF,zG];decide)) only [zA,zB,zC,zD,zE,zF,zG,zH,zI,zJ,zK,HV.cells]; try exact rfl) (by simp (disch:=first|decide|(simp only[zF,zG];decide)) only [zA,zB,zC,zD,zE,zF,zG,zH,zI,zJ,zK,HV.cells]; try exact rfl) ?_
   | refine r_min2 (by simp (disch:=first|decide|(simp only[zF,zG];decide)) only [zA,zB,zC,zD,zE,zF,zG,zH,zI,zJ,zK,HV.cells]; try exact rfl) (by simp (disch:=first|decide|(simp only[zF,zG];decide)) only [zA,zB,zC,zD,zE,zF,zG,zH,zI,zJ,zK,HV.cells]; try exact rfl) ?_
   | refine r_lss (by simp (disch:=first|decide|(simp only[zF,zG];decide)) only [zA,zB,zC,zD,zE,zF,zG,zH,zI,zJ,zK,HV.cells]; try exact rfl) (by simp (disch:=first|decide|(simp only[zF,zG];decide)) only [zA,zB,zC,zD,zE,zF,zG,zH,zI,zJ,zK,HV.cells]; try exact rfl) (fun hc => ?_) (fun hc => ?_) <;> (try (exfalso; omega))
   | refine r_leq (by simp (disch:=first|decide|(simp only[zF,zG];decide)) only [zA,zB,zC,zD,zE,zF,zG,zH,zI,zJ,zK,HV.cells]; try exact rfl) (by simp (disch:=first|decide|(simp only[zF,zG];decide)) only [zA,zB,zC,zD,zE,zF,zG,zH,zI,zJ,zK,HV.cells]; try exact rfl) (fun hc => ?_) (fun hc => ?_) <;> (try (exfalso; omega))
   | refine r_calls (by simp (disch:=first|decide|(simp only[zF,zG];decide)) only [zA,zB,zC,zD,zE,zF,zG,zH,zI,zJ,zK,HV.cells]; try exact rfl) (by simp (disch:=first|decide|(simp only[zF,zG];decide)) only [List.map_cons,List.map_nil,List.nil_append,List.cons_append,List.append_nil,zA,zB,zC,zD,zE,zF,zG,zH,zI,zJ,zK,HV.cells]; try exact rfl) (cH _ _ _ _ (by omega) (by repeat' first|assumption|refine Ext.put ?_ (by omega) (by omega)|exact Ext.up (by assumption) (by omega)|exact Ext.nx (by assumption) (by omega))) (fun n' hn' => ?_)
   | refine w_draw (by omega) (by repeat' first|assumption|refine D.upd ?_ (by omega)|exact D.mono (by assumption) (by omega)) ?_
   | refine d_nil ?_
   | refine d_rest rfl ?_
   | refine d_bs rfl ?_
   | refine d_box rfl ?_
   | refine d_alloc rfl ?_
   | refine d_one rfl ?_
   | refine d_next (by omega) ?_
   | refine d_laid ?_
  case refine_1 =>
    have hg1 : g' < cn := by omega
    have b3 := hgt_bd (B := 1000000) (by omega) hv (g' + 1) (by omega)
    have cH1 : ∀ fl h' n', Ext h nx h' n' → C LW fl 38 [.slice p v.length cp, i64 ((g' : Int) + 1)] ⟨h', n'⟩ (Sc (· = i64 (hgt v (g' + 1))) ⟨h', n'⟩) := fun fl h' n' e => cH fl h' n' (g' + 1) (by omega) e
    repeat' first
     | refine r_nil ?_
     | refine th_n ?_
     | refine th_r ?_
     | refine w_seq ?_
     | refine w_reg ?_
     | refine w_ret ?_
     | refine w_skip ?_
     | refine w_t (by simp (disch:=first|decide|(simp only[zF,zG];decide)) only [zA,zB,zC,zD,zE,zF,zG,zH,zI,zJ,zK,HV.cells]; first|done|exact rfl) ?_
     | refine w_f (by simp (disch:=first|decide|(simp only[zF,zG];decide)) only [zA,zB,zC,zD,zE,zF,zG,zH,zI,zJ,zK,HV.cells]; first|done|exact rfl) ?_
     | refine r_take (by simp (disch:=first|decide|(simp only[zF,zG];decide)) only [zA,zB,zC,zD,zE,zF,zG,zH,zI,zJ,zK,HV.cells]; first|done|exact rfl) ?_
     | refine r_drop (by simp (disch:=first|decide|(simp only[zF,zG,Bool.not_true,Bool.not_false];decide)) only [zA,zB,zC,zD,zE,zF,zG,zH,zI,zJ,zK,HV.cells,Bool.not_true,Bool.not_false]; first|done|exact rfl) ?_
     | refine r_move (by simp (disch:=first|decide|(simp only[zF,zG];decide)) only [zA,zB,zC,zD,zE,zF,zG,zH,zI,zJ,zK,HV.cells]; try exact rfl) ?_
     | refine r_fa (by simp (disch:=first|decide|(simp only[zF,zG];decide)) only [zA,zB,zC,zD,zE,zF,zG,zH,zI,zJ,zK,HV.cells]; try exact rfl) ?_
     | refine r_ld1 (by simp (disch:=first|decide|(simp only[zF,zG];decide)) only [zA,zB,zC,zD,zE,zF,zG,zH,zI,zJ,zK,HV.cells]; try exact rfl) (by first|assumption|(simp (disch:=omega) only [get_same,get_other]; first|done|exact rfl)) (by first|assumption|rfl|(simp only [zI,zJ,HV.cells]; exact rfl)) ?_
     | refine r_box (by simp (disch:=first|decide|(simp only[zF,zG];decide)) only [zA,zB,zC,zD,zE,zF,zG,zH,zI,zJ,zK,HV.cells]; try exact rfl) ?_
     | refine r_add (by simp (disch:=first|decide|(simp only[zF,zG];decide)) only [zA,zB,zC,zD,zE,zF,zG,zH,zI,zJ,zK,HV.cells]; try exact rfl) (by simp (disch:=first|decide|(simp only[zF,zG];decide)) only [zA,zB,zC,zD,zE,zF,zG,zH,zI,zJ,zK,HV.cells]; try exact rfl) (by omega) (by omega) ?_
     | refine r_sub (by simp (disch:=first|decide|(simp only[zF,zG];decide)) only [zA,zB,zC,zD,zE,zF,zG,zH,zI,zJ,zK,HV.cells]; try exact rfl) (by simp (disch:=first|decide|(simp only[zF,zG];decide)) only [zA,zB,zC,zD,zE,zF,zG,zH,zI,zJ,zK,HV.cells]; try exact rfl) (by omega) (by omega) ?_
     | refine r_max2 (by simp (disch:=first|decide|(simp only[zF,zG];decide)) only [zA,zB,zC,zD,zE,zF,zG,zH,zI,zJ,zK,HV.cells]; try exact rfl) (by simp (disch:=first|decide|(simp only[zF,zG];decide)) only [zA,zB,zC,zD,zE,zF,zG,zH,zI,zJ,zK,HV.cells]; try exact rfl) ?_
     | refine r_min2 (by simp (disch:=first|decide|(simp only[zF,zG];decide)) only [zA,zB,zC,zD,zE,zF,zG,zH,zI,zJ,zK,HV.cells]; try exact rfl) (by simp (disch:=first|decide|(simp only[zF,zG];decide)) only [zA,zB,zC,zD,zE,zF,zG,zH,zI,zJ,zK,HV.cells]; try exact rfl) ?_
     | refine r_lss (by simp (disch:=first|decide|(simp only[zF,zG];decide)) only [zA,zB,zC,zD,zE,zF,zG,zH,zI,zJ,zK,HV.cells]; try exact rfl) (by simp (disch:=first|decide|(simp only[zF,zG];decide)) only [zA,zB,zC,zD,zE,zF,zG,zH,zI,zJ,zK,HV.cells]; try exact rfl) (fun hc => ?_) (fun hc => ?_) <;> (try (exfalso; omega))
     | refine r_leq (by simp (disch:=first|decide|(simp only[zF,zG];decide)) only [zA,zB,zC,zD,zE,zF,zG,zH,zI,zJ,zK,HV.cells]; try exact rfl) (by simp (disch:=first|decide|(simp only[zF,zG];decide)) only [zA,zB,zC,zD,zE,zF,zG,zH,zI,zJ,zK,HV.cells]; try exact rfl) (fun hc => ?_) (fun hc => ?_) <;> (try (exfalso; omega))
     | refine r_calls (by simp (disch:=first|decide|(simp only[zF,zG];decide)) only [zA,zB,zC,zD,zE,zF,zG,zH,zI,zJ,zK,HV.cells]; try exact rfl) (by simp (disch:=first|decide|(simp only[zF,zG];decide)) only [List.map_cons,List.map_nil,List.nil_append,List.cons_append,List.append_nil,zA,zB,zC,zD,zE,zF,zG,zH,zI,zJ,zK,HV.cells]; try exact rfl) (cH1 _ _ _ (by repeat' first|assumption|refine Ext.put ?_ (by omega) (by omega)|exact Ext.up (by assumption) (by omega)|exact Ext.nx (by assumption) (by omega))) (fun n' hn' => ?_)
     | refine w_draw (by omega) (by repeat' first|assumption|refine D.upd ?_ (by omega)|exact D.mono (by assumption) (by omega)) ?_
     | refine d_nil ?_
     | refine d_rest rfl ?_
     | refine d_bs rfl ?_
     | refine d_box rfl ?_
     | refine d_alloc rfl ?_
     | refine d_one rfl ?_
     | refine d_next (by omega) ?_
     | refine d_laid ?_
    · refine fin_r (by simp only [zL,zM]) (by simp (disch:=first|decide|(simp only[zF,zG];decide)) only [zA,zB,zC,zD,zE,zF,zG,zH,zI,zJ,zK,HV.cells]; try exact rfl) (sc_flat rfl (by dsimp only; omega) ?_); rw [decide_eq_true ((key1 hg1).2 (by omega))]
    · refine fin_r (by simp only [zL,zM]) (by simp (disch:=first|decide|(simp only[zF,zG];decide)) only [zA,zB,zC,zD,zE,zF,zG,zH,zI,zJ,zK,HV.cells]; try exact rfl) (sc_flat rfl (by dsimp only; omega) ?_); rw [decide_eq_false (fun e => absurd ((key1 hg1).1 e) (by omega))]
  · refine fin_r (by simp only [zL,zM]) (by simp (disch:=first|decide|(simp only[zF,zG];decide)) only [zA,zB,zC,zD,zE,zF,zG,zH,zI,zJ,zK,HV.cells]; try exact rfl) (sc_flat rfl (by dsimp only; omega) ?_); rw [decide_eq_true ((key2 (by omega)).2 (by omega))]
  · refine fin_r (by simp only [zL,zM]) (by simp (disch:=first|decide|(simp only[zF,zG];decide)) only [zA,zB,zC,zD,zE,zF,zG,zH,zI,zJ,zK,HV.cells]; try exact rfl) (sc_flat rfl (by dsimp only; omega) ?_); rw [decide_eq_false (fun e => absurd ((key2 (by omega)).1 e) (by omega))]
/-- Are volumes a truth of readings? -/
def TruthV (c t a b : Int) (l : List Rd) (v : List Int) : Prop := (v.length : Int) = c ∧ (∀ x ∈ v, a ≤ x ∧ x ≤ b) ∧ (∀ r ∈ l, RightV v.length r v) ∧ hgt v v.length = t
instance (c t a b : Int) (l : List Rd) (v : List Int) : Decidable (TruthV c t a b l v) := by unfold TruthV; infer_instance
/- 27 -/
theorem loop27w1 {fl : Nat} {h : Tr HBlk} {Q : HExit → HAct → HS → Prop} {p pl : Option (Nat × Nat)} {v : List Int} {cp ll lc tb : Nat} {t : Tb} (hlen : v.length < 1000000000) :
    ∀ (m i : Nat) (a : HAct) (nx : Nat), m + i = v.length → fl ≤ nx → D h nx → h.get tb = some (.cells t.cells .exact) → Row ienc 1 h nx p v → a.nt = 53 → a.defers = [] → a.tmp 1 = .slice pl ll lc → a.tmp 2 = .slice p v.length cp → a.tmp 3 = .ptr (some (tb, 0)) → a.tmp 7 = i64 i →
      (∀ a' n', nx ≤ n' → a'.nt = 53 → a'.defers = [] → a'.tmp 1 = .slice pl ll lc → a'.tmp 2 = .slice p v.length cp → a'.tmp 3 = .ptr (some (tb, 0)) → (∀ x ∈ v.drop i, t.a ≤ x ∧ x ≤ t.b) → Q .normal a' ⟨h, n'⟩) →
      (∀ a' n', nx ≤ n' → a'.nt = 53 → a'.defers = [] → a'.tmp 6 = .bool false → ¬ (∀ x ∈ v.drop i, t.a ≤ x ∧ x ≤ t.b) → Q .ret a' ⟨h, n'⟩) → W LW fl none (.loop L27w1) (inBlockH 0 Q) a ⟨h, nx⟩
  | 0, i, a, nx, hm, hfl, hd, htg, hrow, hnt, hds, h1, h2, h3, h7, hq, hr => by
    refine w_it (show L27w1 = _ by unfold L27w1; exact rfl) ?_
    repeat' first
     | refine r_nil ?_
     | refine th_n ?_
     | refine th_r ?_
     | refine th_e ?_
     | refine ib_n ?_
     | refine ib_r ?_
     | refine ib_e ?_
     | refine ib_x (by decide) ?_
     | refine w_exit ?_
     | refine w_seq ?_
     | refine w_reg ?_
     | refine w_ret ?_
     | refine w_skip ?_
     | refine w_block ?_
     | refine w_t (by simp (disch:=first|decide|(simp only[zF,zG,hnt, h1, h2, h3, h7];decide)) only [zA,zB,zC,zD,zE,zF,zG,zH,zI,zJ,zK,HV.cells,hnt, h1, h2, h3, h7]; first|done|exact rfl) ?_
     | refine w_f (by simp (disch:=first|decide|(simp only[zF,zG,hnt, h1, h2, h3, h7];decide)) only [zA,zB,zC,zD,zE,zF,zG,zH,zI,zJ,zK,HV.cells,hnt, h1, h2, h3, h7]; first|done|exact rfl) ?_
     | refine r_take (by simp (disch:=first|decide|(simp only[zF,zG,hnt, h1, h2, h3, h7];decide)) only [zA,zB,zC,zD,zE,zF,zG,zH,zI,zJ,zK,HV.cells,hnt, h1, h2, h3, h7]; first|done|exact rfl) ?_
     | refine r_drop (by simp (disch:=first|decide|(simp only[zF,zG,Bool.not_true,Bool.not_false,hnt, h1, h2, h3, h7];decide)) only [zA,zB,zC,zD,zE,zF,zG,zH,zI,zJ,zK,HV.cells,Bool.not_true,Bool.not_false,hnt, h1, h2, h3, h7]; first|done|exact rfl) ?_
     | refine r_move (by simp (disch:=first|decide|(simp only[zF,zG,hnt, h1, h2, h3, h7];decide)) only [zA,zB,zC,zD,zE,zF,zG,zH,zI,zJ,zK,HV.cells,hnt, h1, h2, h3, h7]; try exact rfl) ?_
     | refine r_fa (by simp (disch:=first|decide|(simp only[zF,zG,hnt, h1, h2, h3, h7];decide)) only [zA,zB,zC,zD,zE,zF,zG,zH,zI,zJ,zK,HV.cells,hnt, h1, h2, h3, h7]; try exact rfl) ?_
     | refine r_ld1 (by simp (disch:=first|decide|(simp only[zF,zG,hnt, h1, h2, h3, h7];decide)) only [zA,zB,zC,zD,zE,zF,zG,zH,zI,zJ,zK,HV.cells,hnt, h1, h2, h3, h7]; try exact rfl) (by first|assumption|(simp (disch:=omega) only [get_same,get_other,hnt, h1, h2, h3, h7]; first|done|exact rfl)) (by first|assumption|rfl|(simp only [zI,zJ,HV.cells,hnt, h1, h2, h3, h7]; exact rfl)) ?_
     | refine r_ldn (by simp (disch:=first|decide|(simp only[zF,zG,hnt, h1, h2, h3, h7];decide)) only [zA,zB,zC,zD,zE,zF,zG,zH,zI,zJ,zK,HV.cells,hnt, h1, h2, h3, h7]; try exact rfl) (by first|assumption|(simp (disch:=omega) only [get_same,get_other,hnt, h1, h2, h3, h7]; first|done|exact rfl)) (by first|assumption|rfl|(simp only [zI,zJ,HV.cells,hnt, h1, h2, h3, h7]; exact rfl)) ?_
     | refine r_box (by simp (disch:=first|decide|(simp only[zF,zG,hnt, h1, h2, h3, h7];decide)) only [zA,zB,zC,zD,zE,zF,zG,zH,zI,zJ,zK,HV.cells,hnt, h1, h2, h3, h7]; try exact rfl) ?_
     | refine r_add (by simp (disch:=first|decide|(simp only[zF,zG,hnt, h1, h2, h3, h7];decide)) only [zA,zB,zC,zD,zE,zF,zG,zH,zI,zJ,zK,HV.cells,hnt, h1, h2, h3, h7]; try exact rfl) (by simp (disch:=first|decide|(simp only[zF,zG,hnt, h1, h2, h3, h7];decide)) only [zA,zB,zC,zD,zE,zF,zG,zH,zI,zJ,zK,HV.cells,hnt, h1, h2, h3, h7]; try exact rfl) (by omega) (by omega) ?_
     | refine r_lss (by simp (disch:=first|decide|(simp only[zF,zG,hnt, h1, h2, h3, h7];decide)) only [zA,zB,zC,zD,zE,zF,zG,zH,zI,zJ,zK,HV.cells,hnt, h1, h2, h3, h7]; try exact rfl) (by simp (disch:=first|decide|(simp only[zF,zG,hnt, h1, h2, h3, h7];decide)) only [zA,zB,zC,zD,zE,zF,zG,zH,zI,zJ,zK,HV.cells,hnt, h1, h2, h3, h7]; try exact rfl) (fun hc => ?_) (fun hc => ?_) <;> (try (exfalso; omega))
     | refine r_eq (by simp (disch:=first|decide|(simp only[zF,zG,hnt, h1, h2, h3, h7];decide)) only [zA,zB,zC,zD,zE,zF,zG,zH,zI,zJ,zK,HV.cells,hnt, h1, h2, h3, h7]; try exact rfl) (by simp (disch:=first|decide|(simp only[zF,zG,hnt, h1, h2, h3, h7];decide)) only [zA,zB,zC,zD,zE,zF,zG,zH,zI,zJ,zK,HV.cells,hnt, h1, h2, h3, h7]; try exact rfl) (fun hc => ?_) (fun hc => ?_) <;> (try (exfalso; omega))
     | refine r_ne (by simp (disch:=first|decide|(simp only[zF,zG,hnt, h1, h2, h3, h7];decide)) only [zA,zB,zC,zD,zE,zF,zG,zH,zI,zJ,zK,HV.cells,hnt, h1, h2, h3, h7]; try exact rfl) (by simp (disch:=first|decide|(simp only[zF,zG,hnt, h1, h2, h3, h7];decide)) only [zA,zB,zC,zD,zE,zF,zG,zH,zI,zJ,zK,HV.cells,hnt, h1, h2, h3, h7]; try exact rfl) (fun hc => ?_) (fun hc => ?_) <;> (try (exfalso; omega))
     | refine r_eqb (by simp (disch:=first|decide|(simp only[zF,zG,hnt, h1, h2, h3, h7];decide)) only [zA,zB,zC,zD,zE,zF,zG,zH,zI,zJ,zK,HV.cells,hnt, h1, h2, h3, h7]; try exact rfl) (by simp (disch:=first|decide|(simp only[zF,zG,hnt, h1, h2, h3, h7];decide)) only [zA,zB,zC,zD,zE,zF,zG,zH,zI,zJ,zK,HV.cells,hnt, h1, h2, h3, h7]; try exact rfl) ?_
     | refine r_not1 (by simp (disch:=first|decide|(simp only[zF,zG,hnt, h1, h2, h3, h7];decide)) only [zA,zB,zC,zD,zE,zF,zG,zH,zI,zJ,zK,HV.cells,hnt, h1, h2, h3, h7]; try exact rfl) ?_
     | refine r_len (by simp (disch:=first|decide|(simp only[zF,zG,hnt, h1, h2, h3, h7];decide)) only [zA,zB,zC,zD,zE,zF,zG,zH,zI,zJ,zK,HV.cells,hnt, h1, h2, h3, h7]; try exact rfl) ?_
     | refine r_ixs (by simp (disch:=first|decide|(simp only[zF,zG,hnt, h1, h2, h3, h7];decide)) only [zA,zB,zC,zD,zE,zF,zG,zH,zI,zJ,zK,HV.cells,hnt, h1, h2, h3, h7]; try exact rfl) (by simp (disch:=first|decide|(simp only[zF,zG,hnt, h1, h2, h3, h7];decide)) only [zA,zB,zC,zD,zE,zF,zG,zH,zI,zJ,zK,HV.cells,hnt, h1, h2, h3, h7]; try exact rfl) (by omega) ?_
     | refine w_draw (by omega) (by repeat' first|assumption|refine D.upd ?_ (by omega)|exact D.mono (by assumption) (by omega)) ?_
     | refine d_nil ?_
     | refine d_rest rfl ?_
     | refine d_bs rfl ?_
     | refine d_box rfl ?_
     | refine d_alloc rfl ?_
     | refine d_one rfl ?_
     | refine d_next (by omega) ?_
     | refine d_laid ?_
    refine hq _ _ (Nat.le_refl _) ?_ ?_ ?_ ?_ ?_ (fun r hr => by rw [List.drop_of_length_le (by omega)] at hr; cases hr)
    all_goals first|(simp only [zL,zM,zF,zG,hnt, hds, h1, h2, h3];done)|(simp (disch:=first|decide|(simp only[zF,zG,hnt, hds, h1, h2, h3];decide)) only [zA,zB,zC,zD,zE,zF,zG,zH,zI,zJ,zK,HV.cells,hnt, hds, h1, h2, h3];first|done|exact rfl)|assumption
  | m + 1, i, a, nx, hm, hfl, hd, htg, hrow, hnt, hds, h1, h2, h3, h7, hq, hr => by
    have hi : i < v.length := by omega
    have hrow0 := hrow
    obtain ⟨b, o, cs, kk, rfl, hb, hg, hcs⟩ := hrow (by intro e; rw [e] at hi; simp at hi)
    have hy : v[i]? = some v[i] := by simp [hi]
    have e0 := take_at (hcs i _ hy) (j := 0) rfl
    have ea : t.cells[0 + 2 + 0]? = some (i64 t.a) := rfl
    have eb : t.cells[0 + 2 + 1]? = some (i64 t.b) := rfl
    have hdrop := List.drop_eq_getElem_cons hi
    refine w_it (show L27w1 = _ by unfold L27w1; exact rfl) ?_
    repeat' first
     | refine r_nil ?_
     | refine th_n ?_
     | refine th_r ?_
     | refine th_e ?_
     | refine ib_n ?_
     | refine ib_r ?_
     | refine ib_e ?_
     | refine ib_x (by decide) ?_
     | refine w_exit ?_
     | refine w_seq ?_
     | refine w_reg ?_
     | refine w_ret ?_
     | refine w_skip ?_
     | refine w_block ?_
     | refine w_t (by simp (disch:=first|decide|(simp only[zF,zG,hnt, h1, h2, h3, h7];decide)) only [zA,zB,zC,zD,zE,zF,zG,zH,zI,zJ,zK,HV.cells,hnt, h1, h2, h3, h7]; first|done|exact rfl) ?_
     | refine w_f (by simp (disch:=first|decide|(simp only[zF,zG,hnt, h1, h2, h3, h7];decide)) only [zA,zB,zC,zD,zE,zF,zG,zH,zI,zJ,zK,HV.cells,hnt, h1, h2, h3, h7]; first|done|exact rfl) ?_
     | refine r_take (by simp (disch:=first|decide|(simp only[zF,zG,hnt, h1, h2, h3, h7];decide)) only [zA,zB,zC,zD,zE,zF,zG,zH,zI,zJ,zK,HV.cells,hnt, h1, h2, h3, h7]; first|done|exact rfl) ?_
     | refine r_drop (by simp (disch:=first|decide|(simp only[zF,zG,Bool.not_true,Bool.not_false,hnt, h1, h2, h3, h7];decide)) only [zA,zB,zC,zD,zE,zF,zG,zH,zI,zJ,zK,HV.cells,Bool.not_true,Bool.not_false,hnt, h1, h2, h3, h7]; first|done|exact rfl) ?_
     | refine r_move (by simp (disch:=first|decide|(simp only[zF,zG,hnt, h1, h2, h3, h7];decide)) only [zA,zB,zC,zD,zE,zF,zG,zH,zI,zJ,zK,HV.cells,hnt, h1, h2, h3, h7]; try exact rfl) ?_
     | refine r_fa (by simp (disch:=first|decide|(simp only[zF,zG,hnt, h1, h2, h3, h7];decide)) only [zA,zB,zC,zD,zE,zF,zG,zH,zI,zJ,zK,HV.cells,hnt, h1, h2, h3, h7]; try exact rfl) ?_
     | refine r_ld1 (by simp (disch:=first|decide|(simp only[zF,zG,hnt, h1, h2, h3, h7];decide)) only [zA,zB,zC,zD,zE,zF,zG,zH,zI,zJ,zK,HV.cells,hnt, h1, h2, h3, h7]; try exact rfl) (by first|assumption|(simp (disch:=omega) only [get_same,get_other,hnt, h1, h2, h3, h7]; first|done|exact rfl)) (by first|assumption|rfl|(simp only [zI,zJ,HV.cells,hnt, h1, h2, h3, h7]; exact rfl)) ?_
     | refine r_ldn (by simp (disch:=first|decide|(simp only[zF,zG,hnt, h1, h2, h3, h7];decide)) only [zA,zB,zC,zD,zE,zF,zG,zH,zI,zJ,zK,HV.cells,hnt, h1, h2, h3, h7]; try exact rfl) (by first|assumption|(simp (disch:=omega) only [get_same,get_other,hnt, h1, h2, h3, h7]; first|done|exact rfl)) (by first|assumption|rfl|(simp only [zI,zJ,HV.cells,hnt, h1, h2, h3, h7]; exact rfl)) ?_
     | refine r_box (by simp (disch:=first|decide|(simp only[zF,zG,hnt, h1, h2, h3, h7];decide)) only [zA,zB,zC,zD,zE,zF,zG,zH,zI,zJ,zK,HV.cells,hnt, h1, h2, h3, h7]; try exact rfl) ?_
     | refine r_add (by simp (disch:=first|decide|(simp only[zF,zG,hnt, h1, h2, h3, h7];decide)) only [zA,zB,zC,zD,zE,zF,zG,zH,zI,zJ,zK,HV.cells,hnt, h1, h2, h3, h7]; try exact rfl) (by simp (disch:=first|decide|(simp only[zF,zG,hnt, h1, h2, h3, h7];decide)) only [zA,zB,zC,zD,zE,zF,zG,zH,zI,zJ,zK,HV.cells,hnt, h1, h2, h3, h7]; try exact rfl) (by omega) (by omega) ?_
     | refine r_lss (by simp (disch:=first|decide|(simp only[zF,zG,hnt, h1, h2, h3, h7];decide)) only [zA,zB,zC,zD,zE,zF,zG,zH,zI,zJ,zK,HV.cells,hnt, h1, h2, h3, h7]; try exact rfl) (by simp (disch:=first|decide|(simp only[zF,zG,hnt, h1, h2, h3, h7];decide)) only [zA,zB,zC,zD,zE,zF,zG,zH,zI,zJ,zK,HV.cells,hnt, h1, h2, h3, h7]; try exact rfl) (fun hc => ?_) (fun hc => ?_) <;> (try (exfalso; omega))
     | refine r_eq (by simp (disch:=first|decide|(simp only[zF,zG,hnt, h1, h2, h3, h7];decide)) only [zA,zB,zC,zD,zE,zF,zG,zH,zI,zJ,zK,HV.cells,hnt, h1, h2, h3, h7]; try exact rfl) (by simp (disch:=first|decide|(simp only[zF,zG,hnt, h1, h2, h3, h7];decide)) only [zA,zB,zC,zD,zE,zF,zG,zH,zI,zJ,zK,HV.cells,hnt, h1, h2, h3, h7]; try exact rfl) (fun hc => ?_) (fun hc => ?_) <;> (try (exfalso; omega))
     | refine r_ne (by simp (disch:=first|decide|(simp only[zF,zG,hnt, h1, h2, h3, h7];decide)) only [zA,zB,zC,zD,zE,zF,zG,zH,zI,zJ,zK,HV.cells,hnt, h1, h2, h3, h7]; try exact rfl) (by simp (disch:=first|decide|(simp only[zF,zG,hnt, h1, h2, h3, h7];decide)) only [zA,zB,zC,zD,zE,zF,zG,zH,zI,zJ,zK,HV.cells,hnt, h1, h2, h3, h7]; try exact rfl) (fun hc => ?_) (fun hc => ?_) <;> (try (exfalso; omega))
     | refine r_eqb (by simp (disch:=first|decide|(simp only[zF,zG,hnt, h1, h2, h3, h7];decide)) only [zA,zB,zC,zD,zE,zF,zG,zH,zI,zJ,zK,HV.cells,hnt, h1, h2, h3, h7]; try exact rfl) (by simp (disch:=first|decide|(simp only[zF,zG,hnt, h1, h2, h3, h7];decide)) only [zA,zB,zC,zD,zE,zF,zG,zH,zI,zJ,zK,HV.cells,hnt, h1, h2, h3, h7]; try exact rfl) ?_
     | refine r_not1 (by simp (disch:=first|decide|(simp only[zF,zG,hnt, h1, h2, h3, h7];decide)) only [zA,zB,zC,zD,zE,zF,zG,zH,zI,zJ,zK,HV.cells,hnt, h1, h2, h3, h7]; try exact rfl) ?_
     | refine r_len (by simp (disch:=first|decide|(simp only[zF,zG,hnt, h1, h2, h3, h7];decide)) only [zA,zB,zC,zD,zE,zF,zG,zH,zI,zJ,zK,HV.cells,hnt, h1, h2, h3, h7]; try exact rfl) ?_
     | refine r_ixs (by simp (disch:=first|decide|(simp only[zF,zG,hnt, h1, h2, h3, h7];decide)) only [zA,zB,zC,zD,zE,zF,zG,zH,zI,zJ,zK,HV.cells,hnt, h1, h2, h3, h7]; try exact rfl) (by simp (disch:=first|decide|(simp only[zF,zG,hnt, h1, h2, h3, h7];decide)) only [zA,zB,zC,zD,zE,zF,zG,zH,zI,zJ,zK,HV.cells,hnt, h1, h2, h3, h7]; try exact rfl) (by omega) ?_
     | refine r_calld (by simp (disch:=first|decide|(simp only[zF,zG,hnt, h1, h2, h3, h7];decide)) only [zA,zB,zC,zD,zE,zF,zG,zH,zI,zJ,zK,HV.cells,hnt, h1, h2, h3, h7]; try exact rfl) (by simp (disch:=first|decide|(simp only[zF,zG,hnt, h1, h2, h3, h7];decide)) only [List.map_cons,List.map_nil,List.nil_append,List.cons_append,List.append_nil,zA,zB,zC,zD,zE,zF,zG,zH,zI,zJ,zK,HV.cells,hnt, h1, h2, h3, h7]; try exact rfl) c_In (fun n' hn' hc => ?_) (fun n' hn' hc => ?_) <;> (try (exfalso; omega))
     | refine w_draw (by omega) (by repeat' first|assumption|refine D.upd ?_ (by omega)|exact D.mono (by assumption) (by omega)) ?_
     | refine d_nil ?_
     | refine d_rest rfl ?_
     | refine d_bs rfl ?_
     | refine d_box rfl ?_
     | refine d_alloc rfl ?_
     | refine d_one rfl ?_
     | refine d_next (by omega) ?_
     | refine d_laid ?_
    · refine loop27w1 (cp := cp) (pl := pl) (ll := ll) (lc := lc) hlen m (i + 1) _ _ (by omega) (by omega) (by repeat' first|assumption|refine D.upd ?_ (by omega)|exact D.mono (by assumption) (by omega)) htg (Row.ext hrow0 (by repeat' first|assumption|refine Ext.put ?_ (by omega) (by omega)|exact Ext.up (by assumption) (by omega)|exact Ext.nx (by assumption) (by omega))) ?_ ?_ ?_ ?_ ?_ ?_ (fun a' n2 g0 g1 g2 g3 g4 g5 g6 => hq a' n2 (by omega) g1 g2 g3 g4 g5 ?_) (fun a' n2 g0 g1 g2 g3 g4 => hr a' n2 (by omega) g1 g2 g3 ?_)
      all_goals try first|(simp only [zL,zM,zF,zG,hnt, hds, h1, h2, h3, h7];done)|(simp (disch:=first|decide|(simp only[zF,zG,hnt, hds, h1, h2, h3, h7];decide)) only [zA,zB,zC,zD,zE,zF,zG,zH,zI,zJ,zK,HV.cells,hnt, hds, h1, h2, h3, h7];first|done|exact rfl)|assumption
      · rw [hdrop]; intro r hr; rcases List.mem_cons.1 hr with e | e
        · rw [e]; exact hc
        · exact g6 r e
      · rw [hdrop]; exact fun e => g4 fun r hr => e r (List.mem_cons_of_mem _ hr)
    · refine hr _ _ (by omega) ?_ ?_ ?_ (fun e => hc (e _ (by rw [hdrop]; exact List.mem_cons_self ..)))
      all_goals first|(simp only [zL,zM,zF,zG,hnt, hds];done)|(simp (disch:=first|decide|(simp only[zF,zG,hnt, hds];decide)) only [zA,zB,zC,zD,zE,zF,zG,zH,zI,zJ,zK,HV.cells,hnt, hds];first|done|exact rfl)|assumption
theorem loop27w0 {fl : Nat} {h : Tr HBlk} {Q : HExit → HAct → HS → Prop} {p pl : Option (Nat × Nat)} {v : List Int} {l : List Rd} {cp lc tb : Nat} {t : Tb} (hlen : v.length ≤ 15) (hll : l.length < 1000000000) (htc : t.c = v.length) (hv : ∀ x ∈ v, -1000000 ≤ x ∧ x ≤ 1000000) (hl : ∀ r ∈ l, RdOk2 t.c r) :
    ∀ (m i : Nat) (a : HAct) (nx : Nat), m + i = l.length → fl ≤ nx → D h nx → h.get tb = some (.cells t.cells .exact) → Row ienc 1 h nx p v → Row Rd.enc 4 h nx pl l → a.nt = 53 → a.defers = [] → a.tmp 1 = .slice pl l.length lc → a.tmp 2 = .slice p v.length cp → a.tmp 3 = .ptr (some (tb, 0)) → a.tmp 8 = i64 i →
      (∀ a' n', nx ≤ n' → a'.nt = 53 → a'.defers = [] → a'.tmp 2 = .slice p v.length cp → a'.tmp 3 = .ptr (some (tb, 0)) → (∀ r ∈ l.drop i, RightV v.length r v) → Q .normal a' ⟨h, n'⟩) →
      (∀ a' n', nx ≤ n' → a'.nt = 53 → a'.defers = [] → a'.tmp 6 = .bool false → ¬ (∀ r ∈ l.drop i, RightV v.length r v) → Q .ret a' ⟨h, n'⟩) → W LW fl none (.loop L27w0) (inBlockH 2 Q) a ⟨h, nx⟩
  | 0, i, a, nx, hm, hfl, hd, htg, hrow, hrl, hnt, hds, h1, h2, h3, h8, hq, hr => by
    refine w_it (show L27w0 = _ by unfold L27w0; exact rfl) ?_
    repeat' first
     | refine r_nil ?_
     | refine th_n ?_
     | refine th_r ?_
     | refine th_e ?_
     | refine ib_n ?_
     | refine ib_r ?_
     | refine ib_e ?_
     | refine ib_x (by decide) ?_
     | refine w_exit ?_
     | refine w_seq ?_
     | refine w_reg ?_
     | refine w_ret ?_
     | refine w_skip ?_
     | refine w_block ?_
     | refine w_t (by simp (disch:=first|decide|(simp only[zF,zG,hnt, h1, h2, h3, h8];decide)) only [zA,zB,zC,zD,zE,zF,zG,zH,zI,zJ,zK,HV.cells,hnt, h1, h2, h3, h8]; first|done|exact rfl) ?_
     | refine w_f (by simp (disch:=first|decide|(simp only[zF,zG,hnt, h1, h2, h3, h8];decide)) only [zA,zB,zC,zD,zE,zF,zG,zH,zI,zJ,zK,HV.cells,hnt, h1, h2, h3, h8]; first|done|exact rfl) ?_
     | refine r_take (by simp (disch:=first|decide|(simp only[zF,zG,hnt, h1, h2, h3, h8];decide)) only [zA,zB,zC,zD,zE,zF,zG,zH,zI,zJ,zK,HV.cells,hnt, h1, h2, h3, h8]; first|done|exact rfl) ?_
     | refine r_drop (by simp (disch:=first|decide|(simp only[zF,zG,Bool.not_true,Bool.not_false,hnt, h1, h2, h3, h8];decide)) only [zA,zB,zC,zD,zE,zF,zG,zH,zI,zJ,zK,HV.cells,Bool.not_true,Bool.not_false,hnt, h1, h2, h3, h8]; first|done|exact rfl) ?_
     | refine r_move (by simp (disch:=first|decide|(simp only[zF,zG,hnt, h1, h2, h3, h8];decide)) only [zA,zB,zC,zD,zE,zF,zG,zH,zI,zJ,zK,HV.cells,hnt, h1, h2, h3, h8]; try exact rfl) ?_
     | refine r_fa (by simp (disch:=first|decide|(simp only[zF,zG,hnt, h1, h2, h3, h8];decide)) only [zA,zB,zC,zD,zE,zF,zG,zH,zI,zJ,zK,HV.cells,hnt, h1, h2, h3, h8]; try exact rfl) ?_
     | refine r_ld1 (by simp (disch:=first|decide|(simp only[zF,zG,hnt, h1, h2, h3, h8];decide)) only [zA,zB,zC,zD,zE,zF,zG,zH,zI,zJ,zK,HV.cells,hnt, h1, h2, h3, h8]; try exact rfl) (by first|assumption|(simp (disch:=omega) only [get_same,get_other,hnt, h1, h2, h3, h8]; first|done|exact rfl)) (by first|assumption|rfl|(simp only [zI,zJ,HV.cells,hnt, h1, h2, h3, h8]; exact rfl)) ?_
     | refine r_ldn (by simp (disch:=first|decide|(simp only[zF,zG,hnt, h1, h2, h3, h8];decide)) only [zA,zB,zC,zD,zE,zF,zG,zH,zI,zJ,zK,HV.cells,hnt, h1, h2, h3, h8]; try exact rfl) (by first|assumption|(simp (disch:=omega) only [get_same,get_other,hnt, h1, h2, h3, h8]; first|done|exact rfl)) (by first|assumption|rfl|(simp only [zI,zJ,HV.cells,hnt, h1, h2, h3, h8]; exact rfl)) ?_
     | refine r_box (by simp (disch:=first|decide|(simp only[zF,zG,hnt, h1, h2, h3, h8];decide)) only [zA,zB,zC,zD,zE,zF,zG,zH,zI,zJ,zK,HV.cells,hnt, h1, h2, h3, h8]; try exact rfl) ?_
     | refine r_add (by simp (disch:=first|decide|(simp only[zF,zG,hnt, h1, h2, h3, h8];decide)) only [zA,zB,zC,zD,zE,zF,zG,zH,zI,zJ,zK,HV.cells,hnt, h1, h2, h3, h8]; try exact rfl) (by simp (disch:=first|decide|(simp only[zF,zG,hnt, h1, h2, h3, h8];decide)) only [zA,zB,zC,zD,zE,zF,zG,zH,zI,zJ,zK,HV.cells,hnt, h1, h2, h3, h8]; try exact rfl) (by omega) (by omega) ?_
     | refine r_lss (by simp (disch:=first|decide|(simp only[zF,zG,hnt, h1, h2, h3, h8];decide)) only [zA,zB,zC,zD,zE,zF,zG,zH,zI,zJ,zK,HV.cells,hnt, h1, h2, h3, h8]; try exact rfl) (by simp (disch:=first|decide|(simp only[zF,zG,hnt, h1, h2, h3, h8];decide)) only [zA,zB,zC,zD,zE,zF,zG,zH,zI,zJ,zK,HV.cells,hnt, h1, h2, h3, h8]; try exact rfl) (fun hc => ?_) (fun hc => ?_) <;> (try (exfalso; omega))
     | refine r_eq (by simp (disch:=first|decide|(simp only[zF,zG,hnt, h1, h2, h3, h8];decide)) only [zA,zB,zC,zD,zE,zF,zG,zH,zI,zJ,zK,HV.cells,hnt, h1, h2, h3, h8]; try exact rfl) (by simp (disch:=first|decide|(simp only[zF,zG,hnt, h1, h2, h3, h8];decide)) only [zA,zB,zC,zD,zE,zF,zG,zH,zI,zJ,zK,HV.cells,hnt, h1, h2, h3, h8]; try exact rfl) (fun hc => ?_) (fun hc => ?_) <;> (try (exfalso; omega))
     | refine r_ne (by simp (disch:=first|decide|(simp only[zF,zG,hnt, h1, h2, h3, h8];decide)) only [zA,zB,zC,zD,zE,zF,zG,zH,zI,zJ,zK,HV.cells,hnt, h1, h2, h3, h8]; try exact rfl) (by simp (disch:=first|decide|(simp only[zF,zG,hnt, h1, h2, h3, h8];decide)) only [zA,zB,zC,zD,zE,zF,zG,zH,zI,zJ,zK,HV.cells,hnt, h1, h2, h3, h8]; try exact rfl) (fun hc => ?_) (fun hc => ?_) <;> (try (exfalso; omega))
     | refine r_eqb (by simp (disch:=first|decide|(simp only[zF,zG,hnt, h1, h2, h3, h8];decide)) only [zA,zB,zC,zD,zE,zF,zG,zH,zI,zJ,zK,HV.cells,hnt, h1, h2, h3, h8]; try exact rfl) (by simp (disch:=first|decide|(simp only[zF,zG,hnt, h1, h2, h3, h8];decide)) only [zA,zB,zC,zD,zE,zF,zG,zH,zI,zJ,zK,HV.cells,hnt, h1, h2, h3, h8]; try exact rfl) ?_
     | refine r_not1 (by simp (disch:=first|decide|(simp only[zF,zG,hnt, h1, h2, h3, h8];decide)) only [zA,zB,zC,zD,zE,zF,zG,zH,zI,zJ,zK,HV.cells,hnt, h1, h2, h3, h8]; try exact rfl) ?_
     | refine r_len (by simp (disch:=first|decide|(simp only[zF,zG,hnt, h1, h2, h3, h8];decide)) only [zA,zB,zC,zD,zE,zF,zG,zH,zI,zJ,zK,HV.cells,hnt, h1, h2, h3, h8]; try exact rfl) ?_
     | refine r_ixs (by simp (disch:=first|decide|(simp only[zF,zG,hnt, h1, h2, h3, h8];decide)) only [zA,zB,zC,zD,zE,zF,zG,zH,zI,zJ,zK,HV.cells,hnt, h1, h2, h3, h8]; try exact rfl) (by simp (disch:=first|decide|(simp only[zF,zG,hnt, h1, h2, h3, h8];decide)) only [zA,zB,zC,zD,zE,zF,zG,zH,zI,zJ,zK,HV.cells,hnt, h1, h2, h3, h8]; try exact rfl) (by omega) ?_
     | refine w_draw (by omega) (by repeat' first|assumption|refine D.upd ?_ (by omega)|exact D.mono (by assumption) (by omega)) ?_
     | refine d_nil ?_
     | refine d_rest rfl ?_
     | refine d_bs rfl ?_
     | refine d_box rfl ?_
     | refine d_alloc rfl ?_
     | refine d_one rfl ?_
     | refine d_next (by omega) ?_
     | refine d_laid ?_
    refine hq _ _ (Nat.le_refl _) ?_ ?_ ?_ ?_ (fun r hr => by rw [List.drop_of_length_le (by omega)] at hr; cases hr)
    all_goals first|(simp only [zL,zM,zF,zG,hnt, hds, h2, h3];done)|(simp (disch:=first|decide|(simp only[zF,zG,hnt, hds, h2, h3];decide)) only [zA,zB,zC,zD,zE,zF,zG,zH,zI,zJ,zK,HV.cells,hnt, hds, h2, h3];first|done|exact rfl)|assumption
  | m + 1, i, a, nx, hm, hfl, hd, htg, hrow, hrl, hnt, hds, h1, h2, h3, h8, hq, hr => by
    have hi : i < l.length := by omega
    have hrl0 := hrl
    obtain ⟨b, o, cs, kk, rfl, hb, hg, hcs⟩ := hrl (by intro e; rw [e] at hi; simp at hi)
    have hy : l[i]? = some l[i] := by simp [hi]
    have e0 := hcs i _ hy
    have et : takeN 4 (t.cells.drop 0) = some t.cells := rfl
    have hdrop := List.drop_eq_getElem_cons hi
    have hR : ∀ fl n', nx ≤ n' → C LW fl 71 [.agg t.cells, .agg l[i].enc, .slice p v.length cp] ⟨h, n'⟩ (Sc (· = .bool (decide (RightV v.length l[i] v))) ⟨h, n'⟩) := fun fl n' hn' =>
      c_Right (hd.mono hn') rfl hlen (Row.ext hrow (Ext.nx hd hn')) hv htc rfl (hl _ (List.getElem_mem hi))
    refine w_it (show L27w0 = _ by unfold L27w0; exact rfl) ?_
    repeat' first
     | refine r_nil ?_
     | refine th_n ?_
     | refine th_r ?_
     | refine th_e ?_
     | refine ib_n ?_
     | refine ib_r ?_
     | refine ib_e ?_
     | refine ib_x (by decide) ?_
     | refine w_exit ?_
     | refine w_seq ?_
     | refine w_reg ?_
     | refine w_ret ?_
     | refine w_skip ?_
     | refine w_block ?_
     | refine w_t (by simp (disch:=first|decide|(simp only[zF,zG,hnt, h1, h2, h3, h8];decide)) only [zA,zB,zC,zD,zE,zF,zG,zH,zI,zJ,zK,HV.cells,hnt, h1, h2, h3, h8]; first|done|exact rfl) ?_
     | refine w_f (by simp (disch:=first|decide|(simp only[zF,zG,hnt, h1, h2, h3, h8];decide)) only [zA,zB,zC,zD,zE,zF,zG,zH,zI,zJ,zK,HV.cells,hnt, h1, h2, h3, h8]; first|done|exact rfl) ?_
     | refine r_take (by simp (disch:=first|decide|(simp only[zF,zG,hnt, h1, h2, h3, h8];decide)) only [zA,zB,zC,zD,zE,zF,zG,zH,zI,zJ,zK,HV.cells,hnt, h1, h2, h3, h8]; first|done|exact rfl) ?_
     | refine r_drop (by simp (disch:=first|decide|(simp only[zF,zG,Bool.not_true,Bool.not_false,hnt, h1, h2, h3, h8];decide)) only [zA,zB,zC,zD,zE,zF,zG,zH,zI,zJ,zK,HV.cells,Bool.not_true,Bool.not_false,hnt, h1, h2, h3, h8]; first|done|exact rfl) ?_
     | refine r_move (by simp (disch:=first|decide|(simp only[zF,zG,hnt, h1, h2, h3, h8];decide)) only [zA,zB,zC,zD,zE,zF,zG,zH,zI,zJ,zK,HV.cells,hnt, h1, h2, h3, h8]; try exact rfl) ?_
     | refine r_fa (by simp (disch:=first|decide|(simp only[zF,zG,hnt, h1, h2, h3, h8];decide)) only [zA,zB,zC,zD,zE,zF,zG,zH,zI,zJ,zK,HV.cells,hnt, h1, h2, h3, h8]; try exact rfl) ?_
     | refine r_ld1 (by simp (disch:=first|decide|(simp only[zF,zG,hnt, h1, h2, h3, h8];decide)) only [zA,zB,zC,zD,zE,zF,zG,zH,zI,zJ,zK,HV.cells,hnt, h1, h2, h3, h8]; try exact rfl) (by first|assumption|(simp (disch:=omega) only [get_same,get_other,hnt, h1, h2, h3, h8]; first|done|exact rfl)) (by first|assumption|rfl|(simp only [zI,zJ,HV.cells,hnt, h1, h2, h3, h8]; exact rfl)) ?_
     | refine r_ldn (by simp (disch:=first|decide|(simp only[zF,zG,hnt, h1, h2, h3, h8];decide)) only [zA,zB,zC,zD,zE,zF,zG,zH,zI,zJ,zK,HV.cells,hnt, h1, h2, h3, h8]; try exact rfl) (by first|assumption|(simp (disch:=omega) only [get_same,get_other,hnt, h1, h2, h3, h8]; first|done|exact rfl)) (by first|assumption|rfl|(simp only [zI,zJ,HV.cells,hnt, h1, h2, h3, h8]; exact rfl)) ?_
     | refine r_box (by simp (disch:=first|decide|(simp only[zF,zG,hnt, h1, h2, h3, h8];decide)) only [zA,zB,zC,zD,zE,zF,zG,zH,zI,zJ,zK,HV.cells,hnt, h1, h2, h3, h8]; try exact rfl) ?_
     | refine r_add (by simp (disch:=first|decide|(simp only[zF,zG,hnt, h1, h2, h3, h8];decide)) only [zA,zB,zC,zD,zE,zF,zG,zH,zI,zJ,zK,HV.cells,hnt, h1, h2, h3, h8]; try exact rfl) (by simp (disch:=first|decide|(simp only[zF,zG,hnt, h1, h2, h3, h8];decide)) only [zA,zB,zC,zD,zE,zF,zG,zH,zI,zJ,zK,HV.cells,hnt, h1, h2, h3, h8]; try exact rfl) (by omega) (by omega) ?_
     | refine r_lss (by simp (disch:=first|decide|(simp only[zF,zG,hnt, h1, h2, h3, h8];decide)) only [zA,zB,zC,zD,zE,zF,zG,zH,zI,zJ,zK,HV.cells,hnt, h1, h2, h3, h8]; try exact rfl) (by simp (disch:=first|decide|(simp only[zF,zG,hnt, h1, h2, h3, h8];decide)) only [zA,zB,zC,zD,zE,zF,zG,zH,zI,zJ,zK,HV.cells,hnt, h1, h2, h3, h8]; try exact rfl) (fun hc => ?_) (fun hc => ?_) <;> (try (exfalso; omega))
     | refine r_eq (by simp (disch:=first|decide|(simp only[zF,zG,hnt, h1, h2, h3, h8];decide)) only [zA,zB,zC,zD,zE,zF,zG,zH,zI,zJ,zK,HV.cells,hnt, h1, h2, h3, h8]; try exact rfl) (by simp (disch:=first|decide|(simp only[zF,zG,hnt, h1, h2, h3, h8];decide)) only [zA,zB,zC,zD,zE,zF,zG,zH,zI,zJ,zK,HV.cells,hnt, h1, h2, h3, h8]; try exact rfl) (fun hc => ?_) (fun hc => ?_) <;> (try (exfalso; omega))
     | refine r_ne (by simp (disch:=first|decide|(simp only[zF,zG,hnt, h1, h2, h3, h8];decide)) only [zA,zB,zC,zD,zE,zF,zG,zH,zI,zJ,zK,HV.cells,hnt, h1, h2, h3, h8]; try exact rfl) (by simp (disch:=first|decide|(simp only[zF,zG,hnt, h1, h2, h3, h8];decide)) only [zA,zB,zC,zD,zE,zF,zG,zH,zI,zJ,zK,HV.cells,hnt, h1, h2, h3, h8]; try exact rfl) (fun hc => ?_) (fun hc => ?_) <;> (try (exfalso; omega))
     | refine r_eqb (by simp (disch:=first|decide|(simp only[zF,zG,hnt, h1, h2, h3, h8];decide)) only [zA,zB,zC,zD,zE,zF,zG,zH,zI,zJ,zK,HV.cells,hnt, h1, h2, h3, h8]; try exact rfl) (by simp (disch:=first|decide|(simp only[zF,zG,hnt, h1, h2, h3, h8];decide)) only [zA,zB,zC,zD,zE,zF,zG,zH,zI,zJ,zK,HV.cells,hnt, h1, h2, h3, h8]; try exact rfl) ?_
     | refine r_not1 (by simp (disch:=first|decide|(simp only[zF,zG,hnt, h1, h2, h3, h8];decide)) only [zA,zB,zC,zD,zE,zF,zG,zH,zI,zJ,zK,HV.cells,hnt, h1, h2, h3, h8]; try exact rfl) ?_
     | refine r_len (by simp (disch:=first|decide|(simp only[zF,zG,hnt, h1, h2, h3, h8];decide)) only [zA,zB,zC,zD,zE,zF,zG,zH,zI,zJ,zK,HV.cells,hnt, h1, h2, h3, h8]; try exact rfl) ?_
     | refine r_ixs (by simp (disch:=first|decide|(simp only[zF,zG,hnt, h1, h2, h3, h8];decide)) only [zA,zB,zC,zD,zE,zF,zG,zH,zI,zJ,zK,HV.cells,hnt, h1, h2, h3, h8]; try exact rfl) (by simp (disch:=first|decide|(simp only[zF,zG,hnt, h1, h2, h3, h8];decide)) only [zA,zB,zC,zD,zE,zF,zG,zH,zI,zJ,zK,HV.cells,hnt, h1, h2, h3, h8]; try exact rfl) (by omega) ?_
     | refine r_calld (by simp (disch:=first|decide|(simp only[zF,zG,hnt, h1, h2, h3, h8];decide)) only [zA,zB,zC,zD,zE,zF,zG,zH,zI,zJ,zK,HV.cells,hnt, h1, h2, h3, h8]; try exact rfl) (by simp (disch:=first|decide|(simp only[zF,zG,hnt, h1, h2, h3, h8];decide)) only [List.map_cons,List.map_nil,List.nil_append,List.cons_append,List.append_nil,zA,zB,zC,zD,zE,zF,zG,zH,zI,zJ,zK,HV.cells,hnt, h1, h2, h3, h8]; try exact rfl) (hR _ _ (by omega)) (fun n' hn' hc => ?_) (fun n' hn' hc => ?_) <;> (try (exfalso; omega))
     | refine w_draw (by omega) (by repeat' first|assumption|refine D.upd ?_ (by omega)|exact D.mono (by assumption) (by omega)) ?_
     | refine d_nil ?_
     | refine d_rest rfl ?_
     | refine d_bs rfl ?_
     | refine d_box rfl ?_
     | refine d_alloc rfl ?_
     | refine d_one rfl ?_
     | refine d_next (by omega) ?_
     | refine d_laid ?_
    · refine loop27w0 (cp := cp) (lc := lc) hlen hll htc hv hl m (i + 1) _ _ (by omega) (by omega) (by repeat' first|assumption|refine D.upd ?_ (by omega)|exact D.mono (by assumption) (by omega)) htg (Row.ext hrow (by repeat' first|assumption|refine Ext.put ?_ (by omega) (by omega)|exact Ext.up (by assumption) (by omega)|exact Ext.nx (by assumption) (by omega))) (Row.ext hrl0 (by repeat' first|assumption|refine Ext.put ?_ (by omega) (by omega)|exact Ext.up (by assumption) (by omega)|exact Ext.nx (by assumption) (by omega))) ?_ ?_ ?_ ?_ ?_ ?_ (fun a' n2 g0 g1 g2 g4 g5 g6 => hq a' n2 (by omega) g1 g2 g4 g5 ?_) (fun a' n2 g0 g1 g2 g3 g4 => hr a' n2 (by omega) g1 g2 g3 ?_)
      all_goals try first|(simp only [zL,zM,zF,zG,hnt, hds, h1, h2, h3, h8];done)|(simp (disch:=first|decide|(simp only[zF,zG,hnt, hds, h1, h2, h3, h8];decide)) only [zA,zB,zC,zD,zE,zF,zG,zH,zI,zJ,zK,HV.cells,hnt, hds, h1, h2, h3, h8];first|done|exact rfl)|assumption
      · rw [hdrop]; intro r hr; rcases List.mem_cons.1 hr with e | e
        · rw [e]; exact hc
        · exact g6 r e
      · rw [hdrop]; exact fun e => g4 fun r hr => e r (List.mem_cons_of_mem _ hr)
    · refine hr _ _ (by omega) ?_ ?_ ?_ (fun e => hc (e _ (by rw [hdrop]; exact List.mem_cons_self ..)))
      all_goals first|(simp only [zL,zM,zF,zG,hnt, hds];done)|(simp (disch:=first|decide|(simp only[zF,zG,hnt, hds];decide)) only [zA,zB,zC,zD,zE,zF,zG,zH,zI,zJ,zK,HV.cells,hnt, hds];first|done|exact rfl)|assumption
theorem c_IsTruth {fl : Nat} {h : Tr HBlk} {nx : Nat} (hd : D h nx) {t : Tb} {l : List Rd} {pl p : Option (Nat × Nat)} {v : List Int} {n m cp lc : Nat} (hn : n = v.length) (hm : m = l.length) (hlen : v.length ≤ 15) (hll : l.length < 1000000000) (hrow : Row ienc 1 h nx p v) (hrl : Row Rd.enc 4 h nx pl l)
    (ht : TubeOk t.c t.t t.a t.b) (hl : ∀ r ∈ l, RdOk2 t.c r) : C LW fl 27 [.agg t.cells, .slice pl m lc, .slice p n cp] ⟨h, nx⟩ (Sc (· = .bool (decide (TruthV t.c t.t t.a t.b l v))) ⟨h, nx⟩) := by
  subst hn
  subst hm
  have ec : t.cells[0 + 0]? = some (i64 t.c) := rfl
  have et : t.cells[0 + 1]? = some (i64 t.t) := rfl
  refine c_in lw27 rfl rfl rfl ?_
  dsimp only [L27]
  repeat' first
   | refine r_nil ?_
   | refine th_n ?_
   | refine th_r ?_
   | refine th_e ?_
   | refine ib_n ?_
   | refine ib_r ?_
   | refine ib_e ?_
   | refine ib_x (by decide) ?_
   | refine w_exit ?_
   | refine w_seq ?_
   | refine w_reg ?_
   | refine w_ret ?_
   | refine w_skip ?_
   | refine w_block ?_
   | refine w_t (by simp (disch:=first|decide|(simp only[zF,zG];decide)) only [zA,zB,zC,zD,zE,zF,zG,zH,zI,zJ,zK,HV.cells]; first|done|exact rfl) ?_
   | refine w_f (by simp (disch:=first|decide|(simp only[zF,zG];decide)) only [zA,zB,zC,zD,zE,zF,zG,zH,zI,zJ,zK,HV.cells]; first|done|exact rfl) ?_
   | refine r_take (by simp (disch:=first|decide|(simp only[zF,zG];decide)) only [zA,zB,zC,zD,zE,zF,zG,zH,zI,zJ,zK,HV.cells]; first|done|exact rfl) ?_
   | refine r_drop (by simp (disch:=first|decide|(simp only[zF,zG,Bool.not_true,Bool.not_false];decide)) only [zA,zB,zC,zD,zE,zF,zG,zH,zI,zJ,zK,HV.cells,Bool.not_true,Bool.not_false]; first|done|exact rfl) ?_
   | refine r_move (by simp (disch:=first|decide|(simp only[zF,zG];decide)) only [zA,zB,zC,zD,zE,zF,zG,zH,zI,zJ,zK,HV.cells]; try exact rfl) ?_
   | refine r_fa (by simp (disch:=first|decide|(simp only[zF,zG];decide)) only [zA,zB,zC,zD,zE,zF,zG,zH,zI,zJ,zK,HV.cells]; try exact rfl) ?_
   | refine r_ld1 (by simp (disch:=first|decide|(simp only[zF,zG];decide)) only [zA,zB,zC,zD,zE,zF,zG,zH,zI,zJ,zK,HV.cells]; try exact rfl) (by first|assumption|(simp (disch:=omega) only [get_same,get_other]; first|done|exact rfl)) (by first|assumption|rfl|(simp only [zI,zJ,HV.cells]; exact rfl)) ?_
   | refine r_ldn (by simp (disch:=first|decide|(simp only[zF,zG];decide)) only [zA,zB,zC,zD,zE,zF,zG,zH,zI,zJ,zK,HV.cells]; try exact rfl) (by first|assumption|(simp (disch:=omega) only [get_same,get_other]; first|done|exact rfl)) (by first|assumption|rfl|(simp only [zI,zJ,HV.cells]; exact rfl)) ?_
   | refine r_box (by simp (disch:=first|decide|(simp only[zF,zG];decide)) only [zA,zB,zC,zD,zE,zF,zG,zH,zI,zJ,zK,HV.cells]; try exact rfl) ?_
   | refine r_add (by simp (disch:=first|decide|(simp only[zF,zG];decide)) only [zA,zB,zC,zD,zE,zF,zG,zH,zI,zJ,zK,HV.cells]; try exact rfl) (by simp (disch:=first|decide|(simp only[zF,zG];decide)) only [zA,zB,zC,zD,zE,zF,zG,zH,zI,zJ,zK,HV.cells]; try exact rfl) (by omega) (by omega) ?_
   | refine r_lss (by simp (disch:=first|decide|(simp only[zF,zG];decide)) only [zA,zB,zC,zD,zE,zF,zG,zH,zI,zJ,zK,HV.cells]; try exact rfl) (by simp (disch:=first|decide|(simp only[zF,zG];decide)) only [zA,zB,zC,zD,zE,zF,zG,zH,zI,zJ,zK,HV.cells]; try exact rfl) (fun hc => ?_) (fun hc => ?_) <;> (try (exfalso; omega))
   | refine r_eq (by simp (disch:=first|decide|(simp only[zF,zG];decide)) only [zA,zB,zC,zD,zE,zF,zG,zH,zI,zJ,zK,HV.cells]; try exact rfl) (by simp (disch:=first|decide|(simp only[zF,zG];decide)) only [zA,zB,zC,zD,zE,zF,zG,zH,zI,zJ,zK,HV.cells]; try exact rfl) (fun hc => ?_) (fun hc => ?_) <;> (try (exfalso; omega))
   | refine r_ne (by simp (disch:=first|decide|(simp only[zF,zG];decide)) only [zA,zB,zC,zD,zE,zF,zG,zH,zI,zJ,zK,HV.cells]; try exact rfl) (by simp (disch:=first|decide|(simp only[zF,zG];decide)) only [zA,zB,zC,zD,zE,zF,zG,zH,zI,zJ,zK,HV.cells]; try exact rfl) (fun hc => ?_) (fun hc => ?_) <;> (try (exfalso; omega))
   | refine r_eqb (by simp (disch:=first|decide|(simp only[zF,zG];decide)) only [zA,zB,zC,zD,zE,zF,zG,zH,zI,zJ,zK,HV.cells]; try exact rfl) (by simp (disch:=first|decide|(simp only[zF,zG];decide)) only [zA,zB,zC,zD,zE,zF,zG,zH,zI,zJ,zK,HV.cells]; try exact rfl) ?_
   | refine r_not1 (by simp (disch:=first|decide|(simp only[zF,zG];decide)) only [zA,zB,zC,zD,zE,zF,zG,zH,zI,zJ,zK,HV.cells]; try exact rfl) ?_
   | refine r_len (by simp (disch:=first|decide|(simp only[zF,zG];decide)) only [zA,zB,zC,zD,zE,zF,zG,zH,zI,zJ,zK,HV.cells]; try exact rfl) ?_
   | refine r_ixs (by simp (disch:=first|decide|(simp only[zF,zG];decide)) only [zA,zB,zC,zD,zE,zF,zG,zH,zI,zJ,zK,HV.cells]; try exact rfl) (by simp (disch:=first|decide|(simp only[zF,zG];decide)) only [zA,zB,zC,zD,zE,zF,zG,zH,zI,zJ,zK,HV.cells]; try exact rfl) (by omega) ?_
   | refine w_draw (by omega) (by repeat' first|assumption|refine D.upd ?_ (by omega)|exact D.mono (by assumption) (by omega)) ?_
   | refine d_nil ?_
   | refine d_rest rfl ?_
   | refine d_bs rfl ?_
   | refine d_box rfl ?_
   | refine d_alloc rfl ?_
   | refine d_one rfl ?_
   | refine d_next (by omega) ?_
   | refine d_laid ?_
  · refine fin_r (by simp only [zL,zM]) (by simp (disch:=first|decide|(simp only[zF,zG];decide)) only [zA,zB,zC,zD,zE,zF,zG,zH,zI,zJ,zK,HV.cells]; try exact rfl) (sc_flat rfl (by dsimp only; omega) ?_); rw [decide_eq_false (fun e => hc e.1)]
  · refine loop27w1 (cp := cp) (pl := pl) (ll := l.length) (lc := lc) (t := t) (tb := nx) (by omega) v.length 0 _ _ (by omega) (by omega) (by repeat' first|assumption|refine D.upd ?_ (by omega)|exact D.mono (by assumption) (by omega)) (by first|assumption|(simp (disch:=omega) only [get_same,get_other]; first|done|exact rfl)) (Row.ext hrow (by repeat' first|assumption|refine Ext.put ?_ (by omega) (by omega)|exact Ext.up (by assumption) (by omega)|exact Ext.nx (by assumption) (by omega))) ?_ ?_ ?_ ?_ ?_ ?_ (fun a' n2 g0 g1 g2 g3 g4 g5 g6 => ?_) (fun a' n2 g0 g1 g2 g3 g4 => ?_)
    all_goals try first|(simp only [zL,zM,zF,zG];done)|(simp (disch:=first|decide|(simp only[zF,zG];decide)) only [zA,zB,zC,zD,zE,zF,zG,zH,zI,zJ,zK,HV.cells];first|done|exact rfl)|assumption
    · have hv : ∀ x ∈ v, t.a ≤ x ∧ x ≤ t.b := by simpa using g6
      unfold TubeOk at ht
      repeat' first
       | refine r_nil ?_
       | refine th_n ?_
       | refine th_r ?_
       | refine th_e ?_
       | refine ib_n ?_
       | refine ib_r ?_
       | refine ib_e ?_
       | refine ib_x (by decide) ?_
       | refine w_exit ?_
       | refine w_seq ?_
       | refine w_reg ?_
       | refine w_ret ?_
       | refine w_skip ?_
       | refine w_block ?_
       | refine w_t (by simp (disch:=first|decide|(simp only[zF,zG,g1, g3, g4, g5];decide)) only [zA,zB,zC,zD,zE,zF,zG,zH,zI,zJ,zK,HV.cells,g1, g3, g4, g5]; first|done|exact rfl) ?_
       | refine w_f (by simp (disch:=first|decide|(simp only[zF,zG,g1, g3, g4, g5];decide)) only [zA,zB,zC,zD,zE,zF,zG,zH,zI,zJ,zK,HV.cells,g1, g3, g4, g5]; first|done|exact rfl) ?_
       | refine r_take (by simp (disch:=first|decide|(simp only[zF,zG,g1, g3, g4, g5];decide)) only [zA,zB,zC,zD,zE,zF,zG,zH,zI,zJ,zK,HV.cells,g1, g3, g4, g5]; first|done|exact rfl) ?_
       | refine r_drop (by simp (disch:=first|decide|(simp only[zF,zG,Bool.not_true,Bool.not_false,g1, g3, g4, g5];decide)) only [zA,zB,zC,zD,zE,zF,zG,zH,zI,zJ,zK,HV.cells,Bool.not_true,Bool.not_false,g1, g3, g4, g5]; first|done|exact rfl) ?_
       | refine r_move (by simp (disch:=first|decide|(simp only[zF,zG,g1, g3, g4, g5];decide)) only [zA,zB,zC,zD,zE,zF,zG,zH,zI,zJ,zK,HV.cells,g1, g3, g4, g5]; try exact rfl) ?_
       | refine r_fa (by simp (disch:=first|decide|(simp only[zF,zG,g1, g3, g4, g5];decide)) only [zA,zB,zC,zD,zE,zF,zG,zH,zI,zJ,zK,HV.cells,g1, g3, g4, g5]; try exact rfl) ?_
       | refine r_ld1 (by simp (disch:=first|decide|(simp only[zF,zG,g1, g3, g4, g5];decide)) only [zA,zB,zC,zD,zE,zF,zG,zH,zI,zJ,zK,HV.cells,g1, g3, g4, g5]; try exact rfl) (by first|assumption|(simp (disch:=omega) only [get_same,get_other,g1, g3, g4, g5]; first|done|exact rfl)) (by first|assumption|rfl|(simp only [zI,zJ,HV.cells,g1, g3, g4, g5]; exact rfl)) ?_
       | refine r_ldn (by simp (disch:=first|decide|(simp only[zF,zG,g1, g3, g4, g5];decide)) only [zA,zB,zC,zD,zE,zF,zG,zH,zI,zJ,zK,HV.cells,g1, g3, g4, g5]; try exact rfl) (by first|assumption|(simp (disch:=omega) only [get_same,get_other,g1, g3, g4, g5]; first|done|exact rfl)) (by first|assumption|rfl|(simp only [zI,zJ,HV.cells,g1, g3, g4, g5]; exact rfl)) ?_
       | refine r_box (by simp (disch:=first|decide|(simp only[zF,zG,g1, g3, g4, g5];decide)) only [zA,zB,zC,zD,zE,zF,zG,zH,zI,zJ,zK,HV.cells,g1, g3, g4, g5]; try exact rfl) ?_
       | refine r_add (by simp (disch:=first|decide|(simp only[zF,zG,g1, g3, g4, g5];decide)) only [zA,zB,zC,zD,zE,zF,zG,zH,zI,zJ,zK,HV.cells,g1, g3, g4, g5]; try exact rfl) (by simp (disch:=first|decide|(simp only[zF,zG,g1, g3, g4, g5];decide)) only [zA,zB,zC,zD,zE,zF,zG,zH,zI,zJ,zK,HV.cells,g1, g3, g4, g5]; try exact rfl) (by omega) (by omega) ?_
       | refine r_lss (by simp (disch:=first|decide|(simp only[zF,zG,g1, g3, g4, g5];decide)) only [zA,zB,zC,zD,zE,zF,zG,zH,zI,zJ,zK,HV.cells,g1, g3, g4, g5]; try exact rfl) (by simp (disch:=first|decide|(simp only[zF,zG,g1, g3, g4, g5];decide)) only [zA,zB,zC,zD,zE,zF,zG,zH,zI,zJ,zK,HV.cells,g1, g3, g4, g5]; try exact rfl) (fun hc => ?_) (fun hc => ?_) <;> (try (exfalso; omega))
       | refine r_eq (by simp (disch:=first|decide|(simp only[zF,zG,g1, g3, g4, g5];decide)) only [zA,zB,zC,zD,zE,zF,zG,zH,zI,zJ,zK,HV.cells,g1, g3, g4, g5]; try exact rfl) (by simp (disch:=first|decide|(simp only[zF,zG,g1, g3, g4, g5];decide)) only [zA,zB,zC,zD,zE,zF,zG,zH,zI,zJ,zK,HV.cells,g1, g3, g4, g5]; try exact rfl) (fun hc => ?_) (fun hc => ?_) <;> (try (exfalso; omega))
       | refine r_ne (by simp (disch:=first|decide|(simp only[zF,zG,g1, g3, g4, g5];decide)) only [zA,zB,zC,zD,zE,zF,zG,zH,zI,zJ,zK,HV.cells,g1, g3, g4, g5]; try exact rfl) (by simp (disch:=first|decide|(simp only[zF,zG,g1, g3, g4, g5];decide)) only [zA,zB,zC,zD,zE,zF,zG,zH,zI,zJ,zK,HV.cells,g1, g3, g4, g5]; try exact rfl) (fun hc => ?_) (fun hc => ?_) <;> (try (exfalso; omega))
       | refine r_eqb (by simp (disch:=first|decide|(simp only[zF,zG,g1, g3, g4, g5];decide)) only [zA,zB,zC,zD,zE,zF,zG,zH,zI,zJ,zK,HV.cells,g1, g3, g4, g5]; try exact rfl) (by simp (disch:=first|decide|(simp only[zF,zG,g1, g3, g4, g5];decide)) only [zA,zB,zC,zD,zE,zF,zG,zH,zI,zJ,zK,HV.cells,g1, g3, g4, g5]; try exact rfl) ?_
       | refine r_not1 (by simp (disch:=first|decide|(simp only[zF,zG,g1, g3, g4, g5];decide)) only [zA,zB,zC,zD,zE,zF,zG,zH,zI,zJ,zK,HV.cells,g1, g3, g4, g5]; try exact rfl) ?_
       | refine r_len (by simp (disch:=first|decide|(simp only[zF,zG,g1, g3, g4, g5];decide)) only [zA,zB,zC,zD,zE,zF,zG,zH,zI,zJ,zK,HV.cells,g1, g3, g4, g5]; try exact rfl) ?_
       | refine r_ixs (by simp (disch:=first|decide|(simp only[zF,zG,g1, g3, g4, g5];decide)) only [zA,zB,zC,zD,zE,zF,zG,zH,zI,zJ,zK,HV.cells,g1, g3, g4, g5]; try exact rfl) (by simp (disch:=first|decide|(simp only[zF,zG,g1, g3, g4, g5];decide)) only [zA,zB,zC,zD,zE,zF,zG,zH,zI,zJ,zK,HV.cells,g1, g3, g4, g5]; try exact rfl) (by omega) ?_
       | refine w_draw (by omega) (by repeat' first|assumption|refine D.upd ?_ (by omega)|exact D.mono (by assumption) (by omega)) ?_
       | refine d_nil ?_
       | refine d_rest rfl ?_
       | refine d_bs rfl ?_
       | refine d_box rfl ?_
       | refine d_alloc rfl ?_
       | refine d_one rfl ?_
       | refine d_next (by omega) ?_
       | refine d_laid ?_
      refine loop27w0 (cp := cp) (lc := lc) (t := t) (tb := nx) hlen hll (by omega) (fun x hx => by have := hv x hx; omega) hl l.length 0 _ _ (by omega) (by omega) (by repeat' first|assumption|refine D.upd ?_ (by omega)|exact D.mono (by assumption) (by omega)) (by first|assumption|(simp (disch:=omega) only [get_same,get_other]; first|done|exact rfl)) (Row.ext hrow (by repeat' first|assumption|refine Ext.put ?_ (by omega) (by omega)|exact Ext.up (by assumption) (by omega)|exact Ext.nx (by assumption) (by omega))) (Row.ext hrl (by repeat' first|assumption|refine Ext.put ?_ (by omega) (by omega)|exact Ext.up (by assumption) (by omega)|exact Ext.nx (by assumption) (by omega))) ?_ ?_ ?_ ?_ ?_ ?_ (fun a2 n3 e0 e1 e2 e4 e5 e6 => ?_) (fun a2 n3 e0 e1 e2 e3 e4 => ?_)
      all_goals try first|(simp only [zL,zM,zF,zG,g1, g2, g3, g4, g5];done)|(simp (disch:=first|decide|(simp only[zF,zG,g1, g2, g3, g4, g5];decide)) only [zA,zB,zC,zD,zE,zF,zG,zH,zI,zJ,zK,HV.cells,g1, g2, g3, g4, g5];first|done|exact rfl)|assumption
      · have hH : ∀ fl h' n', Ext h nx h' n' → C LW fl 38 [.slice p v.length cp, i64 t.c] ⟨h', n'⟩ (Sc (· = i64 (hgt v v.length)) ⟨h', n'⟩) := fun fl h' n' e => by
          rw [show t.c = (v.length : Int) by omega]
          exact c_Height rfl (Nat.le_refl _) (by omega) (Row.ext hrow e) (fun x hx => by have := hv x hx; omega)
        repeat' first
         | refine r_nil ?_
         | refine th_n ?_
         | refine th_r ?_
         | refine th_e ?_
         | refine ib_n ?_
         | refine ib_r ?_
         | refine ib_e ?_
         | refine ib_x (by decide) ?_
         | refine w_exit ?_
         | refine w_seq ?_
         | refine w_reg ?_
         | refine w_ret ?_
         | refine w_skip ?_
         | refine w_block ?_
         | refine w_t (by simp (disch:=first|decide|(simp only[zF,zG,e1, e4, e5];decide)) only [zA,zB,zC,zD,zE,zF,zG,zH,zI,zJ,zK,HV.cells,e1, e4, e5]; first|done|exact rfl) ?_
         | refine w_f (by simp (disch:=first|decide|(simp only[zF,zG,e1, e4, e5];decide)) only [zA,zB,zC,zD,zE,zF,zG,zH,zI,zJ,zK,HV.cells,e1, e4, e5]; first|done|exact rfl) ?_
         | refine r_take (by simp (disch:=first|decide|(simp only[zF,zG,e1, e4, e5];decide)) only [zA,zB,zC,zD,zE,zF,zG,zH,zI,zJ,zK,HV.cells,e1, e4, e5]; first|done|exact rfl) ?_
         | refine r_drop (by simp (disch:=first|decide|(simp only[zF,zG,Bool.not_true,Bool.not_false,e1, e4, e5];decide)) only [zA,zB,zC,zD,zE,zF,zG,zH,zI,zJ,zK,HV.cells,Bool.not_true,Bool.not_false,e1, e4, e5]; first|done|exact rfl) ?_
         | refine r_move (by simp (disch:=first|decide|(simp only[zF,zG,e1, e4, e5];decide)) only [zA,zB,zC,zD,zE,zF,zG,zH,zI,zJ,zK,HV.cells,e1, e4, e5]; try exact rfl) ?_
         | refine r_fa (by simp (disch:=first|decide|(simp only[zF,zG,e1, e4, e5];decide)) only [zA,zB,zC,zD,zE,zF,zG,zH,zI,zJ,zK,HV.cells,e1, e4, e5]; try exact rfl) ?_
         | refine r_ld1 (by simp (disch:=first|decide|(simp only[zF,zG,e1, e4, e5];decide)) only [zA,zB,zC,zD,zE,zF,zG,zH,zI,zJ,zK,HV.cells,e1, e4, e5]; try exact rfl) (by first|assumption|(simp (disch:=omega) only [get_same,get_other,e1, e4, e5]; first|done|exact rfl)) (by first|assumption|rfl|(simp only [zI,zJ,HV.cells,e1, e4, e5]; exact rfl)) ?_
         | refine r_ldn (by simp (disch:=first|decide|(simp only[zF,zG,e1, e4, e5];decide)) only [zA,zB,zC,zD,zE,zF,zG,zH,zI,zJ,zK,HV.cells,e1, e4, e5]; try exact rfl) (by first|assumption|(simp (disch:=omega) only [get_same,get_other,e1, e4, e5]; first|done|exact rfl)) (by first|assumption|rfl|(simp only [zI,zJ,HV.cells,e1, e4, e5]; exact rfl)) ?_
         | refine r_box (by simp (disch:=first|decide|(simp only[zF,zG,e1, e4, e5];decide)) only [zA,zB,zC,zD,zE,zF,zG,zH,zI,zJ,zK,HV.cells,e1, e4, e5]; try exact rfl) ?_
         | refine r_add (by simp (disch:=first|decide|(simp only[zF,zG,e1, e4, e5];decide)) only [zA,zB,zC,zD,zE,zF,zG,zH,zI,zJ,zK,HV.cells,e1, e4, e5]; try exact rfl) (by simp (disch:=first|decide|(simp only[zF,zG,e1, e4, e5];decide)) only [zA,zB,zC,zD,zE,zF,zG,zH,zI,zJ,zK,HV.cells,e1, e4, e5]; try exact rfl) (by omega) (by omega) ?_
         | refine r_lss (by simp (disch:=first|decide|(simp only[zF,zG,e1, e4, e5];decide)) only [zA,zB,zC,zD,zE,zF,zG,zH,zI,zJ,zK,HV.cells,e1, e4, e5]; try exact rfl) (by simp (disch:=first|decide|(simp only[zF,zG,e1, e4, e5];decide)) only [zA,zB,zC,zD,zE,zF,zG,zH,zI,zJ,zK,HV.cells,e1, e4, e5]; try exact rfl) (fun hc => ?_) (fun hc => ?_) <;> (try (exfalso; omega))
         | refine r_eq (by simp (disch:=first|decide|(simp only[zF,zG,e1, e4, e5];decide)) only [zA,zB,zC,zD,zE,zF,zG,zH,zI,zJ,zK,HV.cells,e1, e4, e5]; try exact rfl) (by simp (disch:=first|decide|(simp only[zF,zG,e1, e4, e5];decide)) only [zA,zB,zC,zD,zE,zF,zG,zH,zI,zJ,zK,HV.cells,e1, e4, e5]; try exact rfl) (fun hc => ?_) (fun hc => ?_) <;> (try (exfalso; omega))
         | refine r_ne (by simp (disch:=first|decide|(simp only[zF,zG,e1, e4, e5];decide)) only [zA,zB,zC,zD,zE,zF,zG,zH,zI,zJ,zK,HV.cells,e1, e4, e5]; try exact rfl) (by simp (disch:=first|decide|(simp only[zF,zG,e1, e4, e5];decide)) only [zA,zB,zC,zD,zE,zF,zG,zH,zI,zJ,zK,HV.cells,e1, e4, e5]; try exact rfl) (fun hc => ?_) (fun hc => ?_) <;> (try (exfalso; omega))
         | refine r_eqb (by simp (disch:=first|decide|(simp only[zF,zG,e1, e4, e5];decide)) only [zA,zB,zC,zD,zE,zF,zG,zH,zI,zJ,zK,HV.cells,e1, e4, e5]; try exact rfl) (by simp (disch:=first|decide|(simp only[zF,zG,e1, e4, e5];decide)) only [zA,zB,zC,zD,zE,zF,zG,zH,zI,zJ,zK,HV.cells,e1, e4, e5]; try exact rfl) ?_
         | refine r_not1 (by simp (disch:=first|decide|(simp only[zF,zG,e1, e4, e5];decide)) only [zA,zB,zC,zD,zE,zF,zG,zH,zI,zJ,zK,HV.cells,e1, e4, e5]; try exact rfl) ?_
         | refine r_len (by simp (disch:=first|decide|(simp only[zF,zG,e1, e4, e5];decide)) only [zA,zB,zC,zD,zE,zF,zG,zH,zI,zJ,zK,HV.cells,e1, e4, e5]; try exact rfl) ?_
         | refine r_ixs (by simp (disch:=first|decide|(simp only[zF,zG,e1, e4, e5];decide)) only [zA,zB,zC,zD,zE,zF,zG,zH,zI,zJ,zK,HV.cells,e1, e4, e5]; try exact rfl) (by simp (disch:=first|decide|(simp only[zF,zG,e1, e4, e5];decide)) only [zA,zB,zC,zD,zE,zF,zG,zH,zI,zJ,zK,HV.cells,e1, e4, e5]; try exact rfl) (by omega) ?_
         | refine r_calls (by simp (disch:=first|decide|(simp only[zF,zG,e1, e4, e5];decide)) only [zA,zB,zC,zD,zE,zF,zG,zH,zI,zJ,zK,HV.cells,e1, e4, e5]; try exact rfl) (by simp (disch:=first|decide|(simp only[zF,zG,e1, e4, e5];decide)) only [List.map_cons,List.map_nil,List.nil_append,List.cons_append,List.append_nil,zA,zB,zC,zD,zE,zF,zG,zH,zI,zJ,zK,HV.cells,e1, e4, e5]; try exact rfl) (hH _ _ _ (by repeat' first|assumption|refine Ext.put ?_ (by omega) (by omega)|exact Ext.up (by assumption) (by omega)|exact Ext.nx (by assumption) (by omega))) (fun n' hn' => ?_)
         | refine w_draw (by omega) (by repeat' first|assumption|refine D.upd ?_ (by omega)|exact D.mono (by assumption) (by omega)) ?_
         | refine d_nil ?_
         | refine d_rest rfl ?_
         | refine d_bs rfl ?_
         | refine d_box rfl ?_
         | refine d_alloc rfl ?_
         | refine d_one rfl ?_
         | refine d_next (by omega) ?_
         | refine d_laid ?_
        · refine fin_r (by simp only [zL, e2]) (by simp (disch:=first|decide|(simp only[zF,zG,e1];decide)) only [zA,zB,zC,zD,zE,zF,zG,zH,zI,zJ,zK,HV.cells,e1]; try exact rfl) (sc_flat rfl (by dsimp only; omega) ?_); rw [decide_eq_true ⟨by omega, hv, by simpa using e6, hc⟩]
        · refine fin_r (by simp only [zL, e2]) (by simp (disch:=first|decide|(simp only[zF,zG,e1];decide)) only [zA,zB,zC,zD,zE,zF,zG,zH,zI,zJ,zK,HV.cells,e1]; try exact rfl) (sc_flat rfl (by dsimp only; omega) ?_); rw [decide_eq_false (fun e => hc e.2.2.2)]
      · repeat' first
         | refine r_nil ?_
         | refine th_n ?_
         | refine th_r ?_
         | refine th_e ?_
         | refine ib_n ?_
         | refine ib_r ?_
         | refine ib_e ?_
         | refine ib_x (by decide) ?_
         | refine w_exit ?_
         | refine w_seq ?_
         | refine w_reg ?_
         | refine w_ret ?_
         | refine w_skip ?_
         | refine w_block ?_
         | refine w_t (by simp (disch:=first|decide|(simp only[zF,zG,e1];decide)) only [zA,zB,zC,zD,zE,zF,zG,zH,zI,zJ,zK,HV.cells,e1]; first|done|exact rfl) ?_
         | refine w_f (by simp (disch:=first|decide|(simp only[zF,zG,e1];decide)) only [zA,zB,zC,zD,zE,zF,zG,zH,zI,zJ,zK,HV.cells,e1]; first|done|exact rfl) ?_
         | refine r_take (by simp (disch:=first|decide|(simp only[zF,zG,e1];decide)) only [zA,zB,zC,zD,zE,zF,zG,zH,zI,zJ,zK,HV.cells,e1]; first|done|exact rfl) ?_
         | refine r_drop (by simp (disch:=first|decide|(simp only[zF,zG,Bool.not_true,Bool.not_false,e1];decide)) only [zA,zB,zC,zD,zE,zF,zG,zH,zI,zJ,zK,HV.cells,Bool.not_true,Bool.not_false,e1]; first|done|exact rfl) ?_
         | refine r_move (by simp (disch:=first|decide|(simp only[zF,zG,e1];decide)) only [zA,zB,zC,zD,zE,zF,zG,zH,zI,zJ,zK,HV.cells,e1]; try exact rfl) ?_
         | refine r_fa (by simp (disch:=first|decide|(simp only[zF,zG,e1];decide)) only [zA,zB,zC,zD,zE,zF,zG,zH,zI,zJ,zK,HV.cells,e1]; try exact rfl) ?_
         | refine r_ld1 (by simp (disch:=first|decide|(simp only[zF,zG,e1];decide)) only [zA,zB,zC,zD,zE,zF,zG,zH,zI,zJ,zK,HV.cells,e1]; try exact rfl) (by first|assumption|(simp (disch:=omega) only [get_same,get_other,e1]; first|done|exact rfl)) (by first|assumption|rfl|(simp only [zI,zJ,HV.cells,e1]; exact rfl)) ?_
         | refine r_ldn (by simp (disch:=first|decide|(simp only[zF,zG,e1];decide)) only [zA,zB,zC,zD,zE,zF,zG,zH,zI,zJ,zK,HV.cells,e1]; try exact rfl) (by first|assumption|(simp (disch:=omega) only [get_same,get_other,e1]; first|done|exact rfl)) (by first|assumption|rfl|(simp only [zI,zJ,HV.cells,e1]; exact rfl)) ?_
         | refine r_box (by simp (disch:=first|decide|(simp only[zF,zG,e1];decide)) only [zA,zB,zC,zD,zE,zF,zG,zH,zI,zJ,zK,HV.cells,e1]; try exact rfl) ?_
         | refine r_add (by simp (disch:=first|decide|(simp only[zF,zG,e1];decide)) only [zA,zB,zC,zD,zE,zF,zG,zH,zI,zJ,zK,HV.cells,e1]; try exact rfl) (by simp (disch:=first|decide|(simp only[zF,zG,e1];decide)) only [zA,zB,zC,zD,zE,zF,zG,zH,zI,zJ,zK,HV.cells,e1]; try exact rfl) (by omega) (by omega) ?_
         | refine r_lss (by simp (disch:=first|decide|(simp only[zF,zG,e1];decide)) only [zA,zB,zC,zD,zE,zF,zG,zH,zI,zJ,zK,HV.cells,e1]; try exact rfl) (by simp (disch:=first|decide|(simp only[zF,zG,e1];decide)) only [zA,zB,zC,zD,zE,zF,zG,zH,zI,zJ,zK,HV.cells,e1]; try exact rfl) (fun hc => ?_) (fun hc => ?_) <;> (try (exfalso; omega))
         | refine r_eq (by simp (disch:=first|decide|(simp only[zF,zG,e1];decide)) only [zA,zB,zC,zD,zE,zF,zG,zH,zI,zJ,zK,HV.cells,e1]; try exact rfl) (by simp (disch:=first|decide|(simp only[zF,zG,e1];decide)) only [zA,zB,zC,zD,zE,zF,zG,zH,zI,zJ,zK,HV.cells,e1]; try exact rfl) (fun hc => ?_) (fun hc => ?_) <;> (try (exfalso; omega))
         | refine r_ne (by simp (disch:=first|decide|(simp only[zF,zG,e1];decide)) only [zA,zB,zC,zD,zE,zF,zG,zH,zI,zJ,zK,HV.cells,e1]; try exact rfl) (by simp (disch:=first|decide|(simp only[zF,zG,e1];decide)) only [zA,zB,zC,zD,zE,zF,zG,zH,zI,zJ,zK,HV.cells,e1]; try exact rfl) (fun hc => ?_) (fun hc => ?_) <;> (try (exfalso; omega))
         | refine r_eqb (by simp (disch:=first|decide|(simp only[zF,zG,e1];decide)) only [zA,zB,zC,zD,zE,zF,zG,zH,zI,zJ,zK,HV.cells,e1]; try exact rfl) (by simp (disch:=first|decide|(simp only[zF,zG,e1];decide)) only [zA,zB,zC,zD,zE,zF,zG,zH,zI,zJ,zK,HV.cells,e1]; try exact rfl) ?_
         | refine r_not1 (by simp (disch:=first|decide|(simp only[zF,zG,e1];decide)) only [zA,zB,zC,zD,zE,zF,zG,zH,zI,zJ,zK,HV.cells,e1]; try exact rfl) ?_
         | refine r_len (by simp (disch:=first|decide|(simp only[zF,zG,e1];decide)) only [zA,zB,zC,zD,zE,zF,zG,zH,zI,zJ,zK,HV.cells,e1]; try exact rfl) ?_
         | refine r_ixs (by simp (disch:=first|decide|(simp only[zF,zG,e1];decide)) only [zA,zB,zC,zD,zE,zF,zG,zH,zI,zJ,zK,HV.cells,e1]; try exact rfl) (by simp (disch:=first|decide|(simp only[zF,zG,e1];decide)) only [zA,zB,zC,zD,zE,zF,zG,zH,zI,zJ,zK,HV.cells,e1]; try exact rfl) (by omega) ?_
         | refine w_draw (by omega) (by repeat' first|assumption|refine D.upd ?_ (by omega)|exact D.mono (by assumption) (by omega)) ?_
         | refine d_nil ?_
         | refine d_rest rfl ?_
         | refine d_bs rfl ?_
         | refine d_box rfl ?_
         | refine d_alloc rfl ?_
         | refine d_one rfl ?_
         | refine d_next (by omega) ?_
         | refine d_laid ?_
        refine fin_r (by simp only [zL, e2]) (by simp (disch:=first|decide|(simp only[zF,zG,e1, e3];decide)) only [zA,zB,zC,zD,zE,zF,zG,zH,zI,zJ,zK,HV.cells,e1, e3]; try exact rfl) (sc_flat rfl (by dsimp only; omega) ?_)
        rw [decide_eq_false (fun e => e4 (by simpa using e.2.2.1))]
    · repeat' first
       | refine r_nil ?_
       | refine th_n ?_
       | refine th_r ?_
       | refine th_e ?_
       | refine ib_n ?_
       | refine ib_r ?_
       | refine ib_e ?_
       | refine ib_x (by decide) ?_
       | refine w_exit ?_
       | refine w_seq ?_
       | refine w_reg ?_
       | refine w_ret ?_
       | refine w_skip ?_
       | refine w_block ?_
       | refine w_t (by simp (disch:=first|decide|(simp only[zF,zG,g1];decide)) only [zA,zB,zC,zD,zE,zF,zG,zH,zI,zJ,zK,HV.cells,g1]; first|done|exact rfl) ?_
       | refine w_f (by simp (disch:=first|decide|(simp only[zF,zG,g1];decide)) only [zA,zB,zC,zD,zE,zF,zG,zH,zI,zJ,zK,HV.cells,g1]; first|done|exact rfl) ?_
       | refine r_take (by simp (disch:=first|decide|(simp only[zF,zG,g1];decide)) only [zA,zB,zC,zD,zE,zF,zG,zH,zI,zJ,zK,HV.cells,g1]; first|done|exact rfl) ?_
       | refine r_drop (by simp (disch:=first|decide|(simp only[zF,zG,Bool.not_true,Bool.not_false,g1];decide)) only [zA,zB,zC,zD,zE,zF,zG,zH,zI,zJ,zK,HV.cells,Bool.not_true,Bool.not_false,g1]; first|done|exact rfl) ?_
       | refine r_move (by simp (disch:=first|decide|(simp only[zF,zG,g1];decide)) only [zA,zB,zC,zD,zE,zF,zG,zH,zI,zJ,zK,HV.cells,g1]; try exact rfl) ?_
       | refine r_fa (by simp (disch:=first|decide|(simp only[zF,zG,g1];decide)) only [zA,zB,zC,zD,zE,zF,zG,zH,zI,zJ,zK,HV.cells,g1]; try exact rfl) ?_
       | refine r_ld1 (by simp (disch:=first|decide|(simp only[zF,zG,g1];decide)) only [zA,zB,zC,zD,zE,zF,zG,zH,zI,zJ,zK,HV.cells,g1]; try exact rfl) (by first|assumption|(simp (disch:=omega) only [get_same,get_other,g1]; first|done|exact rfl)) (by first|assumption|rfl|(simp only [zI,zJ,HV.cells,g1]; exact rfl)) ?_
       | refine r_ldn (by simp (disch:=first|decide|(simp only[zF,zG,g1];decide)) only [zA,zB,zC,zD,zE,zF,zG,zH,zI,zJ,zK,HV.cells,g1]; try exact rfl) (by first|assumption|(simp (disch:=omega) only [get_same,get_other,g1]; first|done|exact rfl)) (by first|assumption|rfl|(simp only [zI,zJ,HV.cells,g1]; exact rfl)) ?_
       | refine r_box (by simp (disch:=first|decide|(simp only[zF,zG,g1];decide)) only [zA,zB,zC,zD,zE,zF,zG,zH,zI,zJ,zK,HV.cells,g1]; try exact rfl) ?_
       | refine r_add (by simp (disch:=first|decide|(simp only[zF,zG,g1];decide)) only [zA,zB,zC,zD,zE,zF,zG,zH,zI,zJ,zK,HV.cells,g1]; try exact rfl) (by simp (disch:=first|decide|(simp only[zF,zG,g1];decide)) only [zA,zB,zC,zD,zE,zF,zG,zH,zI,zJ,zK,HV.cells,g1]; try exact rfl) (by omega) (by omega) ?_
       | refine r_lss (by simp (disch:=first|decide|(simp only[zF,zG,g1];decide)) only [zA,zB,zC,zD,zE,zF,zG,zH,zI,zJ,zK,HV.cells,g1]; try exact rfl) (by simp (disch:=first|decide|(simp only[zF,zG,g1];decide)) only [zA,zB,zC,zD,zE,zF,zG,zH,zI,zJ,zK,HV.cells,g1]; try exact rfl) (fun hc => ?_) (fun hc => ?_) <;> (try (exfalso; omega))
       | refine r_eq (by simp (disch:=first|decide|(simp only[zF,zG,g1];decide)) only [zA,zB,zC,zD,zE,zF,zG,zH,zI,zJ,zK,HV.cells,g1]; try exact rfl) (by simp (disch:=first|decide|(simp only[zF,zG,g1];decide)) only [zA,zB,zC,zD,zE,zF,zG,zH,zI,zJ,zK,HV.cells,g1]; try exact rfl) (fun hc => ?_) (fun hc => ?_) <;> (try (exfalso; omega))
       | refine r_ne (by simp (disch:=first|decide|(simp only[zF,zG,g1];decide)) only [zA,zB,zC,zD,zE,zF,zG,zH,zI,zJ,zK,HV.cells,g1]; try exact rfl) (by simp (disch:=first|decide|(simp only[zF,zG,g1];decide)) only [zA,zB,zC,zD,zE,zF,zG,zH,zI,zJ,zK,HV.cells,g1]; try exact rfl) (fun hc => ?_) (fun hc => ?_) <;> (try (exfalso; omega))
       | refine r_eqb (by simp (disch:=first|decide|(simp only[zF,zG,g1];decide)) only [zA,zB,zC,zD,zE,zF,zG,zH,zI,zJ,zK,HV.cells,g1]; try exact rfl) (by simp (disch:=first|decide|(simp only[zF,zG,g1];decide)) only [zA,zB,zC,zD,zE,zF,zG,zH,zI,zJ,zK,HV.cells,g1]; try exact rfl) ?_
       | refine r_not1 (by simp (disch:=first|decide|(simp only[zF,zG,g1];decide)) only [zA,zB,zC,zD,zE,zF,zG,zH,zI,zJ,zK,HV.cells,g1]; try exact rfl) ?_
       | refine r_len (by simp (disch:=first|decide|(simp only[zF,zG,g1];decide)) only [zA,zB,zC,zD,zE,zF,zG,zH,zI,zJ,zK,HV.cells,g1]; try exact rfl) ?_
       | refine r_ixs (by simp (disch:=first|decide|(simp only[zF,zG,g1];decide)) only [zA,zB,zC,zD,zE,zF,zG,zH,zI,zJ,zK,HV.cells,g1]; try exact rfl) (by simp (disch:=first|decide|(simp only[zF,zG,g1];decide)) only [zA,zB,zC,zD,zE,zF,zG,zH,zI,zJ,zK,HV.cells,g1]; try exact rfl) (by omega) ?_
       | refine w_draw (by omega) (by repeat' first|assumption|refine D.upd ?_ (by omega)|exact D.mono (by assumption) (by omega)) ?_
       | refine d_nil ?_
       | refine d_rest rfl ?_
       | refine d_bs rfl ?_
       | refine d_box rfl ?_
       | refine d_alloc rfl ?_
       | refine d_one rfl ?_
       | refine d_next (by omega) ?_
       | refine d_laid ?_
      refine fin_r (by simp only [zL, g2]) (by simp (disch:=first|decide|(simp only[zF,zG,g1, g3];decide)) only [zA,zB,zC,zD,zE,zF,zG,zH,zI,zJ,zK,HV.cells,g1, g3]; try exact rfl) (sc_flat rfl (by dsimp only; omega) ?_)
      rw [decide_eq_false (fun e => g4 (by simpa using e.2.1))]
end Go.Hx

namespace Go.Hx
set_option linter.unusedSimpArgs false
set_option linter.unusedVariables false
set_option maxRecDepth 20000
set_option maxHeartbeats 4000000
attribute [local irreducible] W R C thenH inBlockH
theorem Rd.enc_len (r : Rd) : r.enc.length = 4 := rfl
theorem Rd.enc_flat (r : Rd) : r.enc.all flat1 = true := rfl
theorem Rd.enc_one (r : Rd) : r.enc.all HV.one = true := rfl
/- 23 -/
theorem loop23 {fl : Nat} {h0 : Tr HBlk} {n0 : Nat} {Q : HExit → HAct → HS → Prop} {p : Option (Nat × Nat)} {l : List Rd} {cp : Nat} (hlen : l.length < 1000000) (hfl : fl ≤ n0) (hrow : Row Rd.enc 4 h0 n0 p l) :
    ∀ (m i : Nat) (a : HAct) (h : Tr HBlk) (nx : Nat) (v : HV), m + i = l.length → Ext h0 n0 h nx → Out Rd.enc 4 n0 h nx v (l.take i) → a.nt = 32 → a.defers = [] → a.tmp 0 = .slice p l.length cp → a.tmp 3 = v → a.tmp 4 = i64 i →
      (∀ a' h' n' v', Ext h0 n0 h' n' → a'.nt = 32 → a'.defers = [] → a'.tmp 3 = v' → Out Rd.enc 4 n0 h' n' v' l → Q .normal a' ⟨h', n'⟩) → W LW fl none (.loop L23w0) (inBlockH 0 Q) a ⟨h, nx⟩
  | 0, i, a, h, nx, v, hm, he, ho, hnt, hds, h1, h3, h4, hq => by
    have hle := he.le
    refine w_it (show L23w0 = _ by unfold L23w0; exact rfl) ?_
    repeat' first
     | refine r_nil ?_
     | refine th_n ?_
     | refine th_r ?_
     | refine th_e ?_
     | refine ib_n ?_
     | refine ib_r ?_
     | refine ib_e ?_
     | refine ib_x (by decide) ?_
     | refine w_exit ?_
     | refine w_seq ?_
     | refine w_reg ?_
     | refine w_ret ?_
     | refine w_skip ?_
     | refine w_block ?_
     | refine w_t (by simp (disch:=first|decide|(simp only[zF,zG,hnt, h1, h3, h4];decide)) only [zA,zB,zC,zD,zE,zF,zG,zH,zI,zJ,zK,HV.cells,hnt, h1, h3, h4]; first|done|exact rfl) ?_
     | refine w_f (by simp (disch:=first|decide|(simp only[zF,zG,hnt, h1, h3, h4];decide)) only [zA,zB,zC,zD,zE,zF,zG,zH,zI,zJ,zK,HV.cells,hnt, h1, h3, h4]; first|done|exact rfl) ?_
     | refine r_move (by simp (disch:=first|decide|(simp only[zF,zG,hnt, h1, h3, h4];decide)) only [zA,zB,zC,zD,zE,zF,zG,zH,zI,zJ,zK,HV.cells,hnt, h1, h3, h4]; try exact rfl) ?_
     | refine r_fa (by simp (disch:=first|decide|(simp only[zF,zG,hnt, h1, h3, h4];decide)) only [zA,zB,zC,zD,zE,zF,zG,zH,zI,zJ,zK,HV.cells,hnt, h1, h3, h4]; try exact rfl) ?_
     | refine r_ld1 (by simp (disch:=first|decide|(simp only[zF,zG,hnt, h1, h3, h4];decide)) only [zA,zB,zC,zD,zE,zF,zG,zH,zI,zJ,zK,HV.cells,hnt, h1, h3, h4]; try exact rfl) (by first|assumption|(simp (disch:=omega) only [get_same,get_other,hnt, h1, h3, h4]; first|done|exact rfl)) (by first|assumption|rfl|(simp only [zI,zJ,HV.cells,hnt, h1, h3, h4]; exact rfl)) ?_
     | refine r_ldn (by simp (disch:=first|decide|(simp only[zF,zG,hnt, h1, h3, h4];decide)) only [zA,zB,zC,zD,zE,zF,zG,zH,zI,zJ,zK,HV.cells,hnt, h1, h3, h4]; try exact rfl) (by first|assumption|(simp (disch:=omega) only [get_same,get_other,hnt, h1, h3, h4]; first|done|exact rfl)) (by first|assumption|rfl|(simp only [zI,zJ,HV.cells,hnt, h1, h3, h4]; exact rfl)) ?_
     | refine r_add (by simp (disch:=first|decide|(simp only[zF,zG,hnt, h1, h3, h4];decide)) only [zA,zB,zC,zD,zE,zF,zG,zH,zI,zJ,zK,HV.cells,hnt, h1, h3, h4]; try exact rfl) (by simp (disch:=first|decide|(simp only[zF,zG,hnt, h1, h3, h4];decide)) only [zA,zB,zC,zD,zE,zF,zG,zH,zI,zJ,zK,HV.cells,hnt, h1, h3, h4]; try exact rfl) (by omega) (by omega) ?_
     | refine r_lss (by simp (disch:=first|decide|(simp only[zF,zG,hnt, h1, h3, h4];decide)) only [zA,zB,zC,zD,zE,zF,zG,zH,zI,zJ,zK,HV.cells,hnt, h1, h3, h4]; try exact rfl) (by simp (disch:=first|decide|(simp only[zF,zG,hnt, h1, h3, h4];decide)) only [zA,zB,zC,zD,zE,zF,zG,zH,zI,zJ,zK,HV.cells,hnt, h1, h3, h4]; try exact rfl) (fun hc => ?_) (fun hc => ?_) <;> (try (exfalso; omega))
     | refine r_len (by simp (disch:=first|decide|(simp only[zF,zG,hnt, h1, h3, h4];decide)) only [zA,zB,zC,zD,zE,zF,zG,zH,zI,zJ,zK,HV.cells,hnt, h1, h3, h4]; try exact rfl) ?_
     | refine r_ixs (by simp (disch:=first|decide|(simp only[zF,zG,hnt, h1, h3, h4];decide)) only [zA,zB,zC,zD,zE,zF,zG,zH,zI,zJ,zK,HV.cells,hnt, h1, h3, h4]; try exact rfl) (by simp (disch:=first|decide|(simp only[zF,zG,hnt, h1, h3, h4];decide)) only [zA,zB,zC,zD,zE,zF,zG,zH,zI,zJ,zK,HV.cells,hnt, h1, h3, h4]; try exact rfl) (by omega) ?_
     | refine r_build (by simp (disch:=first|decide|(simp only[zF,zG,hnt, h1, h3, h4];decide)) only [evParts,List.map_cons,List.map_nil,List.nil_append,List.cons_append,List.append_nil,zA,zB,zC,zD,zE,zF,zG,zH,zI,zJ,zK,HV.cells,hnt, h1, h3, h4]; try exact rfl) ?_
     | refine r_bs (by simp (disch:=first|decide|(simp only[zF,zG,hnt, h1, h3, h4];decide)) only [evParts,List.map_cons,List.map_nil,List.nil_append,List.cons_append,List.append_nil,zA,zB,zC,zD,zE,zF,zG,zH,zI,zJ,zK,HV.cells,hnt, h1, h3, h4]; try exact rfl) ?_
     | refine w_draw (by omega) (by repeat' first|assumption|refine D.upd ?_ (by omega)|exact D.mono (by assumption) (by omega)) ?_
     | refine d_nil ?_
     | refine d_rest rfl ?_
     | refine d_bs rfl ?_
     | refine d_box rfl ?_
     | refine d_alloc rfl ?_
     | refine d_one rfl ?_
     | refine d_next (by omega) ?_
     | refine d_laid ?_
    rw [List.take_of_length_le (by omega)] at ho
    refine hq _ _ _ v he ?_ ?_ ?_ ho
    all_goals first|(simp only [zL,zM,zF,zG,hnt, hds, h3];done)|(simp (disch:=first|decide|(simp only[zF,zG,hnt, hds, h3];decide)) only [zA,zB,zC,zD,zE,zF,zG,zH,zI,zJ,zK,HV.cells,hnt, hds, h3];first|done|exact rfl)|assumption
  | m + 1, i, a, h, nx, v, hm, he, ho, hnt, hds, h1, h3, h4, hq => by
    have hi : i < l.length := by omega
    have hrow0 := hrow.ext he
    obtain ⟨b, o, cs, kk, rfl, hb, hg, hcs⟩ := hrow0 (by intro e; rw [e] at hi; simp at hi)
    have hy : l[i]? = some l[i] := by simp [hi]
    have e0 := hcs i _ hy
    have ef := take_at e0 (j := 0) (v := i64 l[i].f) rfl
    have eg := take_at e0 (j := 1) (v := i64 l[i].g) rfl
    have er : takeN 2 (cs.drop (o + i * 4 + 2)) = some [i64 l[i].lo, i64 l[i].hi] := take_sub e0 (j := 2) (n := 2) (by omega) rfl
    have hd := he.d
    have hle := he.le
    have fi : fillH [i64 0, i64 0, i64 0, i64 0] [(0, 1, i64 l[i].f), (1, 1, i64 l[i].g), (2, 2, .agg [i64 l[i].lo, i64 l[i].hi])] = some l[i].enc := rfl
    have fi2 : fillH (repl 1 [i64 0, i64 0, i64 0, i64 0]) [(0, 4, .agg l[i].enc)] = some l[i].enc := rfl
    refine w_it (show L23w0 = _ by unfold L23w0; exact rfl) ?_
    repeat' first
     | refine r_nil ?_
     | refine th_n ?_
     | refine th_r ?_
     | refine th_e ?_
     | refine ib_n ?_
     | refine ib_r ?_
     | refine ib_e ?_
     | refine ib_x (by decide) ?_
     | refine w_exit ?_
     | refine w_seq ?_
     | refine w_reg ?_
     | refine w_ret ?_
     | refine w_skip ?_
     | refine w_block ?_
     | refine w_t (by simp (disch:=first|decide|(simp only[zF,zG,hnt, h1, h3, h4, fi, fi2];decide)) only [zA,zB,zC,zD,zE,zF,zG,zH,zI,zJ,zK,HV.cells,hnt, h1, h3, h4, fi, fi2]; first|done|exact rfl) ?_
     | refine w_f (by simp (disch:=first|decide|(simp only[zF,zG,hnt, h1, h3, h4, fi, fi2];decide)) only [zA,zB,zC,zD,zE,zF,zG,zH,zI,zJ,zK,HV.cells,hnt, h1, h3, h4, fi, fi2]; first|done|exact rfl) ?_
     | refine r_move (by simp (disch:=first|decide|(simp only[zF,zG,hnt, h1, h3, h4, fi, fi2];decide)) only [zA,zB,zC,zD,zE,zF,zG,zH,zI,zJ,zK,HV.cells,hnt, h1, h3, h4, fi, fi2]; try exact rfl) ?_
     | refine r_fa (by simp (disch:=first|decide|(simp only[zF,zG,hnt, h1, h3, h4, fi, fi2];decide)) only [zA,zB,zC,zD,zE,zF,zG,zH,zI,zJ,zK,HV.cells,hnt, h1, h3, h4, fi, fi2]; try exact rfl) ?_
     | refine r_ld1 (by simp (disch:=first|decide|(simp only[zF,zG,hnt, h1, h3, h4, fi, fi2];decide)) only [zA,zB,zC,zD,zE,zF,zG,zH,zI,zJ,zK,HV.cells,hnt, h1, h3, h4, fi, fi2]; try exact rfl) (by first|assumption|(simp (disch:=omega) only [get_same,get_other,hnt, h1, h3, h4, fi, fi2]; first|done|exact rfl)) (by first|assumption|rfl|(simp only [zI,zJ,HV.cells,hnt, h1, h3, h4, fi, fi2]; exact rfl)) ?_
     | refine r_ldn (by simp (disch:=first|decide|(simp only[zF,zG,hnt, h1, h3, h4, fi, fi2];decide)) only [zA,zB,zC,zD,zE,zF,zG,zH,zI,zJ,zK,HV.cells,hnt, h1, h3, h4, fi, fi2]; try exact rfl) (by first|assumption|(simp (disch:=omega) only [get_same,get_other,hnt, h1, h3, h4, fi, fi2]; first|done|exact rfl)) (by first|assumption|rfl|(simp only [zI,zJ,HV.cells,hnt, h1, h3, h4, fi, fi2]; exact rfl)) ?_
     | refine r_add (by simp (disch:=first|decide|(simp only[zF,zG,hnt, h1, h3, h4, fi, fi2];decide)) only [zA,zB,zC,zD,zE,zF,zG,zH,zI,zJ,zK,HV.cells,hnt, h1, h3, h4, fi, fi2]; try exact rfl) (by simp (disch:=first|decide|(simp only[zF,zG,hnt, h1, h3, h4, fi, fi2];decide)) only [zA,zB,zC,zD,zE,zF,zG,zH,zI,zJ,zK,HV.cells,hnt, h1, h3, h4, fi, fi2]; try exact rfl) (by omega) (by omega) ?_
     | refine r_lss (by simp (disch:=first|decide|(simp only[zF,zG,hnt, h1, h3, h4, fi, fi2];decide)) only [zA,zB,zC,zD,zE,zF,zG,zH,zI,zJ,zK,HV.cells,hnt, h1, h3, h4, fi, fi2]; try exact rfl) (by simp (disch:=first|decide|(simp only[zF,zG,hnt, h1, h3, h4, fi, fi2];decide)) only [zA,zB,zC,zD,zE,zF,zG,zH,zI,zJ,zK,HV.cells,hnt, h1, h3, h4, fi, fi2]; try exact rfl) (fun hc => ?_) (fun hc => ?_) <;> (try (exfalso; omega))
     | refine r_len (by simp (disch:=first|decide|(simp only[zF,zG,hnt, h1, h3, h4, fi, fi2];decide)) only [zA,zB,zC,zD,zE,zF,zG,zH,zI,zJ,zK,HV.cells,hnt, h1, h3, h4, fi, fi2]; try exact rfl) ?_
     | refine r_ixs (by simp (disch:=first|decide|(simp only[zF,zG,hnt, h1, h3, h4, fi, fi2];decide)) only [zA,zB,zC,zD,zE,zF,zG,zH,zI,zJ,zK,HV.cells,hnt, h1, h3, h4, fi, fi2]; try exact rfl) (by simp (disch:=first|decide|(simp only[zF,zG,hnt, h1, h3, h4, fi, fi2];decide)) only [zA,zB,zC,zD,zE,zF,zG,zH,zI,zJ,zK,HV.cells,hnt, h1, h3, h4, fi, fi2]; try exact rfl) (by omega) ?_
     | refine r_build (by simp (disch:=first|decide|(simp only[zF,zG,hnt, h1, h3, h4, fi, fi2];decide)) only [evParts,List.map_cons,List.map_nil,List.nil_append,List.cons_append,List.append_nil,zA,zB,zC,zD,zE,zF,zG,zH,zI,zJ,zK,HV.cells,hnt, h1, h3, h4, fi, fi2]; try exact rfl) ?_
     | refine r_bs (by simp (disch:=first|decide|(simp only[zF,zG,hnt, h1, h3, h4, fi, fi2];decide)) only [evParts,List.map_cons,List.map_nil,List.nil_append,List.cons_append,List.append_nil,zA,zB,zC,zD,zE,zF,zG,zH,zI,zJ,zK,HV.cells,hnt, h1, h3, h4, fi, fi2]; try exact rfl) ?_
     | refine r_calls (by simp (disch:=first|decide|(simp only[zF,zG,hnt, h1, h3, h4, fi, fi2];decide)) only [zA,zB,zC,zD,zE,zF,zG,zH,zI,zJ,zK,HV.cells,hnt, h1, h3, h4, fi, fi2]; try exact rfl) (by simp (disch:=first|decide|(simp only[zF,zG,hnt, h1, h3, h4, fi, fi2];decide)) only [List.map_cons,List.map_nil,List.nil_append,List.cons_append,List.append_nil,zA,zB,zC,zD,zE,zF,zG,zH,zI,zJ,zK,HV.cells,hnt, h1, h3, h4, fi, fi2]; try exact rfl) c_to (fun n' hn' => ?_)
     | refine w_draw (by omega) (by repeat' first|assumption|refine D.upd ?_ (by omega)|exact D.mono (by assumption) (by omega)) ?_
     | refine d_nil ?_
     | refine d_rest rfl ?_
     | refine d_bs rfl ?_
     | refine d_box rfl ?_
     | refine d_alloc rfl ?_
     | refine d_one rfl ?_
     | refine d_next (by omega) ?_
     | refine d_laid ?_
    have hln : (l.take i).length = i := by simp; omega
    obtain ⟨v', h', ha, ho', hs', hd'⟩ := Out.app (x := l[i]) (bytes := 32) (fl := fl) Rd.enc_len (Rd.enc_one _) (by omega) hfl (hd.mono hn') (ho.keep hn' (fun _ _ => rfl)) (by omega) (by omega) (by omega)
    rw [show l.take i ++ [l[i]] = l.take (i + 1) by rw [List.take_add_one, hy]; rfl] at ho'
    refine r_app (by simp (disch:=first|decide|(simp only[zF,zG,hnt, h3];decide)) only [zA,zB,zC,zD,zE,zF,zG,zH,zI,zJ,zK,HV.cells,hnt, h3]; try exact rfl) (by simp (disch:=first|decide|(simp only[zF,zG,hnt];decide)) only [zA,zB,zC,zD,zE,zF,zG,zH,zI,zJ,zK,HV.cells,hnt]; try exact rfl) ha ?_
    repeat' first
     | refine r_nil ?_
     | refine th_n ?_
     | refine th_r ?_
     | refine th_e ?_
     | refine ib_n ?_
     | refine ib_r ?_
     | refine ib_e ?_
     | refine ib_x (by decide) ?_
     | refine w_exit ?_
     | refine w_seq ?_
     | refine w_reg ?_
     | refine w_ret ?_
     | refine w_skip ?_
     | refine w_block ?_
     | refine w_t (by simp (disch:=first|decide|(simp only[zF,zG,hnt, h1, h4];decide)) only [zA,zB,zC,zD,zE,zF,zG,zH,zI,zJ,zK,HV.cells,hnt, h1, h4]; first|done|exact rfl) ?_
     | refine w_f (by simp (disch:=first|decide|(simp only[zF,zG,hnt, h1, h4];decide)) only [zA,zB,zC,zD,zE,zF,zG,zH,zI,zJ,zK,HV.cells,hnt, h1, h4]; first|done|exact rfl) ?_
     | refine r_move (by simp (disch:=first|decide|(simp only[zF,zG,hnt, h1, h4];decide)) only [zA,zB,zC,zD,zE,zF,zG,zH,zI,zJ,zK,HV.cells,hnt, h1, h4]; try exact rfl) ?_
     | refine r_fa (by simp (disch:=first|decide|(simp only[zF,zG,hnt, h1, h4];decide)) only [zA,zB,zC,zD,zE,zF,zG,zH,zI,zJ,zK,HV.cells,hnt, h1, h4]; try exact rfl) ?_
     | refine r_ld1 (by simp (disch:=first|decide|(simp only[zF,zG,hnt, h1, h4];decide)) only [zA,zB,zC,zD,zE,zF,zG,zH,zI,zJ,zK,HV.cells,hnt, h1, h4]; try exact rfl) (by first|assumption|(simp (disch:=omega) only [get_same,get_other,hnt, h1, h4]; first|done|exact rfl)) (by first|assumption|rfl|(simp only [zI,zJ,HV.cells,hnt, h1, h4]; exact rfl)) ?_
     | refine r_ldn (by simp (disch:=first|decide|(simp only[zF,zG,hnt, h1, h4];decide)) only [zA,zB,zC,zD,zE,zF,zG,zH,zI,zJ,zK,HV.cells,hnt, h1, h4]; try exact rfl) (by first|assumption|(simp (disch:=omega) only [get_same,get_other,hnt, h1, h4]; first|done|exact rfl)) (by first|assumption|rfl|(simp only [zI,zJ,HV.cells,hnt, h1, h4]; exact rfl)) ?_
     | refine r_add (by simp (disch:=first|decide|(simp only[zF,zG,hnt, h1, h4];decide)) only [zA,zB,zC,zD,zE,zF,zG,zH,zI,zJ,zK,HV.cells,hnt, h1, h4]; try exact rfl) (by simp (disch:=first|decide|(simp only[zF,zG,hnt, h1, h4];decide)) only [zA,zB,zC,zD,zE,zF,zG,zH,zI,zJ,zK,HV.cells,hnt, h1, h4]; try exact rfl) (by omega) (by omega) ?_
     | refine r_lss (by simp (disch:=first|decide|(simp only[zF,zG,hnt, h1, h4];decide)) only [zA,zB,zC,zD,zE,zF,zG,zH,zI,zJ,zK,HV.cells,hnt, h1, h4]; try exact rfl) (by simp (disch:=first|decide|(simp only[zF,zG,hnt, h1, h4];decide)) only [zA,zB,zC,zD,zE,zF,zG,zH,zI,zJ,zK,HV.cells,hnt, h1, h4]; try exact rfl) (fun hc => ?_) (fun hc => ?_) <;> (try (exfalso; omega))
     | refine r_len (by simp (disch:=first|decide|(simp only[zF,zG,hnt, h1, h4];decide)) only [zA,zB,zC,zD,zE,zF,zG,zH,zI,zJ,zK,HV.cells,hnt, h1, h4]; try exact rfl) ?_
     | refine r_ixs (by simp (disch:=first|decide|(simp only[zF,zG,hnt, h1, h4];decide)) only [zA,zB,zC,zD,zE,zF,zG,zH,zI,zJ,zK,HV.cells,hnt, h1, h4]; try exact rfl) (by simp (disch:=first|decide|(simp only[zF,zG,hnt, h1, h4];decide)) only [zA,zB,zC,zD,zE,zF,zG,zH,zI,zJ,zK,HV.cells,hnt, h1, h4]; try exact rfl) (by omega) ?_
     | refine r_build (by simp (disch:=first|decide|(simp only[zF,zG,hnt, h1, h4];decide)) only [evParts,List.map_cons,List.map_nil,List.nil_append,List.cons_append,List.append_nil,zA,zB,zC,zD,zE,zF,zG,zH,zI,zJ,zK,HV.cells,hnt, h1, h4]; try exact rfl) ?_
     | refine r_bs (by simp (disch:=first|decide|(simp only[zF,zG,hnt, h1, h4];decide)) only [evParts,List.map_cons,List.map_nil,List.nil_append,List.cons_append,List.append_nil,zA,zB,zC,zD,zE,zF,zG,zH,zI,zJ,zK,HV.cells,hnt, h1, h4]; try exact rfl) ?_
     | refine w_draw (by omega) (by repeat' first|assumption|refine D.upd ?_ (by omega)|exact D.mono (by assumption) (by omega)) ?_
     | refine d_nil ?_
     | refine d_rest rfl ?_
     | refine d_bs rfl ?_
     | refine d_box rfl ?_
     | refine d_alloc rfl ?_
     | refine d_one rfl ?_
     | refine d_next (by omega) ?_
     | refine d_laid ?_
    have e2 : Ext h0 n0 h' (n' + 2) := ⟨by omega, hd', fun b hb => (hs' b hb).trans (he.same b hb)⟩
    refine loop23 (cp := cp) hlen hfl hrow m (i + 1) _ _ _ v' (by omega) e2 ho' ?_ ?_ ?_ ?_ ?_ hq
    all_goals first|(simp only [zL,zM,zF,zG,hnt, hds, h1, h4];done)|(simp (disch:=first|decide|(simp only[zF,zG,hnt, hds, h1, h4];decide)) only [zA,zB,zC,zD,zE,zF,zG,zH,zI,zJ,zK,HV.cells,hnt, hds, h1, h4];first|done|exact rfl)|assumption
theorem c_Readings {fl : Nat} {h : Tr HBlk} {nx : Nat} (hd : D h nx) {p : Option (Nat × Nat)} {l : List Rd} {n cp : Nat} (hn : n = l.length) (hlen : l.length < 1000000) (hrow : Row Rd.enc 4 h nx p l) :
    C LW fl 23 [.slice p n cp] ⟨h, nx⟩ (ScL Rd.enc 4 l ⟨h, nx⟩) := by
  subst hn
  refine c_in lw23 rfl rfl rfl ?_
  dsimp only [L23]
  repeat' first
   | refine r_nil ?_
   | refine th_n ?_
   | refine th_r ?_
   | refine th_e ?_
   | refine ib_n ?_
   | refine ib_r ?_
   | refine ib_e ?_
   | refine ib_x (by decide) ?_
   | refine w_exit ?_
   | refine w_seq ?_
   | refine w_reg ?_
   | refine w_ret ?_
   | refine w_skip ?_
   | refine w_block ?_
   | refine w_t (by simp (disch:=first|decide|(simp only[zF,zG];decide)) only [zA,zB,zC,zD,zE,zF,zG,zH,zI,zJ,zK,HV.cells]; first|done|exact rfl) ?_
   | refine w_f (by simp (disch:=first|decide|(simp only[zF,zG];decide)) only [zA,zB,zC,zD,zE,zF,zG,zH,zI,zJ,zK,HV.cells]; first|done|exact rfl) ?_
   | refine r_move (by simp (disch:=first|decide|(simp only[zF,zG];decide)) only [zA,zB,zC,zD,zE,zF,zG,zH,zI,zJ,zK,HV.cells]; try exact rfl) ?_
   | refine r_fa (by simp (disch:=first|decide|(simp only[zF,zG];decide)) only [zA,zB,zC,zD,zE,zF,zG,zH,zI,zJ,zK,HV.cells]; try exact rfl) ?_
   | refine r_ld1 (by simp (disch:=first|decide|(simp only[zF,zG];decide)) only [zA,zB,zC,zD,zE,zF,zG,zH,zI,zJ,zK,HV.cells]; try exact rfl) (by first|assumption|(simp (disch:=omega) only [get_same,get_other]; first|done|exact rfl)) (by first|assumption|rfl|(simp only [zI,zJ,HV.cells]; exact rfl)) ?_
   | refine r_ldn (by simp (disch:=first|decide|(simp only[zF,zG];decide)) only [zA,zB,zC,zD,zE,zF,zG,zH,zI,zJ,zK,HV.cells]; try exact rfl) (by first|assumption|(simp (disch:=omega) only [get_same,get_other]; first|done|exact rfl)) (by first|assumption|rfl|(simp only [zI,zJ,HV.cells]; exact rfl)) ?_
   | refine r_add (by simp (disch:=first|decide|(simp only[zF,zG];decide)) only [zA,zB,zC,zD,zE,zF,zG,zH,zI,zJ,zK,HV.cells]; try exact rfl) (by simp (disch:=first|decide|(simp only[zF,zG];decide)) only [zA,zB,zC,zD,zE,zF,zG,zH,zI,zJ,zK,HV.cells]; try exact rfl) (by omega) (by omega) ?_
   | refine r_lss (by simp (disch:=first|decide|(simp only[zF,zG];decide)) only [zA,zB,zC,zD,zE,zF,zG,zH,zI,zJ,zK,HV.cells]; try exact rfl) (by simp (disch:=first|decide|(simp only[zF,zG];decide)) only [zA,zB,zC,zD,zE,zF,zG,zH,zI,zJ,zK,HV.cells]; try exact rfl) (fun hc => ?_) (fun hc => ?_) <;> (try (exfalso; omega))
   | refine r_len (by simp (disch:=first|decide|(simp only[zF,zG];decide)) only [zA,zB,zC,zD,zE,zF,zG,zH,zI,zJ,zK,HV.cells]; try exact rfl) ?_
   | refine r_ixs (by simp (disch:=first|decide|(simp only[zF,zG];decide)) only [zA,zB,zC,zD,zE,zF,zG,zH,zI,zJ,zK,HV.cells]; try exact rfl) (by simp (disch:=first|decide|(simp only[zF,zG];decide)) only [zA,zB,zC,zD,zE,zF,zG,zH,zI,zJ,zK,HV.cells]; try exact rfl) (by omega) ?_
   | refine r_build (by simp (disch:=first|decide|(simp only[zF,zG];decide)) only [evParts,List.map_cons,List.map_nil,List.nil_append,List.cons_append,List.append_nil,zA,zB,zC,zD,zE,zF,zG,zH,zI,zJ,zK,HV.cells]; try exact rfl) ?_
   | refine r_bs (by simp (disch:=first|decide|(simp only[zF,zG];decide)) only [evParts,List.map_cons,List.map_nil,List.nil_append,List.cons_append,List.append_nil,zA,zB,zC,zD,zE,zF,zG,zH,zI,zJ,zK,HV.cells]; try exact rfl) ?_
   | refine w_draw (by omega) (by repeat' first|assumption|refine D.upd ?_ (by omega)|exact D.mono (by assumption) (by omega)) ?_
   | refine d_nil ?_
   | refine d_rest rfl ?_
   | refine d_bs rfl ?_
   | refine d_box rfl ?_
   | refine d_alloc rfl ?_
   | refine d_one rfl ?_
   | refine d_next (by omega) ?_
   | refine d_laid ?_
  refine loop23 (cp := cp) hlen (Nat.le_refl _) hrow l.length 0 _ _ _ (.slice none 0 0) (by omega) (Ext.refl hd) Out.nil ?_ ?_ ?_ ?_ ?_ (fun a' h' n' v' g1 g2 g3 g4 g5 => ?_)
  all_goals try first|(simp only [zL,zM,zF,zG];done)|(simp (disch:=first|decide|(simp only[zF,zG];decide)) only [zA,zB,zC,zD,zE,zF,zG,zH,zI,zJ,zK,HV.cells];first|done|exact rfl)|assumption
  repeat' first
   | refine r_nil ?_
   | refine th_n ?_
   | refine th_r ?_
   | refine th_e ?_
   | refine ib_n ?_
   | refine ib_r ?_
   | refine ib_e ?_
   | refine ib_x (by decide) ?_
   | refine w_exit ?_
   | refine w_seq ?_
   | refine w_reg ?_
   | refine w_ret ?_
   | refine w_skip ?_
   | refine w_block ?_
   | refine w_t (by simp (disch:=first|decide|(simp only[zF,zG,g2, g4];decide)) only [zA,zB,zC,zD,zE,zF,zG,zH,zI,zJ,zK,HV.cells,g2, g4]; first|done|exact rfl) ?_
   | refine w_f (by simp (disch:=first|decide|(simp only[zF,zG,g2, g4];decide)) only [zA,zB,zC,zD,zE,zF,zG,zH,zI,zJ,zK,HV.cells,g2, g4]; first|done|exact rfl) ?_
   | refine r_move (by simp (disch:=first|decide|(simp only[zF,zG,g2, g4];decide)) only [zA,zB,zC,zD,zE,zF,zG,zH,zI,zJ,zK,HV.cells,g2, g4]; try exact rfl) ?_
   | refine r_fa (by simp (disch:=first|decide|(simp only[zF,zG,g2, g4];decide)) only [zA,zB,zC,zD,zE,zF,zG,zH,zI,zJ,zK,HV.cells,g2, g4]; try exact rfl) ?_
   | refine r_ld1 (by simp (disch:=first|decide|(simp only[zF,zG,g2, g4];decide)) only [zA,zB,zC,zD,zE,zF,zG,zH,zI,zJ,zK,HV.cells,g2, g4]; try exact rfl) (by first|assumption|(simp (disch:=omega) only [get_same,get_other,g2, g4]; first|done|exact rfl)) (by first|assumption|rfl|(simp only [zI,zJ,HV.cells,g2, g4]; exact rfl)) ?_
   | refine r_ldn (by simp (disch:=first|decide|(simp only[zF,zG,g2, g4];decide)) only [zA,zB,zC,zD,zE,zF,zG,zH,zI,zJ,zK,HV.cells,g2, g4]; try exact rfl) (by first|assumption|(simp (disch:=omega) only [get_same,get_other,g2, g4]; first|done|exact rfl)) (by first|assumption|rfl|(simp only [zI,zJ,HV.cells,g2, g4]; exact rfl)) ?_
   | refine r_add (by simp (disch:=first|decide|(simp only[zF,zG,g2, g4];decide)) only [zA,zB,zC,zD,zE,zF,zG,zH,zI,zJ,zK,HV.cells,g2, g4]; try exact rfl) (by simp (disch:=first|decide|(simp only[zF,zG,g2, g4];decide)) only [zA,zB,zC,zD,zE,zF,zG,zH,zI,zJ,zK,HV.cells,g2, g4]; try exact rfl) (by omega) (by omega) ?_
   | refine r_lss (by simp (disch:=first|decide|(simp only[zF,zG,g2, g4];decide)) only [zA,zB,zC,zD,zE,zF,zG,zH,zI,zJ,zK,HV.cells,g2, g4]; try exact rfl) (by simp (disch:=first|decide|(simp only[zF,zG,g2, g4];decide)) only [zA,zB,zC,zD,zE,zF,zG,zH,zI,zJ,zK,HV.cells,g2, g4]; try exact rfl) (fun hc => ?_) (fun hc => ?_) <;> (try (exfalso; omega))
   | refine r_len (by simp (disch:=first|decide|(simp only[zF,zG,g2, g4];decide)) only [zA,zB,zC,zD,zE,zF,zG,zH,zI,zJ,zK,HV.cells,g2, g4]; try exact rfl) ?_
   | refine r_ixs (by simp (disch:=first|decide|(simp only[zF,zG,g2, g4];decide)) only [zA,zB,zC,zD,zE,zF,zG,zH,zI,zJ,zK,HV.cells,g2, g4]; try exact rfl) (by simp (disch:=first|decide|(simp only[zF,zG,g2, g4];decide)) only [zA,zB,zC,zD,zE,zF,zG,zH,zI,zJ,zK,HV.cells,g2, g4]; try exact rfl) (by omega) ?_
   | refine r_build (by simp (disch:=first|decide|(simp only[zF,zG,g2, g4];decide)) only [evParts,List.map_cons,List.map_nil,List.nil_append,List.cons_append,List.append_nil,zA,zB,zC,zD,zE,zF,zG,zH,zI,zJ,zK,HV.cells,g2, g4]; try exact rfl) ?_
   | refine r_bs (by simp (disch:=first|decide|(simp only[zF,zG,g2, g4];decide)) only [evParts,List.map_cons,List.map_nil,List.nil_append,List.cons_append,List.append_nil,zA,zB,zC,zD,zE,zF,zG,zH,zI,zJ,zK,HV.cells,g2, g4]; try exact rfl) ?_
   | refine w_draw (by omega) (by repeat' first|assumption|refine D.upd ?_ (by omega)|exact D.mono (by assumption) (by omega)) ?_
   | refine d_nil ?_
   | refine d_rest rfl ?_
   | refine d_bs rfl ?_
   | refine d_box rfl ?_
   | refine d_alloc rfl ?_
   | refine d_one rfl ?_
   | refine d_next (by omega) ?_
   | refine d_laid ?_
  refine fin_r (by simp only [zL, g3]) (by simp (disch:=first|decide|(simp only[zF,zG,g2, g4];decide)) only [zA,zB,zC,zD,zE,zF,zG,zH,zI,zJ,zK,HV.cells,g2, g4]; try exact rfl) (scl_out Rd.enc_len Rd.enc_flat hd g1.le g5)
theorem ienc_len (n : Int) : (ienc n).length = 1 := rfl
theorem ienc_flat (n : Int) : (ienc n).all flat1 = true := rfl
theorem ienc_one (n : Int) : (ienc n).all HV.one = true := rfl
/-- Rows of numbers as cells. -/
theorem row_take {α : Type} {enc : α → List HV} {sz : Nat} (he : ∀ x, (enc x).length = sz) {cs : List HV} : ∀ (l : List α) (o : Nat), (∀ i x, l[i]? = some x → takeN sz (cs.drop (o + i * sz)) = some (enc x)) → takeN (l.length * sz) (cs.drop o) = some (l.flatMap enc)
  | [], o, _ => by simp [takeN]
  | x :: l, o, hx => by
    have h0 := hx 0 x rfl
    rw [Nat.zero_mul, Nat.add_zero] at h0
    have h1 := row_take he l (o + sz) (fun i y hy => by have := hx (i + 1) y (by simpa using hy); rwa [show o + (i + 1) * sz = o + sz + i * sz by rw [Nat.add_mul]; omega] at this)
    rw [List.length_cons, show (l.length + 1) * sz = sz + l.length * sz by rw [Nat.add_mul]; omega, List.flatMap_cons]
    exact take_split sz _ _ _ _ h0 (by rwa [List.drop_drop])
/- 24 -/
theorem c_list {fl : Nat} {h : Tr HBlk} {nx : Nat} (hd : D h nx) {p : Option (Nat × Nat)} {l : List Int} {n cp : Nat} (hn : n = l.length) (hlen : l.length < 1000000) (hrow : Row ienc 1 h nx p l) :
    C LW fl 24 [.slice p n cp] ⟨h, nx⟩ (ScL ienc 1 l ⟨h, nx⟩) := by
  subst hn
  refine c_in lw24 rfl rfl rfl ?_
  dsimp only [L24]
  have fi : fillH (repl 0 [i64 0]) [] = some [] := rfl
  repeat' first
   | refine r_nil ?_
   | refine th_n ?_
   | refine th_r ?_
   | refine w_seq ?_
   | refine w_reg ?_
   | refine w_ret ?_
   | refine w_skip ?_
   | refine r_move (by simp (disch:=first|decide|(simp only[zF,zG,fi];decide)) only [zA,zB,zC,zD,zE,zF,zG,zH,zI,zJ,zK,HV.cells,fi]; try exact rfl) ?_
   | refine r_bs (by simp (disch:=first|decide|(simp only[zF,zG,fi];decide)) only [evParts,List.map_cons,List.map_nil,List.nil_append,List.cons_append,List.append_nil,zA,zB,zC,zD,zE,zF,zG,zH,zI,zJ,zK,HV.cells,fi]; try exact rfl) ?_
  cases hl : l with
  | nil =>
    subst hl
    refine r_app (by simp (disch:=first|decide|(simp only[zF,zG];decide)) only [zA,zB,zC,zD,zE,zF,zG,zH,zI,zJ,zK,HV.cells]; try exact rfl) (by simp (disch:=first|decide|(simp only[zF,zG];decide)) only [zA,zB,zC,zD,zE,zF,zG,zH,zI,zJ,zK,HV.cells]; try exact rfl) (app_none (Nat.le_refl 0)) ?_
    repeat' first
     | refine r_nil ?_
     | refine th_n ?_
     | refine th_r ?_
     | refine w_seq ?_
     | refine w_reg ?_
     | refine w_ret ?_
     | refine w_skip ?_
     | refine r_move (by simp (disch:=first|decide|(simp only[zF,zG];decide)) only [zA,zB,zC,zD,zE,zF,zG,zH,zI,zJ,zK,HV.cells]; try exact rfl) ?_
     | refine r_bs (by simp (disch:=first|decide|(simp only[zF,zG];decide)) only [evParts,List.map_cons,List.map_nil,List.nil_append,List.cons_append,List.append_nil,zA,zB,zC,zD,zE,zF,zG,zH,zI,zJ,zK,HV.cells]; try exact rfl) ?_
    exact fin_r (by simp only [zL,zM]) (by simp (disch:=first|decide|(simp only[zF,zG];decide)) only [zA,zB,zC,zD,zE,zF,zG,zH,zI,zJ,zK,HV.cells]; try exact rfl) (scl_blk (l := ([] : List Int)) (rest := []) (k := .exact) ienc_len ienc_flat rfl hd (Nat.le_refl _) (by omega) (by first|assumption|(simp (disch:=omega) only [get_same,get_other]; first|done|exact rfl)))
  | cons x0 l0 =>
    rw [← hl]
    have hne : l ≠ [] := by rw [hl]; simp
    have hpos : 0 < l.length := List.length_pos_iff.2 hne
    obtain ⟨b, o, cs, kk, rfl, hb, hg, hcs⟩ := hrow hne
    have ht := row_take (o := o) ienc_len l (by simpa using hcs)
    have ha := app_exact (fl := nx) (size := 1) (bytes := 8) (h := h.set nx (some (.cells [] .exact))) (nx := nx + 1) (cx := cp) (b := nx) (o := 0) (k := 0) (z := 0) (old := []) (by rw [get_other (j := b) (k := nx) _ _ (by omega)]; exact hg) ht (get_same _ _ _) rfl (by omega) (by omega) (by omega) (by omega)
    rw [Nat.zero_add] at ha
    refine r_app (by simp (disch:=first|decide|(simp only[zF,zG];decide)) only [zA,zB,zC,zD,zE,zF,zG,zH,zI,zJ,zK,HV.cells]; try exact rfl) (by simp (disch:=first|decide|(simp only[zF,zG];decide)) only [zA,zB,zC,zD,zE,zF,zG,zH,zI,zJ,zK,HV.cells]; try exact rfl) ha ?_
    repeat' first
     | refine r_nil ?_
     | refine th_n ?_
     | refine th_r ?_
     | refine w_seq ?_
     | refine w_reg ?_
     | refine w_ret ?_
     | refine w_skip ?_
     | refine r_move (by simp (disch:=first|decide|(simp only[zF,zG];decide)) only [zA,zB,zC,zD,zE,zF,zG,zH,zI,zJ,zK,HV.cells]; try exact rfl) ?_
     | refine r_bs (by simp (disch:=first|decide|(simp only[zF,zG];decide)) only [evParts,List.map_cons,List.map_nil,List.nil_append,List.cons_append,List.append_nil,zA,zB,zC,zD,zE,zF,zG,zH,zI,zJ,zK,HV.cells]; try exact rfl) ?_
    exact fin_r (by simp only [zL,zM]) (by simp (disch:=first|decide|(simp only[zF,zG];decide)) only [zA,zB,zC,zD,zE,zF,zG,zH,zI,zJ,zK,HV.cells]; try exact rfl) (scl_blk (l := l) (rest := []) (k := .opn 1) ienc_len ienc_flat rfl hd (by omega) (by omega) (by rw [get_same]; simp))
end Go.Hx

namespace Go.Hx
set_option linter.unusedSimpArgs false
set_option linter.unusedVariables false
set_option maxRecDepth 20000
set_option maxHeartbeats 4000000
attribute [local irreducible] W R C thenH inBlockH
/- 70 -/
theorem loop70 {fl : Nat} {h0 : Tr HBlk} {n0 : Nat} {Q : HExit → HAct → HS → Prop} {p : Option (Nat × Nat)} {l : List Rd} {cp tb : Nat} {t : Tb} (hlen : l.length < 1000000000) (hfl : fl ≤ n0) (htb : tb < n0) (htg : h0.get tb = some (.cells t.cells .exact)) (hrow : Row Rd.enc 4 h0 n0 p l) (ht : TubeOk t.c t.t t.a t.b) :
    ∀ (m i : Nat) (a : HAct) (h : Tr HBlk) (nx : Nat), m + i = l.length → Ext h0 n0 h nx → a.nt = 46 → a.defers = [] → a.tmp 1 = .slice p l.length cp → a.tmp 2 = .ptr (some (tb, 0)) → a.tmp 5 = i64 i →
      (∀ a' h' n', Ext h0 n0 h' n' → a'.nt = 46 → a'.defers = [] → (∀ r ∈ l.drop i, RdOk2 t.c r) → Q .normal a' ⟨h', n'⟩) →
      (∀ a' h' n', Ext h0 n0 h' n' → a'.nt = 46 → a'.defers = [] → a'.tmp 4 = i64 2 → ¬ (∀ r ∈ l.drop i, RdOk2 t.c r) → Q .ret a' ⟨h', n'⟩) → W LW fl none (.loop L70w0) (inBlockH 0 Q) a ⟨h, nx⟩
  | 0, i, a, h, nx, hm, he, hnt, hds, h1, h2, h5, hq, hr => by
    have hle := he.le
    refine w_it (show L70w0 = _ by unfold L70w0; exact rfl) ?_
    repeat' first
     | refine r_nil ?_
     | refine th_n ?_
     | refine th_r ?_
     | refine th_e ?_
     | refine ib_n ?_
     | refine ib_r ?_
     | refine ib_e ?_
     | refine ib_x (by decide) ?_
     | refine w_exit ?_
     | refine w_seq ?_
     | refine w_reg ?_
     | refine w_ret ?_
     | refine w_skip ?_
     | refine w_block ?_
     | refine w_t (by simp (disch:=first|decide|(simp only[zF,zG,hnt, h1, h2, h5];decide)) only [zA,zB,zC,zD,zE,zF,zG,zH,zI,zJ,zK,HV.cells,hnt, h1, h2, h5]; first|done|exact rfl) ?_
     | refine w_f (by simp (disch:=first|decide|(simp only[zF,zG,hnt, h1, h2, h5];decide)) only [zA,zB,zC,zD,zE,zF,zG,zH,zI,zJ,zK,HV.cells,hnt, h1, h2, h5]; first|done|exact rfl) ?_
     | refine r_take (by simp (disch:=first|decide|(simp only[zF,zG,hnt, h1, h2, h5];decide)) only [zA,zB,zC,zD,zE,zF,zG,zH,zI,zJ,zK,HV.cells,hnt, h1, h2, h5]; first|done|exact rfl) ?_
     | refine r_drop (by simp (disch:=first|decide|(simp only[zF,zG,Bool.not_true,Bool.not_false,hnt, h1, h2, h5];decide)) only [zA,zB,zC,zD,zE,zF,zG,zH,zI,zJ,zK,HV.cells,Bool.not_true,Bool.not_false,hnt, h1, h2, h5]; first|done|exact rfl) ?_
     | refine r_move (by simp (disch:=first|decide|(simp only[zF,zG,hnt, h1, h2, h5];decide)) only [zA,zB,zC,zD,zE,zF,zG,zH,zI,zJ,zK,HV.cells,hnt, h1, h2, h5]; try exact rfl) ?_
     | refine r_fa (by simp (disch:=first|decide|(simp only[zF,zG,hnt, h1, h2, h5];decide)) only [zA,zB,zC,zD,zE,zF,zG,zH,zI,zJ,zK,HV.cells,hnt, h1, h2, h5]; try exact rfl) ?_
     | refine r_ld1 (by simp (disch:=first|decide|(simp only[zF,zG,hnt, h1, h2, h5];decide)) only [zA,zB,zC,zD,zE,zF,zG,zH,zI,zJ,zK,HV.cells,hnt, h1, h2, h5]; try exact rfl) (by first|assumption|(simp (disch:=omega) only [get_same,get_other,hnt, h1, h2, h5]; first|done|exact rfl)) (by first|assumption|rfl|(simp only [zI,zJ,HV.cells,hnt, h1, h2, h5]; exact rfl)) ?_
     | refine r_ldn (by simp (disch:=first|decide|(simp only[zF,zG,hnt, h1, h2, h5];decide)) only [zA,zB,zC,zD,zE,zF,zG,zH,zI,zJ,zK,HV.cells,hnt, h1, h2, h5]; try exact rfl) (by first|assumption|(simp (disch:=omega) only [get_same,get_other,hnt, h1, h2, h5]; first|done|exact rfl)) (by first|assumption|rfl|(simp only [zI,zJ,HV.cells,hnt, h1, h2, h5]; exact rfl)) ?_
     | refine r_box (by simp (disch:=first|decide|(simp only[zF,zG,hnt, h1, h2, h5];decide)) only [zA,zB,zC,zD,zE,zF,zG,zH,zI,zJ,zK,HV.cells,hnt, h1, h2, h5]; try exact rfl) ?_
     | refine r_alloc ?_
     | refine r_st (cs' := _) (by simp (disch:=first|decide|(simp only[zF,zG,hnt, h1, h2, h5];decide)) only [zA,zB,zC,zD,zE,zF,zG,zH,zI,zJ,zK,HV.cells,hnt, h1, h2, h5]; try exact rfl) (by simp (disch:=first|decide|(simp only[zF,zG,hnt, h1, h2, h5];decide)) only [zA,zB,zC,zD,zE,zF,zG,zH,zI,zJ,zK,HV.cells,hnt, h1, h2, h5]; try exact rfl) (by first|assumption|(simp (disch:=omega) only [get_same,get_other,hnt, h1, h2, h5]; first|done|exact rfl)) (by exact True.intro) (by rfl) (by rfl) (by first|assumption|rfl|(simp only [zI,zJ,HV.cells,hnt, h1, h2, h5]; exact rfl)) (by omega) ?_
     | refine r_add (by simp (disch:=first|decide|(simp only[zF,zG,hnt, h1, h2, h5];decide)) only [zA,zB,zC,zD,zE,zF,zG,zH,zI,zJ,zK,HV.cells,hnt, h1, h2, h5]; try exact rfl) (by simp (disch:=first|decide|(simp only[zF,zG,hnt, h1, h2, h5];decide)) only [zA,zB,zC,zD,zE,zF,zG,zH,zI,zJ,zK,HV.cells,hnt, h1, h2, h5]; try exact rfl) (by omega) (by omega) ?_
     | refine r_sub (by simp (disch:=first|decide|(simp only[zF,zG,hnt, h1, h2, h5];decide)) only [zA,zB,zC,zD,zE,zF,zG,zH,zI,zJ,zK,HV.cells,hnt, h1, h2, h5]; try exact rfl) (by simp (disch:=first|decide|(simp only[zF,zG,hnt, h1, h2, h5];decide)) only [zA,zB,zC,zD,zE,zF,zG,zH,zI,zJ,zK,HV.cells,hnt, h1, h2, h5]; try exact rfl) (by omega) (by omega) ?_
     | refine r_lss (by simp (disch:=first|decide|(simp only[zF,zG,hnt, h1, h2, h5];decide)) only [zA,zB,zC,zD,zE,zF,zG,zH,zI,zJ,zK,HV.cells,hnt, h1, h2, h5]; try exact rfl) (by simp (disch:=first|decide|(simp only[zF,zG,hnt, h1, h2, h5];decide)) only [zA,zB,zC,zD,zE,zF,zG,zH,zI,zJ,zK,HV.cells,hnt, h1, h2, h5]; try exact rfl) (fun hc => ?_) (fun hc => ?_) <;> (try (exfalso; omega))
     | refine r_gtr (by simp (disch:=first|decide|(simp only[zF,zG,hnt, h1, h2, h5];decide)) only [zA,zB,zC,zD,zE,zF,zG,zH,zI,zJ,zK,HV.cells,hnt, h1, h2, h5]; try exact rfl) (by simp (disch:=first|decide|(simp only[zF,zG,hnt, h1, h2, h5];decide)) only [zA,zB,zC,zD,zE,zF,zG,zH,zI,zJ,zK,HV.cells,hnt, h1, h2, h5]; try exact rfl) (fun hc => ?_) (fun hc => ?_) <;> (try (exfalso; omega))
     | refine r_not1 (by simp (disch:=first|decide|(simp only[zF,zG,hnt, h1, h2, h5];decide)) only [zA,zB,zC,zD,zE,zF,zG,zH,zI,zJ,zK,HV.cells,hnt, h1, h2, h5]; try exact rfl) ?_
     | refine r_pt (by simp (disch:=first|decide|(simp only[zF,zG,hnt, h1, h2, h5];decide)) only [zA,zB,zC,zD,zE,zF,zG,zH,zI,zJ,zK,HV.cells,hnt, h1, h2, h5]; first|done|exact rfl) (by simp (disch:=first|decide|(simp only[zF,zG,hnt, h1, h2, h5];decide)) only [zA,zB,zC,zD,zE,zF,zG,zH,zI,zJ,zK,HV.cells,hnt, h1, h2, h5]; try exact rfl) ?_
     | refine r_pf (by simp (disch:=first|decide|(simp only[zF,zG,hnt, h1, h2, h5];decide)) only [zA,zB,zC,zD,zE,zF,zG,zH,zI,zJ,zK,HV.cells,hnt, h1, h2, h5]; first|done|exact rfl) (by simp (disch:=first|decide|(simp only[zF,zG,hnt, h1, h2, h5];decide)) only [zA,zB,zC,zD,zE,zF,zG,zH,zI,zJ,zK,HV.cells,hnt, h1, h2, h5]; try exact rfl) ?_
     | refine r_len (by simp (disch:=first|decide|(simp only[zF,zG,hnt, h1, h2, h5];decide)) only [zA,zB,zC,zD,zE,zF,zG,zH,zI,zJ,zK,HV.cells,hnt, h1, h2, h5]; try exact rfl) ?_
     | refine r_ixs (by simp (disch:=first|decide|(simp only[zF,zG,hnt, h1, h2, h5];decide)) only [zA,zB,zC,zD,zE,zF,zG,zH,zI,zJ,zK,HV.cells,hnt, h1, h2, h5]; try exact rfl) (by simp (disch:=first|decide|(simp only[zF,zG,hnt, h1, h2, h5];decide)) only [zA,zB,zC,zD,zE,zF,zG,zH,zI,zJ,zK,HV.cells,hnt, h1, h2, h5]; try exact rfl) (by omega) ?_
    refine hq _ _ _ he ?_ ?_ (fun r hr => by rw [List.drop_of_length_le (by omega)] at hr; cases hr)
    all_goals first|(simp only [zL,zM,zF,zG,hnt, hds];done)|(simp (disch:=first|decide|(simp only[zF,zG,hnt, hds];decide)) only [zA,zB,zC,zD,zE,zF,zG,zH,zI,zJ,zK,HV.cells,hnt, hds];first|done|exact rfl)|assumption
  | m + 1, i, a, h, nx, hm, he, hnt, hds, h1, h2, h5, hq, hr => by
    have hi : i < l.length := by omega
    have hrow0 := hrow.ext he
    obtain ⟨b, o, cs, kk, rfl, hb, hg, hcs⟩ := hrow0 (by intro e; rw [e] at hi; simp at hi)
    have hy : l[i]? = some l[i] := by simp [hi]
    have e0 := hcs i _ hy
    have ow : overwrite [i64 0, i64 0, i64 0, i64 0] 0 (HV.agg l[i].enc).cells = some l[i].enc := rfl
    have ef : l[i].enc[0 + 0]? = some (i64 l[i].f) := rfl
    have eg : l[i].enc[0 + 1]? = some (i64 l[i].g) := rfl
    have er : takeN 2 (l[i].enc.drop (0 + 2)) = some [i64 l[i].lo, i64 l[i].hi] := rfl
    have ec : t.cells[0 + 0]? = some (i64 t.c) := rfl
    have hd := he.d
    have hle := he.le
    have htg' : h.get tb = some (.cells t.cells .exact) := by rw [he.same _ htb]; exact htg
    have hdrop := List.drop_eq_getElem_cons hi
    have hto := ht
    unfold TubeOk at hto
    refine w_it (show L70w0 = _ by unfold L70w0; exact rfl) ?_
    repeat' first
     | refine r_nil ?_
     | refine th_n ?_
     | refine th_r ?_
     | refine th_e ?_
     | refine ib_n ?_
     | refine ib_r ?_
     | refine ib_e ?_
     | refine ib_x (by decide) ?_
     | refine w_exit ?_
     | refine w_seq ?_
     | refine w_reg ?_
     | refine w_ret ?_
     | refine w_skip ?_
     | refine w_block ?_
     | refine w_t (by simp (disch:=first|decide|(simp only[zF,zG,hnt, h1, h2, h5, htg'];decide)) only [zA,zB,zC,zD,zE,zF,zG,zH,zI,zJ,zK,HV.cells,hnt, h1, h2, h5, htg']; first|done|exact rfl) ?_
     | refine w_f (by simp (disch:=first|decide|(simp only[zF,zG,hnt, h1, h2, h5, htg'];decide)) only [zA,zB,zC,zD,zE,zF,zG,zH,zI,zJ,zK,HV.cells,hnt, h1, h2, h5, htg']; first|done|exact rfl) ?_
     | refine r_take (by simp (disch:=first|decide|(simp only[zF,zG,hnt, h1, h2, h5, htg'];decide)) only [zA,zB,zC,zD,zE,zF,zG,zH,zI,zJ,zK,HV.cells,hnt, h1, h2, h5, htg']; first|done|exact rfl) ?_
     | refine r_drop (by simp (disch:=first|decide|(simp only[zF,zG,Bool.not_true,Bool.not_false,hnt, h1, h2, h5, htg'];decide)) only [zA,zB,zC,zD,zE,zF,zG,zH,zI,zJ,zK,HV.cells,Bool.not_true,Bool.not_false,hnt, h1, h2, h5, htg']; first|done|exact rfl) ?_
     | refine r_move (by simp (disch:=first|decide|(simp only[zF,zG,hnt, h1, h2, h5, htg'];decide)) only [zA,zB,zC,zD,zE,zF,zG,zH,zI,zJ,zK,HV.cells,hnt, h1, h2, h5, htg']; try exact rfl) ?_
     | refine r_fa (by simp (disch:=first|decide|(simp only[zF,zG,hnt, h1, h2, h5, htg'];decide)) only [zA,zB,zC,zD,zE,zF,zG,zH,zI,zJ,zK,HV.cells,hnt, h1, h2, h5, htg']; try exact rfl) ?_
     | refine r_ld1 (by simp (disch:=first|decide|(simp only[zF,zG,hnt, h1, h2, h5, htg'];decide)) only [zA,zB,zC,zD,zE,zF,zG,zH,zI,zJ,zK,HV.cells,hnt, h1, h2, h5, htg']; try exact rfl) (by first|assumption|(simp (disch:=omega) only [get_same,get_other,hnt, h1, h2, h5, htg']; first|done|exact rfl)) (by first|assumption|rfl|(simp only [zI,zJ,HV.cells,hnt, h1, h2, h5, htg']; exact rfl)) ?_
     | refine r_ldn (by simp (disch:=first|decide|(simp only[zF,zG,hnt, h1, h2, h5, htg'];decide)) only [zA,zB,zC,zD,zE,zF,zG,zH,zI,zJ,zK,HV.cells,hnt, h1, h2, h5, htg']; try exact rfl) (by first|assumption|(simp (disch:=omega) only [get_same,get_other,hnt, h1, h2, h5, htg']; first|done|exact rfl)) (by first|assumption|rfl|(simp only [zI,zJ,HV.cells,hnt, h1, h2, h5, htg']; exact rfl)) ?_
     | refine r_box (by simp (disch:=first|decide|(simp only[zF,zG,hnt, h1, h2, h5, htg'];decide)) only [zA,zB,zC,zD,zE,zF,zG,zH,zI,zJ,zK,HV.cells,hnt, h1, h2, h5, htg']; try exact rfl) ?_
     | refine r_alloc ?_
     | refine r_st (cs' := _) (by simp (disch:=first|decide|(simp only[zF,zG,hnt, h1, h2, h5, htg'];decide)) only [zA,zB,zC,zD,zE,zF,zG,zH,zI,zJ,zK,HV.cells,hnt, h1, h2, h5, htg']; try exact rfl) (by simp (disch:=first|decide|(simp only[zF,zG,hnt, h1, h2, h5, htg'];decide)) only [zA,zB,zC,zD,zE,zF,zG,zH,zI,zJ,zK,HV.cells,hnt, h1, h2, h5, htg']; try exact rfl) (by first|assumption|(simp (disch:=omega) only [get_same,get_other,hnt, h1, h2, h5, htg']; first|done|exact rfl)) (by exact True.intro) (by rfl) (by rfl) (by first|assumption|rfl|(simp only [zI,zJ,HV.cells,hnt, h1, h2, h5, htg']; exact rfl)) (by omega) ?_
     | refine r_add (by simp (disch:=first|decide|(simp only[zF,zG,hnt, h1, h2, h5, htg'];decide)) only [zA,zB,zC,zD,zE,zF,zG,zH,zI,zJ,zK,HV.cells,hnt, h1, h2, h5, htg']; try exact rfl) (by simp (disch:=first|decide|(simp only[zF,zG,hnt, h1, h2, h5, htg'];decide)) only [zA,zB,zC,zD,zE,zF,zG,zH,zI,zJ,zK,HV.cells,hnt, h1, h2, h5, htg']; try exact rfl) (by omega) (by omega) ?_
     | refine r_sub (by simp (disch:=first|decide|(simp only[zF,zG,hnt, h1, h2, h5, htg'];decide)) only [zA,zB,zC,zD,zE,zF,zG,zH,zI,zJ,zK,HV.cells,hnt, h1, h2, h5, htg']; try exact rfl) (by simp (disch:=first|decide|(simp only[zF,zG,hnt, h1, h2, h5, htg'];decide)) only [zA,zB,zC,zD,zE,zF,zG,zH,zI,zJ,zK,HV.cells,hnt, h1, h2, h5, htg']; try exact rfl) (by omega) (by omega) ?_
     | refine r_lss (by simp (disch:=first|decide|(simp only[zF,zG,hnt, h1, h2, h5, htg'];decide)) only [zA,zB,zC,zD,zE,zF,zG,zH,zI,zJ,zK,HV.cells,hnt, h1, h2, h5, htg']; try exact rfl) (by simp (disch:=first|decide|(simp only[zF,zG,hnt, h1, h2, h5, htg'];decide)) only [zA,zB,zC,zD,zE,zF,zG,zH,zI,zJ,zK,HV.cells,hnt, h1, h2, h5, htg']; try exact rfl) (fun hc => ?_) (fun hc => ?_) <;> (try (exfalso; omega))
     | refine r_gtr (by simp (disch:=first|decide|(simp only[zF,zG,hnt, h1, h2, h5, htg'];decide)) only [zA,zB,zC,zD,zE,zF,zG,zH,zI,zJ,zK,HV.cells,hnt, h1, h2, h5, htg']; try exact rfl) (by simp (disch:=first|decide|(simp only[zF,zG,hnt, h1, h2, h5, htg'];decide)) only [zA,zB,zC,zD,zE,zF,zG,zH,zI,zJ,zK,HV.cells,hnt, h1, h2, h5, htg']; try exact rfl) (fun hc => ?_) (fun hc => ?_) <;> (try (exfalso; omega))
     | refine r_not1 (by simp (disch:=first|decide|(simp only[zF,zG,hnt, h1, h2, h5, htg'];decide)) only [zA,zB,zC,zD,zE,zF,zG,zH,zI,zJ,zK,HV.cells,hnt, h1, h2, h5, htg']; try exact rfl) ?_
     | refine r_pt (by simp (disch:=first|decide|(simp only[zF,zG,hnt, h1, h2, h5, htg'];decide)) only [zA,zB,zC,zD,zE,zF,zG,zH,zI,zJ,zK,HV.cells,hnt, h1, h2, h5, htg']; first|done|exact rfl) (by simp (disch:=first|decide|(simp only[zF,zG,hnt, h1, h2, h5, htg'];decide)) only [zA,zB,zC,zD,zE,zF,zG,zH,zI,zJ,zK,HV.cells,hnt, h1, h2, h5, htg']; try exact rfl) ?_
     | refine r_pf (by simp (disch:=first|decide|(simp only[zF,zG,hnt, h1, h2, h5, htg'];decide)) only [zA,zB,zC,zD,zE,zF,zG,zH,zI,zJ,zK,HV.cells,hnt, h1, h2, h5, htg']; first|done|exact rfl) (by simp (disch:=first|decide|(simp only[zF,zG,hnt, h1, h2, h5, htg'];decide)) only [zA,zB,zC,zD,zE,zF,zG,zH,zI,zJ,zK,HV.cells,hnt, h1, h2, h5, htg']; try exact rfl) ?_
     | refine r_len (by simp (disch:=first|decide|(simp only[zF,zG,hnt, h1, h2, h5, htg'];decide)) only [zA,zB,zC,zD,zE,zF,zG,zH,zI,zJ,zK,HV.cells,hnt, h1, h2, h5, htg']; try exact rfl) ?_
     | refine r_ixs (by simp (disch:=first|decide|(simp only[zF,zG,hnt, h1, h2, h5, htg'];decide)) only [zA,zB,zC,zD,zE,zF,zG,zH,zI,zJ,zK,HV.cells,hnt, h1, h2, h5, htg']; try exact rfl) (by simp (disch:=first|decide|(simp only[zF,zG,hnt, h1, h2, h5, htg'];decide)) only [zA,zB,zC,zD,zE,zF,zG,zH,zI,zJ,zK,HV.cells,hnt, h1, h2, h5, htg']; try exact rfl) (by omega) ?_
     | refine r_calld (by simp (disch:=first|decide|(simp only[zF,zG,hnt, h1, h2, h5, htg'];decide)) only [zA,zB,zC,zD,zE,zF,zG,zH,zI,zJ,zK,HV.cells,hnt, h1, h2, h5, htg']; try exact rfl) (by simp (disch:=first|decide|(simp only[zF,zG,hnt, h1, h2, h5, htg'];decide)) only [List.map_cons,List.map_nil,List.nil_append,List.cons_append,List.append_nil,zA,zB,zC,zD,zE,zF,zG,zH,zI,zJ,zK,HV.cells,hnt, h1, h2, h5, htg']; try exact rfl) c_In (fun n' hn' hc => ?_) (fun n' hn' hc => ?_) <;> (try (exfalso; omega))
     | refine r_calld (by simp (disch:=first|decide|(simp only[zF,zG,hnt, h1, h2, h5, htg'];decide)) only [zA,zB,zC,zD,zE,zF,zG,zH,zI,zJ,zK,HV.cells,hnt, h1, h2, h5, htg']; try exact rfl) (by simp (disch:=first|decide|(simp only[zF,zG,hnt, h1, h2, h5, htg'];decide)) only [List.map_cons,List.map_nil,List.nil_append,List.cons_append,List.append_nil,zA,zB,zC,zD,zE,zF,zG,zH,zI,zJ,zK,HV.cells,hnt, h1, h2, h5, htg']; try exact rfl) c_Span (fun n' hn' hc => ?_) (fun n' hn' hc => ?_) <;> (try (exfalso; omega))
    case refine_1.refine_1.refine_1.refine_1 =>
      refine loop70 (cp := cp) hlen hfl htb htg hrow ht m (i + 1) _ _ _ (by omega) (by repeat' first|assumption|refine Ext.put ?_ (by omega) (by omega)|exact Ext.up (by assumption) (by omega)|exact Ext.nx (by assumption) (by omega)) ?_ ?_ ?_ ?_ ?_ (fun a' h' n2 g1 g2 g3 g4 => hq a' h' n2 g1 g2 g3 ?_) (fun a' h' n2 g1 g2 g3 g4 g5 => hr a' h' n2 g1 g2 g3 g4 ?_)
      all_goals try first|(simp only [zL,zM,zF,zG,hnt, hds, h1, h2, h5];done)|(simp (disch:=first|decide|(simp only[zF,zG,hnt, hds, h1, h2, h5];decide)) only [zA,zB,zC,zD,zE,zF,zG,zH,zI,zJ,zK,HV.cells,hnt, hds, h1, h2, h5];first|done|exact rfl)|assumption
      · rw [hdrop]; intro r hr; rcases List.mem_cons.1 hr with e | e
        · rw [e]; unfold RdOk2; omega
        · exact g4 r e
      · rw [hdrop]; exact fun e => g5 fun r hr => e r (List.mem_cons_of_mem _ hr)
    all_goals
      refine hr _ _ _ (by repeat' first|assumption|refine Ext.put ?_ (by omega) (by omega)|exact Ext.up (by assumption) (by omega)|exact Ext.nx (by assumption) (by omega)) ?_ ?_ ?_ (fun e => by have e2 := e l[i] (by rw [hdrop]; exact List.mem_cons_self ..); unfold RdOk2 at e2; omega)
      all_goals first|(simp only [zL,zM,zF,zG,hnt, hds];done)|(simp (disch:=first|decide|(simp only[zF,zG,hnt, hds];decide)) only [zA,zB,zC,zD,zE,zF,zG,zH,zI,zJ,zK,HV.cells,hnt, hds];first|done|exact rfl)|assumption
theorem c_Fault {fl : Nat} {h : Tr HBlk} {nx : Nat} (hd : D h nx) {t : Tb} {p : Option (Nat × Nat)} {l : List Rd} {n cp : Nat} (hn : n = l.length) (hlen : l.length < 1000000000) (hrow : Row Rd.enc 4 h nx p l) :
    C LW fl 70 [.agg t.cells, .slice p n cp] ⟨h, nx⟩ (Sc (· = i64 (errOf t.c t.t t.a t.b l)) ⟨h, nx⟩) := by
  subst hn
  have et : takeN 4 (t.cells.drop 0) = some t.cells := rfl
  have cT : ∀ fl h nx, C LW fl 25 [.agg t.cells] ⟨h, nx⟩ (Sc (· = .bool (decide (TubeOk t.c t.t t.a t.b))) ⟨h, nx⟩) := fun fl h nx => c_isTube
  refine c_in lw70 rfl rfl rfl ?_
  dsimp only [L70]
  repeat' first
   | refine r_nil ?_
   | refine th_n ?_
   | refine th_r ?_
   | refine th_e ?_
   | refine ib_n ?_
   | refine ib_r ?_
   | refine ib_e ?_
   | refine ib_x (by decide) ?_
   | refine w_exit ?_
   | refine w_seq ?_
   | refine w_reg ?_
   | refine w_ret ?_
   | refine w_skip ?_
   | refine w_block ?_
   | refine w_t (by simp (disch:=first|decide|(simp only[zF,zG];decide)) only [zA,zB,zC,zD,zE,zF,zG,zH,zI,zJ,zK,HV.cells]; first|done|exact rfl) ?_
   | refine w_f (by simp (disch:=first|decide|(simp only[zF,zG];decide)) only [zA,zB,zC,zD,zE,zF,zG,zH,zI,zJ,zK,HV.cells]; first|done|exact rfl) ?_
   | refine r_take (by simp (disch:=first|decide|(simp only[zF,zG];decide)) only [zA,zB,zC,zD,zE,zF,zG,zH,zI,zJ,zK,HV.cells]; first|done|exact rfl) ?_
   | refine r_drop (by simp (disch:=first|decide|(simp only[zF,zG,Bool.not_true,Bool.not_false];decide)) only [zA,zB,zC,zD,zE,zF,zG,zH,zI,zJ,zK,HV.cells,Bool.not_true,Bool.not_false]; first|done|exact rfl) ?_
   | refine r_move (by simp (disch:=first|decide|(simp only[zF,zG];decide)) only [zA,zB,zC,zD,zE,zF,zG,zH,zI,zJ,zK,HV.cells]; try exact rfl) ?_
   | refine r_fa (by simp (disch:=first|decide|(simp only[zF,zG];decide)) only [zA,zB,zC,zD,zE,zF,zG,zH,zI,zJ,zK,HV.cells]; try exact rfl) ?_
   | refine r_ld1 (by simp (disch:=first|decide|(simp only[zF,zG];decide)) only [zA,zB,zC,zD,zE,zF,zG,zH,zI,zJ,zK,HV.cells]; try exact rfl) (by first|assumption|(simp (disch:=omega) only [get_same,get_other]; first|done|exact rfl)) (by first|assumption|rfl|(simp only [zI,zJ,HV.cells]; exact rfl)) ?_
   | refine r_ldn (by simp (disch:=first|decide|(simp only[zF,zG];decide)) only [zA,zB,zC,zD,zE,zF,zG,zH,zI,zJ,zK,HV.cells]; try exact rfl) (by first|assumption|(simp (disch:=omega) only [get_same,get_other]; first|done|exact rfl)) (by first|assumption|rfl|(simp only [zI,zJ,HV.cells]; exact rfl)) ?_
   | refine r_box (by simp (disch:=first|decide|(simp only[zF,zG];decide)) only [zA,zB,zC,zD,zE,zF,zG,zH,zI,zJ,zK,HV.cells]; try exact rfl) ?_
   | refine r_alloc ?_
   | refine r_st (cs' := _) (by simp (disch:=first|decide|(simp only[zF,zG];decide)) only [zA,zB,zC,zD,zE,zF,zG,zH,zI,zJ,zK,HV.cells]; try exact rfl) (by simp (disch:=first|decide|(simp only[zF,zG];decide)) only [zA,zB,zC,zD,zE,zF,zG,zH,zI,zJ,zK,HV.cells]; try exact rfl) (by first|assumption|(simp (disch:=omega) only [get_same,get_other]; first|done|exact rfl)) (by exact True.intro) (by rfl) (by rfl) (by first|assumption|rfl|(simp only [zI,zJ,HV.cells]; exact rfl)) (by omega) ?_
   | refine r_add (by simp (disch:=first|decide|(simp only[zF,zG];decide)) only [zA,zB,zC,zD,zE,zF,zG,zH,zI,zJ,zK,HV.cells]; try exact rfl) (by simp (disch:=first|decide|(simp only[zF,zG];decide)) only [zA,zB,zC,zD,zE,zF,zG,zH,zI,zJ,zK,HV.cells]; try exact rfl) (by omega) (by omega) ?_
   | refine r_sub (by simp (disch:=first|decide|(simp only[zF,zG];decide)) only [zA,zB,zC,zD,zE,zF,zG,zH,zI,zJ,zK,HV.cells]; try exact rfl) (by simp (disch:=first|decide|(simp only[zF,zG];decide)) only [zA,zB,zC,zD,zE,zF,zG,zH,zI,zJ,zK,HV.cells]; try exact rfl) (by omega) (by omega) ?_
   | refine r_lss (by simp (disch:=first|decide|(simp only[zF,zG];decide)) only [zA,zB,zC,zD,zE,zF,zG,zH,zI,zJ,zK,HV.cells]; try exact rfl) (by simp (disch:=first|decide|(simp only[zF,zG];decide)) only [zA,zB,zC,zD,zE,zF,zG,zH,zI,zJ,zK,HV.cells]; try exact rfl) (fun hc => ?_) (fun hc => ?_) <;> (try (exfalso; omega))
   | refine r_gtr (by simp (disch:=first|decide|(simp only[zF,zG];decide)) only [zA,zB,zC,zD,zE,zF,zG,zH,zI,zJ,zK,HV.cells]; try exact rfl) (by simp (disch:=first|decide|(simp only[zF,zG];decide)) only [zA,zB,zC,zD,zE,zF,zG,zH,zI,zJ,zK,HV.cells]; try exact rfl) (fun hc => ?_) (fun hc => ?_) <;> (try (exfalso; omega))
   | refine r_not1 (by simp (disch:=first|decide|(simp only[zF,zG];decide)) only [zA,zB,zC,zD,zE,zF,zG,zH,zI,zJ,zK,HV.cells]; try exact rfl) ?_
   | refine r_pt (by simp (disch:=first|decide|(simp only[zF,zG];decide)) only [zA,zB,zC,zD,zE,zF,zG,zH,zI,zJ,zK,HV.cells]; first|done|exact rfl) (by simp (disch:=first|decide|(simp only[zF,zG];decide)) only [zA,zB,zC,zD,zE,zF,zG,zH,zI,zJ,zK,HV.cells]; try exact rfl) ?_
   | refine r_pf (by simp (disch:=first|decide|(simp only[zF,zG];decide)) only [zA,zB,zC,zD,zE,zF,zG,zH,zI,zJ,zK,HV.cells]; first|done|exact rfl) (by simp (disch:=first|decide|(simp only[zF,zG];decide)) only [zA,zB,zC,zD,zE,zF,zG,zH,zI,zJ,zK,HV.cells]; try exact rfl) ?_
   | refine r_len (by simp (disch:=first|decide|(simp only[zF,zG];decide)) only [zA,zB,zC,zD,zE,zF,zG,zH,zI,zJ,zK,HV.cells]; try exact rfl) ?_
   | refine r_ixs (by simp (disch:=first|decide|(simp only[zF,zG];decide)) only [zA,zB,zC,zD,zE,zF,zG,zH,zI,zJ,zK,HV.cells]; try exact rfl) (by simp (disch:=first|decide|(simp only[zF,zG];decide)) only [zA,zB,zC,zD,zE,zF,zG,zH,zI,zJ,zK,HV.cells]; try exact rfl) (by omega) ?_
   | refine r_calld (by simp (disch:=first|decide|(simp only[zF,zG];decide)) only [zA,zB,zC,zD,zE,zF,zG,zH,zI,zJ,zK,HV.cells]; try exact rfl) (by simp (disch:=first|decide|(simp only[zF,zG];decide)) only [List.map_cons,List.map_nil,List.nil_append,List.cons_append,List.append_nil,zA,zB,zC,zD,zE,zF,zG,zH,zI,zJ,zK,HV.cells]; try exact rfl) (cT _ _ _) (fun n' hn' hc => ?_) (fun n' hn' hc => ?_) <;> (try (exfalso; omega))
  case refine_1.refine_2 =>
    have hT : TubeOk t.c t.t t.a t.b := by assumption
    refine loop70 (cp := cp) (tb := nx) (t := t) (n0 := n') (h0 := h.set nx (some (.cells t.cells .exact))) hlen (by omega) (by omega) (by first|assumption|(simp (disch:=omega) only [get_same,get_other]; first|done|exact rfl)) (Row.ext hrow (by repeat' first|assumption|refine Ext.put ?_ (by omega) (by omega)|exact Ext.up (by assumption) (by omega)|exact Ext.nx (by assumption) (by omega))) hT l.length 0 _ _ _ (by omega) (Ext.refl (by repeat' first|assumption|refine D.upd ?_ (by omega)|exact D.mono (by assumption) (by omega))) ?_ ?_ ?_ ?_ ?_ (fun a' h' n2 g1 g2 g3 g4 => ?_) (fun a' h' n2 g1 g2 g3 g4 g5 => ?_)
    all_goals try first|(simp only [zL,zM,zF,zG];done)|(simp (disch:=first|decide|(simp only[zF,zG];decide)) only [zA,zB,zC,zD,zE,zF,zG,zH,zI,zJ,zK,HV.cells];first|done|exact rfl)|assumption
    · have hle := g1.le
      repeat' first
       | refine r_nil ?_
       | refine th_n ?_
       | refine th_r ?_
       | refine th_e ?_
       | refine ib_n ?_
       | refine ib_r ?_
       | refine ib_e ?_
       | refine ib_x (by decide) ?_
       | refine w_exit ?_
       | refine w_seq ?_
       | refine w_reg ?_
       | refine w_ret ?_
       | refine w_skip ?_
       | refine w_block ?_
       | refine w_t (by simp (disch:=first|decide|(simp only[zF,zG,g2];decide)) only [zA,zB,zC,zD,zE,zF,zG,zH,zI,zJ,zK,HV.cells,g2]; first|done|exact rfl) ?_
       | refine w_f (by simp (disch:=first|decide|(simp only[zF,zG,g2];decide)) only [zA,zB,zC,zD,zE,zF,zG,zH,zI,zJ,zK,HV.cells,g2]; first|done|exact rfl) ?_
       | refine r_take (by simp (disch:=first|decide|(simp only[zF,zG,g2];decide)) only [zA,zB,zC,zD,zE,zF,zG,zH,zI,zJ,zK,HV.cells,g2]; first|done|exact rfl) ?_
       | refine r_drop (by simp (disch:=first|decide|(simp only[zF,zG,Bool.not_true,Bool.not_false,g2];decide)) only [zA,zB,zC,zD,zE,zF,zG,zH,zI,zJ,zK,HV.cells,Bool.not_true,Bool.not_false,g2]; first|done|exact rfl) ?_
       | refine r_move (by simp (disch:=first|decide|(simp only[zF,zG,g2];decide)) only [zA,zB,zC,zD,zE,zF,zG,zH,zI,zJ,zK,HV.cells,g2]; try exact rfl) ?_
       | refine r_fa (by simp (disch:=first|decide|(simp only[zF,zG,g2];decide)) only [zA,zB,zC,zD,zE,zF,zG,zH,zI,zJ,zK,HV.cells,g2]; try exact rfl) ?_
       | refine r_ld1 (by simp (disch:=first|decide|(simp only[zF,zG,g2];decide)) only [zA,zB,zC,zD,zE,zF,zG,zH,zI,zJ,zK,HV.cells,g2]; try exact rfl) (by first|assumption|(simp (disch:=omega) only [get_same,get_other,g2]; first|done|exact rfl)) (by first|assumption|rfl|(simp only [zI,zJ,HV.cells,g2]; exact rfl)) ?_
       | refine r_ldn (by simp (disch:=first|decide|(simp only[zF,zG,g2];decide)) only [zA,zB,zC,zD,zE,zF,zG,zH,zI,zJ,zK,HV.cells,g2]; try exact rfl) (by first|assumption|(simp (disch:=omega) only [get_same,get_other,g2]; first|done|exact rfl)) (by first|assumption|rfl|(simp only [zI,zJ,HV.cells,g2]; exact rfl)) ?_
       | refine r_box (by simp (disch:=first|decide|(simp only[zF,zG,g2];decide)) only [zA,zB,zC,zD,zE,zF,zG,zH,zI,zJ,zK,HV.cells,g2]; try exact rfl) ?_
       | refine r_alloc ?_
       | refine r_st (cs' := _) (by simp (disch:=first|decide|(simp only[zF,zG,g2];decide)) only [zA,zB,zC,zD,zE,zF,zG,zH,zI,zJ,zK,HV.cells,g2]; try exact rfl) (by simp (disch:=first|decide|(simp only[zF,zG,g2];decide)) only [zA,zB,zC,zD,zE,zF,zG,zH,zI,zJ,zK,HV.cells,g2]; try exact rfl) (by first|assumption|(simp (disch:=omega) only [get_same,get_other,g2]; first|done|exact rfl)) (by exact True.intro) (by rfl) (by rfl) (by first|assumption|rfl|(simp only [zI,zJ,HV.cells,g2]; exact rfl)) (by omega) ?_
       | refine r_add (by simp (disch:=first|decide|(simp only[zF,zG,g2];decide)) only [zA,zB,zC,zD,zE,zF,zG,zH,zI,zJ,zK,HV.cells,g2]; try exact rfl) (by simp (disch:=first|decide|(simp only[zF,zG,g2];decide)) only [zA,zB,zC,zD,zE,zF,zG,zH,zI,zJ,zK,HV.cells,g2]; try exact rfl) (by omega) (by omega) ?_
       | refine r_sub (by simp (disch:=first|decide|(simp only[zF,zG,g2];decide)) only [zA,zB,zC,zD,zE,zF,zG,zH,zI,zJ,zK,HV.cells,g2]; try exact rfl) (by simp (disch:=first|decide|(simp only[zF,zG,g2];decide)) only [zA,zB,zC,zD,zE,zF,zG,zH,zI,zJ,zK,HV.cells,g2]; try exact rfl) (by omega) (by omega) ?_
       | refine r_lss (by simp (disch:=first|decide|(simp only[zF,zG,g2];decide)) only [zA,zB,zC,zD,zE,zF,zG,zH,zI,zJ,zK,HV.cells,g2]; try exact rfl) (by simp (disch:=first|decide|(simp only[zF,zG,g2];decide)) only [zA,zB,zC,zD,zE,zF,zG,zH,zI,zJ,zK,HV.cells,g2]; try exact rfl) (fun hc => ?_) (fun hc => ?_) <;> (try (exfalso; omega))
       | refine r_gtr (by simp (disch:=first|decide|(simp only[zF,zG,g2];decide)) only [zA,zB,zC,zD,zE,zF,zG,zH,zI,zJ,zK,HV.cells,g2]; try exact rfl) (by simp (disch:=first|decide|(simp only[zF,zG,g2];decide)) only [zA,zB,zC,zD,zE,zF,zG,zH,zI,zJ,zK,HV.cells,g2]; try exact rfl) (fun hc => ?_) (fun hc => ?_) <;> (try (exfalso; omega))
       | refine r_not1 (by simp (disch:=first|decide|(simp only[zF,zG,g2];decide)) only [zA,zB,zC,zD,zE,zF,zG,zH,zI,zJ,zK,HV.cells,g2]; try exact rfl) ?_
       | refine r_pt (by simp (disch:=first|decide|(simp only[zF,zG,g2];decide)) only [zA,zB,zC,zD,zE,zF,zG,zH,zI,zJ,zK,HV.cells,g2]; first|done|exact rfl) (by simp (disch:=first|decide|(simp only[zF,zG,g2];decide)) only [zA,zB,zC,zD,zE,zF,zG,zH,zI,zJ,zK,HV.cells,g2]; try exact rfl) ?_
       | refine r_pf (by simp (disch:=first|decide|(simp only[zF,zG,g2];decide)) only [zA,zB,zC,zD,zE,zF,zG,zH,zI,zJ,zK,HV.cells,g2]; first|done|exact rfl) (by simp (disch:=first|decide|(simp only[zF,zG,g2];decide)) only [zA,zB,zC,zD,zE,zF,zG,zH,zI,zJ,zK,HV.cells,g2]; try exact rfl) ?_
       | refine r_len (by simp (disch:=first|decide|(simp only[zF,zG,g2];decide)) only [zA,zB,zC,zD,zE,zF,zG,zH,zI,zJ,zK,HV.cells,g2]; try exact rfl) ?_
       | refine r_ixs (by simp (disch:=first|decide|(simp only[zF,zG,g2];decide)) only [zA,zB,zC,zD,zE,zF,zG,zH,zI,zJ,zK,HV.cells,g2]; try exact rfl) (by simp (disch:=first|decide|(simp only[zF,zG,g2];decide)) only [zA,zB,zC,zD,zE,zF,zG,zH,zI,zJ,zK,HV.cells,g2]; try exact rfl) (by omega) ?_
      refine fin_r (by simp only [zL, g3]) (by simp (disch:=first|decide|(simp only[zF,zG,g2];decide)) only [zA,zB,zC,zD,zE,zF,zG,zH,zI,zJ,zK,HV.cells,g2]; try exact rfl) (sc_flat rfl (by dsimp only; omega) ?_)
      unfold errOf; rw [if_pos hT, if_pos (by omega), if_pos (by simpa using g4)]
    · have hle := g1.le
      repeat' first
       | refine r_nil ?_
       | refine th_n ?_
       | refine th_r ?_
       | refine th_e ?_
       | refine ib_n ?_
       | refine ib_r ?_
       | refine ib_e ?_
       | refine ib_x (by decide) ?_
       | refine w_exit ?_
       | refine w_seq ?_
       | refine w_reg ?_
       | refine w_ret ?_
       | refine w_skip ?_
       | refine w_block ?_
       | refine w_t (by simp (disch:=first|decide|(simp only[zF,zG,g2];decide)) only [zA,zB,zC,zD,zE,zF,zG,zH,zI,zJ,zK,HV.cells,g2]; first|done|exact rfl) ?_
       | refine w_f (by simp (disch:=first|decide|(simp only[zF,zG,g2];decide)) only [zA,zB,zC,zD,zE,zF,zG,zH,zI,zJ,zK,HV.cells,g2]; first|done|exact rfl) ?_
       | refine r_take (by simp (disch:=first|decide|(simp only[zF,zG,g2];decide)) only [zA,zB,zC,zD,zE,zF,zG,zH,zI,zJ,zK,HV.cells,g2]; first|done|exact rfl) ?_
       | refine r_drop (by simp (disch:=first|decide|(simp only[zF,zG,Bool.not_true,Bool.not_false,g2];decide)) only [zA,zB,zC,zD,zE,zF,zG,zH,zI,zJ,zK,HV.cells,Bool.not_true,Bool.not_false,g2]; first|done|exact rfl) ?_
       | refine r_move (by simp (disch:=first|decide|(simp only[zF,zG,g2];decide)) only [zA,zB,zC,zD,zE,zF,zG,zH,zI,zJ,zK,HV.cells,g2]; try exact rfl) ?_
       | refine r_fa (by simp (disch:=first|decide|(simp only[zF,zG,g2];decide)) only [zA,zB,zC,zD,zE,zF,zG,zH,zI,zJ,zK,HV.cells,g2]; try exact rfl) ?_
       | refine r_ld1 (by simp (disch:=first|decide|(simp only[zF,zG,g2];decide)) only [zA,zB,zC,zD,zE,zF,zG,zH,zI,zJ,zK,HV.cells,g2]; try exact rfl) (by first|assumption|(simp (disch:=omega) only [get_same,get_other,g2]; first|done|exact rfl)) (by first|assumption|rfl|(simp only [zI,zJ,HV.cells,g2]; exact rfl)) ?_
       | refine r_ldn (by simp (disch:=first|decide|(simp only[zF,zG,g2];decide)) only [zA,zB,zC,zD,zE,zF,zG,zH,zI,zJ,zK,HV.cells,g2]; try exact rfl) (by first|assumption|(simp (disch:=omega) only [get_same,get_other,g2]; first|done|exact rfl)) (by first|assumption|rfl|(simp only [zI,zJ,HV.cells,g2]; exact rfl)) ?_
       | refine r_box (by simp (disch:=first|decide|(simp only[zF,zG,g2];decide)) only [zA,zB,zC,zD,zE,zF,zG,zH,zI,zJ,zK,HV.cells,g2]; try exact rfl) ?_
       | refine r_alloc ?_
       | refine r_st (cs' := _) (by simp (disch:=first|decide|(simp only[zF,zG,g2];decide)) only [zA,zB,zC,zD,zE,zF,zG,zH,zI,zJ,zK,HV.cells,g2]; try exact rfl) (by simp (disch:=first|decide|(simp only[zF,zG,g2];decide)) only [zA,zB,zC,zD,zE,zF,zG,zH,zI,zJ,zK,HV.cells,g2]; try exact rfl) (by first|assumption|(simp (disch:=omega) only [get_same,get_other,g2]; first|done|exact rfl)) (by exact True.intro) (by rfl) (by rfl) (by first|assumption|rfl|(simp only [zI,zJ,HV.cells,g2]; exact rfl)) (by omega) ?_
       | refine r_add (by simp (disch:=first|decide|(simp only[zF,zG,g2];decide)) only [zA,zB,zC,zD,zE,zF,zG,zH,zI,zJ,zK,HV.cells,g2]; try exact rfl) (by simp (disch:=first|decide|(simp only[zF,zG,g2];decide)) only [zA,zB,zC,zD,zE,zF,zG,zH,zI,zJ,zK,HV.cells,g2]; try exact rfl) (by omega) (by omega) ?_
       | refine r_sub (by simp (disch:=first|decide|(simp only[zF,zG,g2];decide)) only [zA,zB,zC,zD,zE,zF,zG,zH,zI,zJ,zK,HV.cells,g2]; try exact rfl) (by simp (disch:=first|decide|(simp only[zF,zG,g2];decide)) only [zA,zB,zC,zD,zE,zF,zG,zH,zI,zJ,zK,HV.cells,g2]; try exact rfl) (by omega) (by omega) ?_
       | refine r_lss (by simp (disch:=first|decide|(simp only[zF,zG,g2];decide)) only [zA,zB,zC,zD,zE,zF,zG,zH,zI,zJ,zK,HV.cells,g2]; try exact rfl) (by simp (disch:=first|decide|(simp only[zF,zG,g2];decide)) only [zA,zB,zC,zD,zE,zF,zG,zH,zI,zJ,zK,HV.cells,g2]; try exact rfl) (fun hc => ?_) (fun hc => ?_) <;> (try (exfalso; omega))
       | refine r_gtr (by simp (disch:=first|decide|(simp only[zF,zG,g2];decide)) only [zA,zB,zC,zD,zE,zF,zG,zH,zI,zJ,zK,HV.cells,g2]; try exact rfl) (by simp (disch:=first|decide|(simp only[zF,zG,g2];decide)) only [zA,zB,zC,zD,zE,zF,zG,zH,zI,zJ,zK,HV.cells,g2]; try exact rfl) (fun hc => ?_) (fun hc => ?_) <;> (try (exfalso; omega))
       | refine r_not1 (by simp (disch:=first|decide|(simp only[zF,zG,g2];decide)) only [zA,zB,zC,zD,zE,zF,zG,zH,zI,zJ,zK,HV.cells,g2]; try exact rfl) ?_
       | refine r_pt (by simp (disch:=first|decide|(simp only[zF,zG,g2];decide)) only [zA,zB,zC,zD,zE,zF,zG,zH,zI,zJ,zK,HV.cells,g2]; first|done|exact rfl) (by simp (disch:=first|decide|(simp only[zF,zG,g2];decide)) only [zA,zB,zC,zD,zE,zF,zG,zH,zI,zJ,zK,HV.cells,g2]; try exact rfl) ?_
       | refine r_pf (by simp (disch:=first|decide|(simp only[zF,zG,g2];decide)) only [zA,zB,zC,zD,zE,zF,zG,zH,zI,zJ,zK,HV.cells,g2]; first|done|exact rfl) (by simp (disch:=first|decide|(simp only[zF,zG,g2];decide)) only [zA,zB,zC,zD,zE,zF,zG,zH,zI,zJ,zK,HV.cells,g2]; try exact rfl) ?_
       | refine r_len (by simp (disch:=first|decide|(simp only[zF,zG,g2];decide)) only [zA,zB,zC,zD,zE,zF,zG,zH,zI,zJ,zK,HV.cells,g2]; try exact rfl) ?_
       | refine r_ixs (by simp (disch:=first|decide|(simp only[zF,zG,g2];decide)) only [zA,zB,zC,zD,zE,zF,zG,zH,zI,zJ,zK,HV.cells,g2]; try exact rfl) (by simp (disch:=first|decide|(simp only[zF,zG,g2];decide)) only [zA,zB,zC,zD,zE,zF,zG,zH,zI,zJ,zK,HV.cells,g2]; try exact rfl) (by omega) ?_
      refine fin_r (by simp only [zL, g3]) (by simp (disch:=first|decide|(simp only[zF,zG,g2, g4];decide)) only [zA,zB,zC,zD,zE,zF,zG,zH,zI,zJ,zK,HV.cells,g2, g4]; try exact rfl) (sc_flat rfl (by dsimp only; omega) ?_)
      unfold errOf; rw [if_pos hT, if_pos (by omega), if_neg (by simpa using g5)]
  case refine_1.refine_1 => refine fin_r (by simp only [zL,zM]) (by simp (disch:=first|decide|(simp only[zF,zG];decide)) only [zA,zB,zC,zD,zE,zF,zG,zH,zI,zJ,zK,HV.cells]; try exact rfl) (sc_flat rfl (by dsimp only; omega) ?_); unfold errOf; rw [if_pos (by assumption), if_neg (by omega)]
  case refine_2 => refine fin_r (by simp only [zL,zM]) (by simp (disch:=first|decide|(simp only[zF,zG];decide)) only [zA,zB,zC,zD,zE,zF,zG,zH,zI,zJ,zK,HV.cells]; try exact rfl) (sc_flat rfl (by dsimp only; omega) ?_); unfold errOf; rw [if_neg hc]
/- 26 -/
theorem c_fault {fl : Nat} {h : Tr HBlk} {nx : Nat} (hd : D h nx) {t : Tb} {p : Option (Nat × Nat)} {l : List Rd} {n cp : Nat} (hn : n = l.length) (hlen : l.length < 1000000000) (hrow : Row Rd.enc 4 h nx p l) :
    C LW fl 26 [.agg t.cells, .slice p n cp] ⟨h, nx⟩ (Sc (· = i64 (errOf t.c t.t t.a t.b l)) ⟨h, nx⟩) := by
  subst hn
  have et : takeN 4 (t.cells.drop 0) = some t.cells := rfl
  refine c_in lw26 rfl rfl rfl ?_
  dsimp only [L26]
  repeat' first
   | refine r_nil ?_
   | refine th_n ?_
   | refine th_r ?_
   | refine w_seq ?_
   | refine w_reg ?_
   | refine w_ret ?_
   | refine w_skip ?_
   | refine r_move (by simp (disch:=first|decide|(simp only[zF,zG];decide)) only [zA,zB,zC,zD,zE,zF,zG,zH,zI,zJ,zK,HV.cells]; try exact rfl) ?_
   | refine r_ldn (by simp (disch:=first|decide|(simp only[zF,zG];decide)) only [zA,zB,zC,zD,zE,zF,zG,zH,zI,zJ,zK,HV.cells]; try exact rfl) (by first|assumption|(simp (disch:=omega) only [get_same,get_other]; first|done|exact rfl)) (by first|assumption|rfl|(simp only [zI,zJ,HV.cells]; exact rfl)) ?_
   | refine r_box (by simp (disch:=first|decide|(simp only[zF,zG];decide)) only [zA,zB,zC,zD,zE,zF,zG,zH,zI,zJ,zK,HV.cells]; try exact rfl) ?_
   | refine r_calls (by simp (disch:=first|decide|(simp only[zF,zG];decide)) only [zA,zB,zC,zD,zE,zF,zG,zH,zI,zJ,zK,HV.cells]; try exact rfl) (by simp (disch:=first|decide|(simp only[zF,zG];decide)) only [List.map_cons,List.map_nil,List.nil_append,List.cons_append,List.append_nil,zA,zB,zC,zD,zE,zF,zG,zH,zI,zJ,zK,HV.cells]; try exact rfl) (c_Fault (by repeat' first|assumption|refine D.upd ?_ (by omega)|exact D.mono (by assumption) (by omega)) rfl hlen (Row.ext hrow (by repeat' first|assumption|refine Ext.put ?_ (by omega) (by omega)|exact Ext.up (by assumption) (by omega)|exact Ext.nx (by assumption) (by omega)))) (fun n' hn' => ?_)
  refine fin_r (by simp only [zL,zM]) (by simp (disch:=first|decide|(simp only[zF,zG];decide)) only [zA,zB,zC,zD,zE,zF,zG,zH,zI,zJ,zK,HV.cells]; try exact rfl) (sc_flat rfl (by dsimp only; omega) ?_); rfl
end Go.Hx

namespace Go.Hx
set_option linter.unusedSimpArgs false
set_option linter.unusedVariables false
set_option maxRecDepth 20000
set_option maxHeartbeats 4000000
attribute [local irreducible] W R C thenH inBlockH
/-- The heights of the first marks. -/
def HL (v : List Int) (k : Nat) : List Int := (List.range k).map (hgt v)
theorem HL_len (v : List Int) (k : Nat) : (HL v k).length = k := by simp [HL]
theorem HL_succ (v : List Int) (k : Nat) : HL v (k + 1) = HL v k ++ [hgt v k] := by simp [HL, List.range_succ]
theorem HL_get (v : List Int) {k i : Nat} (hi : i < k) : (HL v k)[i]? = some (hgt v i) := by simp [HL, List.getElem?_range hi]
/-- The first cells are numbers, the rest is free. -/
def HC (v : List Int) (k c : Nat) : List HV := (HL v k).flatMap ienc ++ List.replicate (c - k) (i64 0)
theorem ow_mid (v w : HV) : ∀ (A B : List HV), overwrite (A ++ w :: B) A.length [v] = some (A ++ v :: B)
  | [], B => by cases B <;> rfl
  | x :: A, B => by
    show (overwrite (A ++ w :: B) A.length [v]).map _ = _
    rw [ow_mid v w A B]; rfl
theorem HC_ow (v : List Int) {k c : Nat} (hk : k < c) : overwrite (HC v k c) (0 + k * 1) [i64 (hgt v k)] = some (HC v (k + 1) c) := by
  unfold HC
  have e1 : ((HL v k).flatMap ienc).length = k := by rw [flat_len ienc_len, HL_len]; omega
  rw [show c - k = (c - (k + 1)) + 1 by omega, List.replicate_succ, show 0 + k * 1 = ((HL v k).flatMap ienc).length by omega, ow_mid, HL_succ, List.flatMap_append]
  simp
/- 67 -/
theorem loop67 {fl : Nat} {h0 : Tr HBlk} {n0 : Nat} {Q : HExit → HAct → HS → Prop} {p : Option (Nat × Nat)} {v : List Int} {cp bk : Nat} (hlen : v.length < 1000000) (hfl : fl ≤ n0) (hbk : n0 ≤ bk) (hrow : Row ienc 1 h0 n0 p v) (hv : ∀ x ∈ v, -1000000 ≤ x ∧ x ≤ 1000000) :
    ∀ (m i : Nat) (a : HAct) (h : Tr HBlk) (nx : Nat), m + i = v.length → Ext h0 n0 h nx → bk < nx → h.get bk = some (.cells (HC v (i + 1) (v.length + 1)) .exact) → a.nt = 30 → a.defers = [] → a.tmp 3 = .slice (some (bk, 0)) (i + 1) (v.length + 1) → a.tmp 4 = i64 (hgt v i) → a.tmp 15 = .slice p v.length cp → a.tmp 16 = i64 v.length → a.tmp 17 = i64 i →
      (∀ a' h' n', Ext h0 n0 h' n' → bk < n' → h'.get bk = some (.cells (HC v (v.length + 1) (v.length + 1)) .exact) → a'.nt = 30 → a'.defers = [] → a'.tmp 3 = .slice (some (bk, 0)) (v.length + 1) (v.length + 1) → Q .normal a' ⟨h', n'⟩) → W LW fl none (.loop L67w0) (inBlockH 0 Q) a ⟨h, nx⟩
  | 0, i, a, h, nx, hm, he, hb1, hg1, hnt, hds, h3, h4, h15, h16, h17, hq => by
    have hle := he.le
    have hi : i = v.length := by omega
    subst hi
    refine w_it (show L67w0 = _ by unfold L67w0; exact rfl) ?_
    repeat' first
     | refine r_nil ?_
     | refine th_n ?_
     | refine th_r ?_
     | refine th_e ?_
     | refine ib_n ?_
     | refine ib_r ?_
     | refine ib_e ?_
     | refine ib_x (by decide) ?_
     | refine w_exit ?_
     | refine w_seq ?_
     | refine w_reg ?_
     | refine w_ret ?_
     | refine w_skip ?_
     | refine w_block ?_
     | refine w_t (by simp (disch:=first|decide|(simp only[zF,zG,hnt, h3, h4, h15, h16, h17];decide)) only [zA,zB,zC,zD,zE,zF,zG,zH,zI,zJ,zK,HV.cells,hnt, h3, h4, h15, h16, h17]; first|done|exact rfl) ?_
     | refine w_f (by simp (disch:=first|decide|(simp only[zF,zG,hnt, h3, h4, h15, h16, h17];decide)) only [zA,zB,zC,zD,zE,zF,zG,zH,zI,zJ,zK,HV.cells,hnt, h3, h4, h15, h16, h17]; first|done|exact rfl) ?_
     | refine r_move (by simp (disch:=first|decide|(simp only[zF,zG,hnt, h3, h4, h15, h16, h17];decide)) only [zA,zB,zC,zD,zE,zF,zG,zH,zI,zJ,zK,HV.cells,hnt, h3, h4, h15, h16, h17]; try exact rfl) ?_
     | refine r_ld1 (by simp (disch:=first|decide|(simp only[zF,zG,hnt, h3, h4, h15, h16, h17];decide)) only [zA,zB,zC,zD,zE,zF,zG,zH,zI,zJ,zK,HV.cells,hnt, h3, h4, h15, h16, h17]; try exact rfl) (by first|assumption|(simp (disch:=omega) only [get_same,get_other,hnt, h3, h4, h15, h16, h17]; first|done|exact rfl)) (by first|assumption|rfl|(simp only [zI,zJ,HV.cells,hnt, h3, h4, h15, h16, h17]; exact rfl)) ?_
     | refine r_add (by simp (disch:=first|decide|(simp only[zF,zG,hnt, h3, h4, h15, h16, h17];decide)) only [zA,zB,zC,zD,zE,zF,zG,zH,zI,zJ,zK,HV.cells,hnt, h3, h4, h15, h16, h17]; try exact rfl) (by simp (disch:=first|decide|(simp only[zF,zG,hnt, h3, h4, h15, h16, h17];decide)) only [zA,zB,zC,zD,zE,zF,zG,zH,zI,zJ,zK,HV.cells,hnt, h3, h4, h15, h16, h17]; try exact rfl) (by omega) (by omega) ?_
     | refine r_lss (by simp (disch:=first|decide|(simp only[zF,zG,hnt, h3, h4, h15, h16, h17];decide)) only [zA,zB,zC,zD,zE,zF,zG,zH,zI,zJ,zK,HV.cells,hnt, h3, h4, h15, h16, h17]; try exact rfl) (by simp (disch:=first|decide|(simp only[zF,zG,hnt, h3, h4, h15, h16, h17];decide)) only [zA,zB,zC,zD,zE,zF,zG,zH,zI,zJ,zK,HV.cells,hnt, h3, h4, h15, h16, h17]; try exact rfl) (fun hc => ?_) (fun hc => ?_) <;> (try (exfalso; omega))
     | refine r_len (by simp (disch:=first|decide|(simp only[zF,zG,hnt, h3, h4, h15, h16, h17];decide)) only [zA,zB,zC,zD,zE,zF,zG,zH,zI,zJ,zK,HV.cells,hnt, h3, h4, h15, h16, h17]; try exact rfl) ?_
     | refine r_ixs (by simp (disch:=first|decide|(simp only[zF,zG,hnt, h3, h4, h15, h16, h17];decide)) only [zA,zB,zC,zD,zE,zF,zG,zH,zI,zJ,zK,HV.cells,hnt, h3, h4, h15, h16, h17]; try exact rfl) (by simp (disch:=first|decide|(simp only[zF,zG,hnt, h3, h4, h15, h16, h17];decide)) only [zA,zB,zC,zD,zE,zF,zG,zH,zI,zJ,zK,HV.cells,hnt, h3, h4, h15, h16, h17]; try exact rfl) (by omega) ?_
     | refine r_bs (by simp (disch:=first|decide|(simp only[zF,zG,hnt, h3, h4, h15, h16, h17];decide)) only [evParts,List.map_cons,List.map_nil,List.nil_append,List.cons_append,List.append_nil,zA,zB,zC,zD,zE,zF,zG,zH,zI,zJ,zK,HV.cells,hnt, h3, h4, h15, h16, h17]; try exact rfl) ?_
    refine hq _ _ _ he hb1 hg1 ?_ ?_ ?_
    all_goals first|(simp only [zL,zM,zF,zG,hnt, hds, h3];done)|(simp (disch:=first|decide|(simp only[zF,zG,hnt, hds, h3];decide)) only [zA,zB,zC,zD,zE,zF,zG,zH,zI,zJ,zK,HV.cells,hnt, hds, h3];first|done|exact rfl)|assumption
  | m + 1, i, a, h, nx, hm, he, hb1, hg1, hnt, hds, h3, h4, h15, h16, h17, hq => by
    have hi : i < v.length := by omega
    have hrow0 := hrow.ext he
    obtain ⟨b, o, cs, kk, rfl, hb, hg, hcs⟩ := hrow0 (by intro e; rw [e] at hi; simp at hi)
    have hy : v[i]? = some v[i] := by simp [hi]
    have e0 := take_at (hcs i _ hy) (j := 0) rfl
    have hd := he.d
    have hle := he.le
    have bd := hgt_bd (B := 1000000) (by omega) hv i (by omega)
    have bd2 := hv v[i] (List.getElem_mem hi)
    have e5 := hgt_succ v i _ hy
    refine w_it (show L67w0 = _ by unfold L67w0; exact rfl) ?_
    repeat' first
     | refine r_nil ?_
     | refine th_n ?_
     | refine th_r ?_
     | refine th_e ?_
     | refine ib_n ?_
     | refine ib_r ?_
     | refine ib_e ?_
     | refine ib_x (by decide) ?_
     | refine w_exit ?_
     | refine w_seq ?_
     | refine w_reg ?_
     | refine w_ret ?_
     | refine w_skip ?_
     | refine w_block ?_
     | refine w_t (by simp (disch:=first|decide|(simp only[zF,zG,hnt, h3, h4, h15, h16, h17];decide)) only [zA,zB,zC,zD,zE,zF,zG,zH,zI,zJ,zK,HV.cells,hnt, h3, h4, h15, h16, h17]; first|done|exact rfl) ?_
     | refine w_f (by simp (disch:=first|decide|(simp only[zF,zG,hnt, h3, h4, h15, h16, h17];decide)) only [zA,zB,zC,zD,zE,zF,zG,zH,zI,zJ,zK,HV.cells,hnt, h3, h4, h15, h16, h17]; first|done|exact rfl) ?_
     | refine r_move (by simp (disch:=first|decide|(simp only[zF,zG,hnt, h3, h4, h15, h16, h17];decide)) only [zA,zB,zC,zD,zE,zF,zG,zH,zI,zJ,zK,HV.cells,hnt, h3, h4, h15, h16, h17]; try exact rfl) ?_
     | refine r_ld1 (by simp (disch:=first|decide|(simp only[zF,zG,hnt, h3, h4, h15, h16, h17];decide)) only [zA,zB,zC,zD,zE,zF,zG,zH,zI,zJ,zK,HV.cells,hnt, h3, h4, h15, h16, h17]; try exact rfl) (by first|assumption|(simp (disch:=omega) only [get_same,get_other,hnt, h3, h4, h15, h16, h17]; first|done|exact rfl)) (by first|assumption|rfl|(simp only [zI,zJ,HV.cells,hnt, h3, h4, h15, h16, h17]; exact rfl)) ?_
     | refine r_add (by simp (disch:=first|decide|(simp only[zF,zG,hnt, h3, h4, h15, h16, h17];decide)) only [zA,zB,zC,zD,zE,zF,zG,zH,zI,zJ,zK,HV.cells,hnt, h3, h4, h15, h16, h17]; try exact rfl) (by simp (disch:=first|decide|(simp only[zF,zG,hnt, h3, h4, h15, h16, h17];decide)) only [zA,zB,zC,zD,zE,zF,zG,zH,zI,zJ,zK,HV.cells,hnt, h3, h4, h15, h16, h17]; try exact rfl) (by omega) (by omega) ?_
     | refine r_lss (by simp (disch:=first|decide|(simp only[zF,zG,hnt, h3, h4, h15, h16, h17];decide)) only [zA,zB,zC,zD,zE,zF,zG,zH,zI,zJ,zK,HV.cells,hnt, h3, h4, h15, h16, h17]; try exact rfl) (by simp (disch:=first|decide|(simp only[zF,zG,hnt, h3, h4, h15, h16, h17];decide)) only [zA,zB,zC,zD,zE,zF,zG,zH,zI,zJ,zK,HV.cells,hnt, h3, h4, h15, h16, h17]; try exact rfl) (fun hc => ?_) (fun hc => ?_) <;> (try (exfalso; omega))
     | refine r_len (by simp (disch:=first|decide|(simp only[zF,zG,hnt, h3, h4, h15, h16, h17];decide)) only [zA,zB,zC,zD,zE,zF,zG,zH,zI,zJ,zK,HV.cells,hnt, h3, h4, h15, h16, h17]; try exact rfl) ?_
     | refine r_ixs (by simp (disch:=first|decide|(simp only[zF,zG,hnt, h3, h4, h15, h16, h17];decide)) only [zA,zB,zC,zD,zE,zF,zG,zH,zI,zJ,zK,HV.cells,hnt, h3, h4, h15, h16, h17]; try exact rfl) (by simp (disch:=first|decide|(simp only[zF,zG,hnt, h3, h4, h15, h16, h17];decide)) only [zA,zB,zC,zD,zE,zF,zG,zH,zI,zJ,zK,HV.cells,hnt, h3, h4, h15, h16, h17]; try exact rfl) (by omega) ?_
     | refine r_bs (by simp (disch:=first|decide|(simp only[zF,zG,hnt, h3, h4, h15, h16, h17];decide)) only [evParts,List.map_cons,List.map_nil,List.nil_append,List.cons_append,List.append_nil,zA,zB,zC,zD,zE,zF,zG,zH,zI,zJ,zK,HV.cells,hnt, h3, h4, h15, h16, h17]; try exact rfl) ?_
    rw [← e5]
    have ha := app_in (fl := fl) (size := 1) (bytes := 8) (nx := nx + 1) (h := h.set nx (some (.cells [i64 (hgt v (i + 1))] .exact))) (bx := nx) (ox := 0) (cx := 1) (n := 1) (b := bk) (o := 0) (k := i + 1) (z := v.length + 1) (row := [i64 (hgt v (i + 1))]) (k2 := .exact) (get_same _ _ _) rfl (by rw [get_other _ _ (by omega)]; exact hg1) True.intro (by omega) rfl (by simp) (by omega) (HC_ow v (by omega))
    refine r_app (by simp (disch:=first|decide|(simp only[zF,zG,hnt, h3];decide)) only [zA,zB,zC,zD,zE,zF,zG,zH,zI,zJ,zK,HV.cells,hnt, h3]; try exact rfl) (by simp (disch:=first|decide|(simp only[zF,zG,hnt];decide)) only [zA,zB,zC,zD,zE,zF,zG,zH,zI,zJ,zK,HV.cells,hnt]; try exact rfl) ha ?_
    repeat' first
     | refine r_nil ?_
     | refine th_n ?_
     | refine th_r ?_
     | refine th_e ?_
     | refine ib_n ?_
     | refine ib_r ?_
     | refine ib_e ?_
     | refine ib_x (by decide) ?_
     | refine w_exit ?_
     | refine w_seq ?_
     | refine w_reg ?_
     | refine w_ret ?_
     | refine w_skip ?_
     | refine w_block ?_
     | refine w_t (by simp (disch:=first|decide|(simp only[zF,zG,hnt, h15, h16, h17];decide)) only [zA,zB,zC,zD,zE,zF,zG,zH,zI,zJ,zK,HV.cells,hnt, h15, h16, h17]; first|done|exact rfl) ?_
     | refine w_f (by simp (disch:=first|decide|(simp only[zF,zG,hnt, h15, h16, h17];decide)) only [zA,zB,zC,zD,zE,zF,zG,zH,zI,zJ,zK,HV.cells,hnt, h15, h16, h17]; first|done|exact rfl) ?_
     | refine r_move (by simp (disch:=first|decide|(simp only[zF,zG,hnt, h15, h16, h17];decide)) only [zA,zB,zC,zD,zE,zF,zG,zH,zI,zJ,zK,HV.cells,hnt, h15, h16, h17]; try exact rfl) ?_
     | refine r_ld1 (by simp (disch:=first|decide|(simp only[zF,zG,hnt, h15, h16, h17];decide)) only [zA,zB,zC,zD,zE,zF,zG,zH,zI,zJ,zK,HV.cells,hnt, h15, h16, h17]; try exact rfl) (by first|assumption|(simp (disch:=omega) only [get_same,get_other,hnt, h15, h16, h17]; first|done|exact rfl)) (by first|assumption|rfl|(simp only [zI,zJ,HV.cells,hnt, h15, h16, h17]; exact rfl)) ?_
     | refine r_add (by simp (disch:=first|decide|(simp only[zF,zG,hnt, h15, h16, h17];decide)) only [zA,zB,zC,zD,zE,zF,zG,zH,zI,zJ,zK,HV.cells,hnt, h15, h16, h17]; try exact rfl) (by simp (disch:=first|decide|(simp only[zF,zG,hnt, h15, h16, h17];decide)) only [zA,zB,zC,zD,zE,zF,zG,zH,zI,zJ,zK,HV.cells,hnt, h15, h16, h17]; try exact rfl) (by omega) (by omega) ?_
     | refine r_lss (by simp (disch:=first|decide|(simp only[zF,zG,hnt, h15, h16, h17];decide)) only [zA,zB,zC,zD,zE,zF,zG,zH,zI,zJ,zK,HV.cells,hnt, h15, h16, h17]; try exact rfl) (by simp (disch:=first|decide|(simp only[zF,zG,hnt, h15, h16, h17];decide)) only [zA,zB,zC,zD,zE,zF,zG,zH,zI,zJ,zK,HV.cells,hnt, h15, h16, h17]; try exact rfl) (fun hc => ?_) (fun hc => ?_) <;> (try (exfalso; omega))
     | refine r_len (by simp (disch:=first|decide|(simp only[zF,zG,hnt, h15, h16, h17];decide)) only [zA,zB,zC,zD,zE,zF,zG,zH,zI,zJ,zK,HV.cells,hnt, h15, h16, h17]; try exact rfl) ?_
     | refine r_ixs (by simp (disch:=first|decide|(simp only[zF,zG,hnt, h15, h16, h17];decide)) only [zA,zB,zC,zD,zE,zF,zG,zH,zI,zJ,zK,HV.cells,hnt, h15, h16, h17]; try exact rfl) (by simp (disch:=first|decide|(simp only[zF,zG,hnt, h15, h16, h17];decide)) only [zA,zB,zC,zD,zE,zF,zG,zH,zI,zJ,zK,HV.cells,hnt, h15, h16, h17]; try exact rfl) (by omega) ?_
     | refine r_bs (by simp (disch:=first|decide|(simp only[zF,zG,hnt, h15, h16, h17];decide)) only [evParts,List.map_cons,List.map_nil,List.nil_append,List.cons_append,List.append_nil,zA,zB,zC,zD,zE,zF,zG,zH,zI,zJ,zK,HV.cells,hnt, h15, h16, h17]; try exact rfl) ?_
    refine loop67 (cp := cp) hlen hfl hbk hrow hv m (i + 1) _ _ _ (by omega) (by repeat' first|assumption|refine Ext.put ?_ (by omega) (by omega)|exact Ext.up (by assumption) (by omega)|exact Ext.nx (by assumption) (by omega)) (by omega) (get_same _ _ _) ?_ ?_ ?_ ?_ ?_ ?_ ?_ hq
    all_goals first|(simp only [zL,zM,zF,zG,hnt, hds, h15, h16, h17];done)|(simp (disch:=first|decide|(simp only[zF,zG,hnt, hds, h15, h16, h17];decide)) only [zA,zB,zC,zD,zE,zF,zG,zH,zI,zJ,zK,HV.cells,hnt, hds, h15, h16, h17];first|done|exact rfl)|assumption
theorem c_heightsOf {fl : Nat} {h : Tr HBlk} {nx : Nat} (hd : D h nx) {p : Option (Nat × Nat)} {v : List Int} {n cp : Nat} (hn : n = v.length) (hlen : v.length < 1000) (hrow : Row ienc 1 h nx p v) (hv : ∀ x ∈ v, -1000000 ≤ x ∧ x ≤ 1000000) :
    C LW fl 67 [.slice p n cp] ⟨h, nx⟩ (ScL ienc 1 (HL v (v.length + 1)) ⟨h, nx⟩) := by
  subst hn
  refine c_in lw67 rfl rfl rfl ?_
  dsimp only [L67]
  repeat' first
   | refine r_nil ?_
   | refine th_n ?_
   | refine th_r ?_
   | refine th_e ?_
   | refine ib_n ?_
   | refine ib_r ?_
   | refine ib_e ?_
   | refine ib_x (by decide) ?_
   | refine w_exit ?_
   | refine w_seq ?_
   | refine w_reg ?_
   | refine w_ret ?_
   | refine w_skip ?_
   | refine w_block ?_
   | refine w_t (by simp (disch:=first|decide|(simp only[zF,zG];decide)) only [zA,zB,zC,zD,zE,zF,zG,zH,zI,zJ,zK,HV.cells]; first|done|exact rfl) ?_
   | refine w_f (by simp (disch:=first|decide|(simp only[zF,zG];decide)) only [zA,zB,zC,zD,zE,zF,zG,zH,zI,zJ,zK,HV.cells]; first|done|exact rfl) ?_
   | refine r_move (by simp (disch:=first|decide|(simp only[zF,zG];decide)) only [zA,zB,zC,zD,zE,zF,zG,zH,zI,zJ,zK,HV.cells]; try exact rfl) ?_
   | refine r_ld1 (by simp (disch:=first|decide|(simp only[zF,zG];decide)) only [zA,zB,zC,zD,zE,zF,zG,zH,zI,zJ,zK,HV.cells]; try exact rfl) (by first|assumption|(simp (disch:=omega) only [get_same,get_other]; first|done|exact rfl)) (by first|assumption|rfl|(simp only [zI,zJ,HV.cells]; exact rfl)) ?_
   | refine r_add (by simp (disch:=first|decide|(simp only[zF,zG];decide)) only [zA,zB,zC,zD,zE,zF,zG,zH,zI,zJ,zK,HV.cells]; try exact rfl) (by simp (disch:=first|decide|(simp only[zF,zG];decide)) only [zA,zB,zC,zD,zE,zF,zG,zH,zI,zJ,zK,HV.cells]; try exact rfl) (by omega) (by omega) ?_
   | refine r_lss (by simp (disch:=first|decide|(simp only[zF,zG];decide)) only [zA,zB,zC,zD,zE,zF,zG,zH,zI,zJ,zK,HV.cells]; try exact rfl) (by simp (disch:=first|decide|(simp only[zF,zG];decide)) only [zA,zB,zC,zD,zE,zF,zG,zH,zI,zJ,zK,HV.cells]; try exact rfl) (fun hc => ?_) (fun hc => ?_) <;> (try (exfalso; omega))
   | refine r_len (by simp (disch:=first|decide|(simp only[zF,zG];decide)) only [zA,zB,zC,zD,zE,zF,zG,zH,zI,zJ,zK,HV.cells]; try exact rfl) ?_
   | refine r_ixs (by simp (disch:=first|decide|(simp only[zF,zG];decide)) only [zA,zB,zC,zD,zE,zF,zG,zH,zI,zJ,zK,HV.cells]; try exact rfl) (by simp (disch:=first|decide|(simp only[zF,zG];decide)) only [zA,zB,zC,zD,zE,zF,zG,zH,zI,zJ,zK,HV.cells]; try exact rfl) (by omega) ?_
   | refine r_bs (by simp (disch:=first|decide|(simp only[zF,zG];decide)) only [evParts,List.map_cons,List.map_nil,List.nil_append,List.cons_append,List.append_nil,zA,zB,zC,zD,zE,zF,zG,zH,zI,zJ,zK,HV.cells]; try exact rfl) ?_
  refine r_ms (ln := 0) (cn := v.length + 1) (by simp (disch:=first|decide|(simp only[zF,zG];decide)) only [zA,zB,zC,zD,zE,zF,zG,zH,zI,zJ,zK,HV.cells]; try exact rfl) (by simp (disch:=first|decide|(simp only[zF,zG];decide)) only [zA,zB,zC,zD,zE,zF,zG,zH,zI,zJ,zK,HV.cells]; try exact rfl) (by omega) (by omega) (by omega) ?_
  rw [repl_one, show List.replicate (v.length + 1) (i64 0) = HC v 0 (v.length + 1) from rfl]
  have ha := app_in (fl := nx) (size := 1) (bytes := 8) (nx := nx + 1 + 1) (h := (h.set nx (some (.cells (HC v 0 (v.length + 1)) .exact))).set (nx + 1) (some (.cells [i64 (hgt v 0)] .exact))) (bx := nx + 1) (ox := 0) (cx := 1) (n := 1) (b := nx) (o := 0) (k := 0) (z := v.length + 1) (row := [i64 (hgt v 0)]) (k2 := .exact) (get_same _ _ _) rfl (by rw [get_other _ _ (by omega), get_same]) True.intro (by omega) rfl (by simp) (by omega) (HC_ow v (by omega))
  rw [hgt_zero] at ha
  repeat' first
   | refine r_nil ?_
   | refine th_n ?_
   | refine th_r ?_
   | refine th_e ?_
   | refine ib_n ?_
   | refine ib_r ?_
   | refine ib_e ?_
   | refine ib_x (by decide) ?_
   | refine w_exit ?_
   | refine w_seq ?_
   | refine w_reg ?_
   | refine w_ret ?_
   | refine w_skip ?_
   | refine w_block ?_
   | refine w_t (by simp (disch:=first|decide|(simp only[zF,zG];decide)) only [zA,zB,zC,zD,zE,zF,zG,zH,zI,zJ,zK,HV.cells]; first|done|exact rfl) ?_
   | refine w_f (by simp (disch:=first|decide|(simp only[zF,zG];decide)) only [zA,zB,zC,zD,zE,zF,zG,zH,zI,zJ,zK,HV.cells]; first|done|exact rfl) ?_
   | refine r_move (by simp (disch:=first|decide|(simp only[zF,zG];decide)) only [zA,zB,zC,zD,zE,zF,zG,zH,zI,zJ,zK,HV.cells]; try exact rfl) ?_
   | refine r_ld1 (by simp (disch:=first|decide|(simp only[zF,zG];decide)) only [zA,zB,zC,zD,zE,zF,zG,zH,zI,zJ,zK,HV.cells]; try exact rfl) (by first|assumption|(simp (disch:=omega) only [get_same,get_other]; first|done|exact rfl)) (by first|assumption|rfl|(simp only [zI,zJ,HV.cells]; exact rfl)) ?_
   | refine r_add (by simp (disch:=first|decide|(simp only[zF,zG];decide)) only [zA,zB,zC,zD,zE,zF,zG,zH,zI,zJ,zK,HV.cells]; try exact rfl) (by simp (disch:=first|decide|(simp only[zF,zG];decide)) only [zA,zB,zC,zD,zE,zF,zG,zH,zI,zJ,zK,HV.cells]; try exact rfl) (by omega) (by omega) ?_
   | refine r_lss (by simp (disch:=first|decide|(simp only[zF,zG];decide)) only [zA,zB,zC,zD,zE,zF,zG,zH,zI,zJ,zK,HV.cells]; try exact rfl) (by simp (disch:=first|decide|(simp only[zF,zG];decide)) only [zA,zB,zC,zD,zE,zF,zG,zH,zI,zJ,zK,HV.cells]; try exact rfl) (fun hc => ?_) (fun hc => ?_) <;> (try (exfalso; omega))
   | refine r_len (by simp (disch:=first|decide|(simp only[zF,zG];decide)) only [zA,zB,zC,zD,zE,zF,zG,zH,zI,zJ,zK,HV.cells]; try exact rfl) ?_
   | refine r_ixs (by simp (disch:=first|decide|(simp only[zF,zG];decide)) only [zA,zB,zC,zD,zE,zF,zG,zH,zI,zJ,zK,HV.cells]; try exact rfl) (by simp (disch:=first|decide|(simp only[zF,zG];decide)) only [zA,zB,zC,zD,zE,zF,zG,zH,zI,zJ,zK,HV.cells]; try exact rfl) (by omega) ?_
   | refine r_bs (by simp (disch:=first|decide|(simp only[zF,zG];decide)) only [evParts,List.map_cons,List.map_nil,List.nil_append,List.cons_append,List.append_nil,zA,zB,zC,zD,zE,zF,zG,zH,zI,zJ,zK,HV.cells]; try exact rfl) ?_
  refine r_app (by simp (disch:=first|decide|(simp only[zF,zG];decide)) only [zA,zB,zC,zD,zE,zF,zG,zH,zI,zJ,zK,HV.cells]; try exact rfl) (by simp (disch:=first|decide|(simp only[zF,zG];decide)) only [zA,zB,zC,zD,zE,zF,zG,zH,zI,zJ,zK,HV.cells]; try exact rfl) ha ?_
  repeat' first
   | refine r_nil ?_
   | refine th_n ?_
   | refine th_r ?_
   | refine th_e ?_
   | refine ib_n ?_
   | refine ib_r ?_
   | refine ib_e ?_
   | refine ib_x (by decide) ?_
   | refine w_exit ?_
   | refine w_seq ?_
   | refine w_reg ?_
   | refine w_ret ?_
   | refine w_skip ?_
   | refine w_block ?_
   | refine w_t (by simp (disch:=first|decide|(simp only[zF,zG];decide)) only [zA,zB,zC,zD,zE,zF,zG,zH,zI,zJ,zK,HV.cells]; first|done|exact rfl) ?_
   | refine w_f (by simp (disch:=first|decide|(simp only[zF,zG];decide)) only [zA,zB,zC,zD,zE,zF,zG,zH,zI,zJ,zK,HV.cells]; first|done|exact rfl) ?_
   | refine r_move (by simp (disch:=first|decide|(simp only[zF,zG];decide)) only [zA,zB,zC,zD,zE,zF,zG,zH,zI,zJ,zK,HV.cells]; try exact rfl) ?_
   | refine r_ld1 (by simp (disch:=first|decide|(simp only[zF,zG];decide)) only [zA,zB,zC,zD,zE,zF,zG,zH,zI,zJ,zK,HV.cells]; try exact rfl) (by first|assumption|(simp (disch:=omega) only [get_same,get_other]; first|done|exact rfl)) (by first|assumption|rfl|(simp only [zI,zJ,HV.cells]; exact rfl)) ?_
   | refine r_add (by simp (disch:=first|decide|(simp only[zF,zG];decide)) only [zA,zB,zC,zD,zE,zF,zG,zH,zI,zJ,zK,HV.cells]; try exact rfl) (by simp (disch:=first|decide|(simp only[zF,zG];decide)) only [zA,zB,zC,zD,zE,zF,zG,zH,zI,zJ,zK,HV.cells]; try exact rfl) (by omega) (by omega) ?_
   | refine r_lss (by simp (disch:=first|decide|(simp only[zF,zG];decide)) only [zA,zB,zC,zD,zE,zF,zG,zH,zI,zJ,zK,HV.cells]; try exact rfl) (by simp (disch:=first|decide|(simp only[zF,zG];decide)) only [zA,zB,zC,zD,zE,zF,zG,zH,zI,zJ,zK,HV.cells]; try exact rfl) (fun hc => ?_) (fun hc => ?_) <;> (try (exfalso; omega))
   | refine r_len (by simp (disch:=first|decide|(simp only[zF,zG];decide)) only [zA,zB,zC,zD,zE,zF,zG,zH,zI,zJ,zK,HV.cells]; try exact rfl) ?_
   | refine r_ixs (by simp (disch:=first|decide|(simp only[zF,zG];decide)) only [zA,zB,zC,zD,zE,zF,zG,zH,zI,zJ,zK,HV.cells]; try exact rfl) (by simp (disch:=first|decide|(simp only[zF,zG];decide)) only [zA,zB,zC,zD,zE,zF,zG,zH,zI,zJ,zK,HV.cells]; try exact rfl) (by omega) ?_
   | refine r_bs (by simp (disch:=first|decide|(simp only[zF,zG];decide)) only [evParts,List.map_cons,List.map_nil,List.nil_append,List.cons_append,List.append_nil,zA,zB,zC,zD,zE,zF,zG,zH,zI,zJ,zK,HV.cells]; try exact rfl) ?_
  refine loop67 (cp := cp) (bk := nx) (by omega) (Nat.le_refl _) (Nat.le_refl _) hrow hv v.length 0 _ _ _ (by omega) ((Ext.refl hd).up (by omega) |>.put (by omega) (by omega) |>.put (by omega) (by omega) |>.put (by omega) (by omega)) (by omega) (get_same _ _ _) ?_ ?_ ?_ ?_ ?_ ?_ ?_ (fun a' h' n2 g1 g2 g3 g4 g5 g6 => ?_)
  all_goals try first|(simp only [zL,zM,zF,zG];done)|(simp (disch:=first|decide|(simp only[zF,zG];decide)) only [zA,zB,zC,zD,zE,zF,zG,zH,zI,zJ,zK,HV.cells];first|done|exact rfl)|assumption
  all_goals try (rw [hgt_zero]; first|(simp only [zL,zM,zF,zG];done)|(simp (disch:=first|decide|(simp only[zF,zG];decide)) only [zA,zB,zC,zD,zE,zF,zG,zH,zI,zJ,zK,HV.cells];first|done|exact rfl)|assumption)
  have hle := g1.le
  repeat' first
   | refine r_nil ?_
   | refine th_n ?_
   | refine th_r ?_
   | refine th_e ?_
   | refine ib_n ?_
   | refine ib_r ?_
   | refine ib_e ?_
   | refine ib_x (by decide) ?_
   | refine w_exit ?_
   | refine w_seq ?_
   | refine w_reg ?_
   | refine w_ret ?_
   | refine w_skip ?_
   | refine w_block ?_
   | refine w_t (by simp (disch:=first|decide|(simp only[zF,zG,g4, g6];decide)) only [zA,zB,zC,zD,zE,zF,zG,zH,zI,zJ,zK,HV.cells,g4, g6]; first|done|exact rfl) ?_
   | refine w_f (by simp (disch:=first|decide|(simp only[zF,zG,g4, g6];decide)) only [zA,zB,zC,zD,zE,zF,zG,zH,zI,zJ,zK,HV.cells,g4, g6]; first|done|exact rfl) ?_
   | refine r_move (by simp (disch:=first|decide|(simp only[zF,zG,g4, g6];decide)) only [zA,zB,zC,zD,zE,zF,zG,zH,zI,zJ,zK,HV.cells,g4, g6]; try exact rfl) ?_
   | refine r_ld1 (by simp (disch:=first|decide|(simp only[zF,zG,g4, g6];decide)) only [zA,zB,zC,zD,zE,zF,zG,zH,zI,zJ,zK,HV.cells,g4, g6]; try exact rfl) (by first|assumption|(simp (disch:=omega) only [get_same,get_other,g4, g6]; first|done|exact rfl)) (by first|assumption|rfl|(simp only [zI,zJ,HV.cells,g4, g6]; exact rfl)) ?_
   | refine r_add (by simp (disch:=first|decide|(simp only[zF,zG,g4, g6];decide)) only [zA,zB,zC,zD,zE,zF,zG,zH,zI,zJ,zK,HV.cells,g4, g6]; try exact rfl) (by simp (disch:=first|decide|(simp only[zF,zG,g4, g6];decide)) only [zA,zB,zC,zD,zE,zF,zG,zH,zI,zJ,zK,HV.cells,g4, g6]; try exact rfl) (by omega) (by omega) ?_
   | refine r_lss (by simp (disch:=first|decide|(simp only[zF,zG,g4, g6];decide)) only [zA,zB,zC,zD,zE,zF,zG,zH,zI,zJ,zK,HV.cells,g4, g6]; try exact rfl) (by simp (disch:=first|decide|(simp only[zF,zG,g4, g6];decide)) only [zA,zB,zC,zD,zE,zF,zG,zH,zI,zJ,zK,HV.cells,g4, g6]; try exact rfl) (fun hc => ?_) (fun hc => ?_) <;> (try (exfalso; omega))
   | refine r_len (by simp (disch:=first|decide|(simp only[zF,zG,g4, g6];decide)) only [zA,zB,zC,zD,zE,zF,zG,zH,zI,zJ,zK,HV.cells,g4, g6]; try exact rfl) ?_
   | refine r_ixs (by simp (disch:=first|decide|(simp only[zF,zG,g4, g6];decide)) only [zA,zB,zC,zD,zE,zF,zG,zH,zI,zJ,zK,HV.cells,g4, g6]; try exact rfl) (by simp (disch:=first|decide|(simp only[zF,zG,g4, g6];decide)) only [zA,zB,zC,zD,zE,zF,zG,zH,zI,zJ,zK,HV.cells,g4, g6]; try exact rfl) (by omega) ?_
   | refine r_bs (by simp (disch:=first|decide|(simp only[zF,zG,g4, g6];decide)) only [evParts,List.map_cons,List.map_nil,List.nil_append,List.cons_append,List.append_nil,zA,zB,zC,zD,zE,zF,zG,zH,zI,zJ,zK,HV.cells,g4, g6]; try exact rfl) ?_
  refine fin_r (by simp only [zL, g5]) (by simp (disch:=first|decide|(simp only[zF,zG,g4, g6];decide)) only [zA,zB,zC,zD,zE,zF,zG,zH,zI,zJ,zK,HV.cells,g4, g6]; try exact rfl) ?_
  have := scl_blk (c := v.length + 1) (l := HL v (v.length + 1)) (rest := []) (k := .exact) ienc_len ienc_flat rfl hd (Nat.le_refl nx) g2 (by rw [g3]; unfold HC; simp)
  rwa [HL_len] at this
end Go.Hx

