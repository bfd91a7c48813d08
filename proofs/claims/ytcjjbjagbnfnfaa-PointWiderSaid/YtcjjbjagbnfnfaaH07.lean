/- Walks of the plain machine: a range over a function: the call that it is, and each round that 'yield' runs. -/
import Derived.Test.YtcjjbjagbnfnfaaH05
import Derived.Test.YtcjjbjagbnfnfaaH06
import Derived.ProofKit
set_option linter.all false
/- Walks of the plain machine: a range over a function: the call that it is, and each round that 'yield' runs. -/
namespace Go.Hx
variable {lp : Nat → Option LFunc} {fl : Nat} {Q : HExit → HAct → HS → Prop} {N : HAct → HS → Prop} {a : HAct} {h : Tr HBlk} {nx : Nat} {os : List LOper} {dst : Option Nat} {anc : List Nat}
theorem w_range {f : Lo} {ps : List Nat} {assign body : LCode} {g : Nat} {first captured : List HV} {K : HV → HS → Prop} (hf : a.ev f = .func g first captured)
    (hc : C lp fl g (first ++ [.yield (nx + 1)] ++ captured) ⟨(h.set nx (some .marks)).set (nx + 1) (some (.loop ⟨.ready, .normal, a.nt, a.tmps, ps, assign, body, nx⟩)), nx + 1 + 1⟩ K)
    (hk : ∀ v σ', K v σ' → ∃ r, σ'.h.get (nx + 1) = some (.loop r) ∧ r.state ≠ .busy ∧ fl ≤ nx + 1 ∧ Q r.pending { a with defers := [nx] ++ a.defers } ⟨σ'.h.set (nx + 1) (some (.loop { r with state := .exhausted })), σ'.nx⟩) :
    W lp fl none (.rangeFunc f ps assign body) Q a ⟨h, nx⟩ := by
  obtain ⟨n, v, σ', h1, h2⟩ := hc
  obtain ⟨r, g1, g2, g3, g4⟩ := hk v σ' h2
  refine ⟨n + 1, r.pending, _, _, ?_, g4⟩
  show xRange lp (exec lp n) fl none f ps assign body a ⟨h, nx⟩ = _
  unfold xRange
  rw [hf]
  show (match callF lp (exec lp n) fl g (first ++ [.yield (nx + 1)] ++ captured) ⟨(h.set nx (some .marks)).set (nx + 1) (some (.loop ⟨.ready, .normal, a.nt, a.tmps, ps, assign, body, nx⟩)), nx + 1 + 1⟩ with | some (_, σ') => endLoopH fl (nx + 1) [nx] a σ' | none => none) = _
  rw [h1]
  show endLoopH fl (nx + 1) [nx] a σ' = _
  unfold endLoopH
  rw [g1]
  have b : Nat.ble fl (nx + 1) = true := ble_t' g3
  cases e : r.state with
  | busy => exact absurd e g2
  | ready => simp only [e, b, cond_true]; rfl
  | done => simp only [e, b, cond_true]; rfl
  | exhausted => simp only [e, b, cond_true]; rfl
/-- Behind the body of a round. -/
def YB (lp : Nat → Option LFunc) (fl l : Nat) (os : List LOper) (N : HAct → HS → Prop) (a : HAct) (dst : Option Nat) : HExit → HAct → HS → Prop := fun e _ σ2 =>
  ∃ r2, σ2.h.get l = some (.loop r2) ∧ (e = .normal → R lp fl os N (a.put dst (.bool true)) ⟨σ2.h.set l (some (.loop { r2 with state := .ready, pending := .normal })), σ2.nx⟩) ∧
    (e ≠ .normal → R lp fl os N (a.put dst (.bool false)) ⟨σ2.h.set l (some (.loop { r2 with state := .done, pending := e })), σ2.nx⟩)
/-- Behind what a round's variables are given. -/
def YA (lp : Nat → Option LFunc) (fl l : Nat) (body : LCode) (os : List LOper) (N : HAct → HS → Prop) (a : HAct) (dst : Option Nat) : HExit → HAct → HS → Prop := fun e a1 σ1 =>
  e = .normal ∧ ∃ r1, σ1.h.get l = some (.loop r1) ∧ r1.state = .ready ∧ fl ≤ l ∧ W lp fl (some l) body (YB lp fl l os N a dst) a1 ⟨σ1.h.set l (some (.loop { r1 with state := .busy })), σ1.nx⟩
theorem r_yield {f : Lo} {xs : List Lo} {l : Nat} {r : HLoop} {args : List HV} {tmps : Tr HV} (hf : a.ev f = .yield l) (ha : xs.map a.ev = args) (hg : h.get l = some (.loop r)) (hz : zipPut r.nt r.tmps r.params args = some tmps)
    (hw : W lp fl (some l) r.assign (YA lp fl l r.body os N a dst) ⟨r.nt, tmps, []⟩ ⟨h, nx⟩) : R lp fl (⟨dst, .call f xs, none, anc⟩ :: os) N a ⟨h, nx⟩ := by
  obtain ⟨n1, e1, a1, σ1, w1, rfl, r1, g1, g2, g3, n2, e2, a2, σ2, w2, r2, q1, q2, q3⟩ := hw
  have b : Nat.ble fl l = true := ble_t' g3
  have key : ∀ m, n1 ≤ m → n2 ≤ m → opH lp (exec lp m) fl (.call f xs) a ⟨h, nx⟩ = endRoundH l e2 σ2 := fun m m1 m2 => by
    show callH lp (exec lp m) fl (a.ev f) (xs.map a.ev) ⟨h, nx⟩ = _
    rw [hf, ha]
    show roundH (exec lp m) fl l args ⟨h, nx⟩ = _
    unfold roundH
    simp only [hg, hz]
    rw [exec_mon m1 _ _ _ _ _ _ w1]
    simp only
    have eb : beginRoundH fl l σ1 = some ⟨σ1.h.set l (some (.loop { r1 with state := .busy })), σ1.nx⟩ := by
      unfold beginRoundH
      simp only [g1, g2, b, cond_true]
      rfl
    rw [eb]
    simp only
    rw [exec_mon m2 _ _ _ _ _ _ w2]
  by_cases he : e2 = .normal
  · obtain ⟨n3, a3, σ3, w3, w4⟩ := q2 he
    subst he
    refine ⟨max n1 (max n2 n3), a3, σ3, ?_, w4⟩
    have k := key (max n1 (max n2 n3)) (by omega) (by omega)
    have ee : endRoundH l .normal σ2 = some (.bool true, ⟨σ2.h.set l (some (.loop { r2 with state := .ready, pending := .normal })), σ2.nx⟩) := by
      unfold endRoundH
      simp only [q1]
      rfl
    rw [ee] at k
    unfold runOps stepOp
    show (match (match opH lp (exec lp (max n1 (max n2 n3))) fl (.call f xs) a ⟨h, nx⟩ with | some (v, σ) => some (a.put dst v, σ) | none => none) with | some (a, σ) => runOps lp (exec lp (max n1 (max n2 n3))) fl os a σ | none => none) = _
    rw [k]
    exact runOps_mon (exec_mon (by omega)) w3
  · obtain ⟨n3, a3, σ3, w3, w4⟩ := q3 he
    refine ⟨max n1 (max n2 n3), a3, σ3, ?_, w4⟩
    have k := key (max n1 (max n2 n3)) (by omega) (by omega)
    have ee : endRoundH l e2 σ2 = some (.bool false, ⟨σ2.h.set l (some (.loop { r2 with state := .done, pending := e2 })), σ2.nx⟩) := by
      unfold endRoundH
      simp only [q1]
      cases e2 with
      | normal => exact absurd rfl he
      | exit i => rfl
      | ret => rfl
    rw [ee] at k
    unfold runOps stepOp
    show (match (match opH lp (exec lp (max n1 (max n2 n3))) fl (.call f xs) a ⟨h, nx⟩ with | some (v, σ) => some (a.put dst v, σ) | none => none) with | some (a, σ) => runOps lp (exec lp (max n1 (max n2 n3))) fl os a σ | none => none) = _
    rw [k]
    exact runOps_mon (exec_mon (by omega)) w3
/-- Leaving behind a range over a function: its mark goes. -/
theorem leave_mark {res : List LRes} {vs : List HV} {m : Nat} (hd : a.defers = [m]) (hg : h.get m = some .marks) (hm : fl ≤ m) (hr : resH a ⟨h.set m none, nx⟩ res = some vs) : leaveH fl a res ⟨h, nx⟩ = some (oneOf vs, ⟨h.set m none, nx⟩) := by
  unfold leaveH
  rw [hd]
  have b : Nat.ble fl m = true := ble_t' hm
  have e : takeMarks fl [m] ⟨h, nx⟩ = some ⟨h.set m none, nx⟩ := by
    unfold takeMarks
    simp only [hg, b, cond_true]
    rfl
  rw [e]
  simp only [hr]
end Go.Hx

/- Layer 3: the function that ranges over the steps around a pressure. -/
namespace Go.Hx
set_option linter.unusedSimpArgs false
set_option linter.unusedVariables false
set_option maxRecDepth 20000
set_option maxHeartbeats 4000000
attribute [local irreducible] W R C thenH inBlockH
--dropu
theorem keepV_ptr {h1 h : Tr HBlk} {nx b o d : Nat} {cs : List HV} {bk : BK} (hg : h1.get b = some (.cells cs bk)) (hs : b < nx → h.get b = h1.get b) : (keepV h1 nx (keepD h1 nx d) h (.ptr (some (b, o)))).get b = h1.get b := by
  show (bif Nat.blt b nx then h else (match h1.get b with | some (.cells cs bk) => keepD h1 nx d cs (h.set b (some (.cells cs bk))) | _ => h)).get b = _
  cases e : Nat.blt b nx with
  | true => rw [Nat.blt_eq] at e; exact hs e
  | false =>
    simp only [cond_false, hg]
    rw [← hg]
    exact keepD_has d cs _ (by rw [get_same])
/-- A function with two places that it has captured is kept with them. -/
theorem gc_func2 {h0 h : Tr HBlk} {n0 nx f b1 b2 o1 o2 : Nat} {c1 c2 : List HV} {k1 k2 : BK} (hd0 : D h0 n0) (e : Ext h0 n0 h nx) (h1 : n0 ≤ b1) (h2 : n0 ≤ b2) (g1 : h.get b1 = some (.cells c1 k1)) (g2 : h.get b2 = some (.cells c2 k2)) :
    ∃ h', gcH ⟨h0, n0⟩ ⟨h, nx⟩ (.func f [] [.ptr (some (b1, o1)), .ptr (some (b2, o2))]) = ⟨h', nx⟩ ∧ Ext h0 n0 h' nx ∧ h'.get b1 = some (.cells c1 k1) ∧ h'.get b2 = some (.cells c2 k2) := by
  obtain ⟨h', q1, q2⟩ := gc_ext hd0 e (.func f [] [.ptr (some (b1, o1)), .ptr (some (b2, o2))])
  have e1 : h' = keepD h n0 5 [.func f [] [.ptr (some (b1, o1)), .ptr (some (b2, o2))]] h0 := by
    have : (⟨h', nx⟩ : HS).h = (gcH ⟨h0, n0⟩ ⟨h, nx⟩ (.func f [] [.ptr (some (b1, o1)), .ptr (some (b2, o2))])).h := by rw [q1]
    exact this
  have e2 : h' = keepV h n0 (keepD h n0 3) (keepV h n0 (keepD h n0 3) h0 (.ptr (some (b1, o1)))) (.ptr (some (b2, o2))) := by rw [e1]; rfl
  refine ⟨h', q1, q2, ?_, ?_⟩
  · rw [e2, ← g1]
    exact keepV_has (keepD_has 3) (keepV_ptr g1 fun hlt => by omega) _
  · rw [e2, ← g2]
    exact keepV_ptr g2 fun hlt => by omega
/- 90 -/
theorem c_around {fl : Nat} {h : Tr HBlk} {nx : Nat} (hd : D h nx) {p : Option (Nat × Nat)} {n cp : Nat} {x : Int} :
    C LW fl 90 [.slice p n cp, i64 x] ⟨h, nx⟩ (fun v σ' => ∃ h' n', v = .func 102 [] [.ptr (some (nx, 0)), .ptr (some (nx + 1, 0))] ∧ σ' = ⟨h', n'⟩ ∧ Ext h nx h' n' ∧ nx + 2 ≤ n' ∧ h'.get nx = some (.cells [.slice p n cp] .exact) ∧ h'.get (nx + 1) = some (.cells [i64 x] .exact)) := by
  refine c_in lw90 rfl rfl rfl ?_
  dsimp only [L90]
  repeat' first
   | refine r_nil ?_
   | refine th_n ?_
   | refine th_r ?_
   | refine w_seq ?_
   | refine w_reg ?_
   | refine w_ret ?_
   | refine w_skip ?_
   | refine r_move (by simp (disch:=first|decide|(simp only[zF,zG];decide)) only [zA,zB,zC,zD,zE,zF,zG,zH,zI,zJ,zK,HV.cells,fl0,fl2,flS,flS1,flI1,flU1,flU2,flF]; try exact rfl) ?_
   | refine r_box (by simp (disch:=first|decide|(simp only[zF,zG];decide)) only [zA,zB,zC,zD,zE,zF,zG,zH,zI,zJ,zK,HV.cells,fl0,fl2,flS,flS1,flI1,flU1,flU2,flF]; try exact rfl) ?_
   | refine r_mf (by simp (disch:=first|decide|(simp only[zF,zG];decide)) only [List.map_cons,List.map_nil,List.nil_append,List.cons_append,List.append_nil,zA,zB,zC,zD,zE,zF,zG,zH,zI,zJ,zK,HV.cells,fl0,fl2,flS,flS1,flI1,flU1,flU2,flF]; first|done|exact rfl) (by simp (disch:=first|decide|(simp only[zF,zG];decide)) only [List.map_cons,List.map_nil,List.nil_append,List.cons_append,List.append_nil,zA,zB,zC,zD,zE,zF,zG,zH,zI,zJ,zK,HV.cells,fl0,fl2,flS,flS1,flI1,flU1,flU2,flF]; first|done|exact rfl) ?_
   | fail
  refine fin_r (by simp only [zL,zM]) (by simp (disch:=first|decide|(simp only[zF,zG];decide)) only [zA,zB,zC,zD,zE,zF,zG,zH,zI,zJ,zK,HV.cells,fl0,fl2,flS,flS1,flI1,flU1,flU2,flF]; try exact rfl) ?_
  obtain ⟨h', g1, g2, g3, g4⟩ := gc_func2 (f := 102) (o1 := 0) (o2 := 0) (b1 := nx) (b2 := nx + 1) (c1 := [.slice p n cp]) (c2 := [i64 x]) (k1 := .exact) (k2 := .exact) hd (h := (h.set nx (some (.cells [.slice p n cp] .exact))).set (nx + 1) (some (.cells [i64 x] .exact))) (nx := nx + 1 + 1) (by repeat' first|assumption|refine Ext.put ?_ (by omega) (by omega)|exact Ext.up (by assumption) (by omega)|exact Ext.nx (by assumption) (by omega)) (by omega) (by omega) (by first|assumption|(simp (disch:=omega) only [get_same,get_other]; first|done|exact rfl)) (by first|assumption|(simp (disch:=omega) only [get_same,get_other]; first|done|exact rfl))
  exact ⟨h', nx + 1 + 1, rfl, g1, g2, by omega, g3, g4⟩
end Go.Hx

/- Layer 3: the range over the steps around a pressure, round by round. -/
namespace Go.Hx
set_option linter.unusedSimpArgs false
set_option linter.unusedVariables false
set_option maxRecDepth 20000
set_option maxHeartbeats 4000000
attribute [local irreducible] W R C thenH inBlockH
--dropu
section
variable {lp : Nat → Option LFunc} {fl : Nat} {N : HAct → HS → Prop} {a : HAct} {h : Tr HBlk} {nx : Nat} {os : List LOper} {dst : Option Nat} {anc : List Nat}
theorem r_slB {size k i j : Nat} {x y z : Lo} {b o n c : Nat} {σ : HS} (hx : a.ev x = .slice (some (b, o)) n c) (hy : a.ev y = i64 ((i : Nat) : Int)) (hz : a.ev z = i64 ((j : Nat) : Int)) (hk : i + k = j) (hj : j ≤ c) (hi : i < c) (hn : R lp fl os N (a.put dst (.slice (some (b, o + i * size)) k (c - i))) σ) : R lp fl (⟨dst, .sliceS size x (some y) (some z), none, anc⟩ :: os) N a σ :=
  r_go (by
    show oSliceS size x (some y) (some z) a σ = some (.slice (some (b, o + i * size)) k (c - i), σ)
    unfold oSliceS
    rw [hx]
    have e : sliceH σ size (.slice (some (b, o)) n c) (some (i64 ((i : Nat) : Int))) (some (i64 ((j : Nat) : Int))) = some (.slice (some (b, o + i * size)) k (c - i)) := by
      show (if i ≤ j ∧ j ≤ c then cutH σ size (some (b, o)) c i j else none) = _
      rw [if_pos ⟨by omega, hj⟩]
      show (if i < c ∨ i = 0 then some (HV.slice (some (b, o + i * size)) (j - i) (c - i)) else _) = _
      rw [if_pos (.inl hi), show j - i = k by omega]
    show (match sliceH σ size (.slice (some (b, o)) n c) (some (a.ev y)) (some (a.ev z)) with | some v => _ | none => _) = _
    rw [hy, hz, e]) hn
end
/-- What a round that is yielded makes of the store. -/
def YS (fl lb : Nat) (args : List HV) (h : Tr HBlk) (nx : Nat) (K : Tr HBlk → Nat → Prop) : Prop := ∀ (os : List LOper) (N : HAct → HS → Prop) (a : HAct) (dst : Option Nat) (f : Lo) (xs : List Lo) (anc : List Nat),
  a.ev f = .yield lb → xs.map a.ev = args → (∀ h' n', K h' n' → R LW fl os N (a.put dst (.bool true)) ⟨h', n'⟩) → R LW fl (⟨dst, .call f xs, none, anc⟩ :: os) N a ⟨h, nx⟩
theorem r_ys {fl lb : Nat} {args : List HV} {h : Tr HBlk} {nx : Nat} {K : Tr HBlk → Nat → Prop} {os : List LOper} {N : HAct → HS → Prop} {a : HAct} {dst : Option Nat} {f : Lo} {xs : List Lo} {anc : List Nat} (hs : YS fl lb args h nx K) (hf : a.ev f = .yield lb) (ha : xs.map a.ev = args)
    (hk : ∀ h' n', K h' n' → R LW fl os N (a.put dst (.bool true)) ⟨h', n'⟩) : R LW fl (⟨dst, .call f xs, none, anc⟩ :: os) N a ⟨h, nx⟩ := hs os N a dst f xs anc hf ha hk
/-- What holds between the rounds. -/
structure Rng (I : Nat → Tr HBlk → Nat → Prop) (fl lb tb xb : Nat) (p : Option (Nat × Nat)) (l : List (Int × Int)) (cp : Nat) (x : Int) : Prop where
  keep : ∀ j h n, I j h n → D h n ∧ fl ≤ n ∧ tb < n ∧ xb < n ∧ h.get tb = some (.cells [.slice p l.length cp] .exact) ∧ h.get xb = some (.cells [i64 x] .exact) ∧ Row renc 2 h n p l
  up : ∀ j h n h' n', I j h n → Ext h n h' n' → I j h' n'
  yes : ∀ j (hj : j + 1 < l.length), l[j].1 ≤ x → x ≤ l[j + 1].1 → ∀ h n, I j h n → YS fl lb [.agg (renc l[j]), .agg (renc l[j + 1])] h n (I (j + 1))
  no : ∀ j (hj : j + 1 < l.length), ¬ (l[j].1 ≤ x ∧ x ≤ l[j + 1].1) → ∀ h n, I j h n → I (j + 1) h n
attribute [irreducible] YS
/- 102 -/
theorem loop102 {I : Nat → Tr HBlk → Nat → Prop} {fl lb tb xb : Nat} {Q : HExit → HAct → HS → Prop} {p : Option (Nat × Nat)} {l : List (Int × Int)} {cp : Nat} {x : Int} (hlen : l.length < 1000000000) (hcp : l.length ≤ cp) (H : Rng I fl lb tb xb p l cp x) :
    ∀ (m j : Nat) (a : HAct) (h : Tr HBlk) (nx : Nat), m + j + 1 = l.length → I j h nx → a.nt = 36 → a.defers = [] → a.tmp 0 = .yield lb → a.tmp 1 = .ptr (some (tb, 0)) → a.tmp 2 = .ptr (some (xb, 0)) → a.tmp 4 = i64 ((j + 1 : Nat) : Int) →
      (∀ a' h' n', I (l.length - 1) h' n' → a'.nt = 36 → a'.defers = [] → Q .normal a' ⟨h', n'⟩) → W LW fl none (.loop L102w0) (inBlockH 0 Q) a ⟨h, nx⟩
  | 0, j, a, h, nx, hm, hI, hnt, hds, t0, t1, t2, t4, hq => by
    obtain ⟨hd, hfl, htb, hxb, gt, gx, hrow⟩ := H.keep _ _ _ hI
    refine w_it (show L102w0 = _ by unfold L102w0; exact rfl) ?_
    repeat' first
     | refine r_nil ?_
     | refine th_n ?_
     | refine th_r ?_
     | refine th_e ?_
     | refine ib_n ?_
     | refine ib_r ?_
     | refine ib_e ?_
     | refine ib_x (by decide) ?_
     | refine w_exit ?_
     | refine w_seq ?_
     | refine w_reg ?_
     | refine w_ret ?_
     | refine w_skip ?_
     | refine w_block ?_
     | refine w_t (by simp (disch:=first|decide|(simp only[zF,zG,hnt, t1, t4, gt];decide)) only [zA,zB,zC,zD,zE,zF,zG,zH,zI,zJ,zK,HV.cells,fl0,fl2,flS,flS1,flI1,flU1,flU2,flF,hnt, t1, t4, gt]; first|done|exact rfl) ?_
     | refine w_f (by simp (disch:=first|decide|(simp only[zF,zG,hnt, t1, t4, gt];decide)) only [zA,zB,zC,zD,zE,zF,zG,zH,zI,zJ,zK,HV.cells,fl0,fl2,flS,flS1,flI1,flU1,flU2,flF,hnt, t1, t4, gt]; first|done|exact rfl) ?_
     | refine r_take (by simp (disch:=first|decide|(simp only[zF,zG,hnt, t1, t4, gt];decide)) only [zA,zB,zC,zD,zE,zF,zG,zH,zI,zJ,zK,HV.cells,fl0,fl2,flS,flS1,flI1,flU1,flU2,flF,hnt, t1, t4, gt]; first|done|exact rfl) ?_
     | refine r_drop (by simp (disch:=first|decide|(simp only[zF,zG,Bool.not_true,Bool.not_false,hnt, t1, t4, gt];decide)) only [zA,zB,zC,zD,zE,zF,zG,zH,zI,zJ,zK,HV.cells,fl0,fl2,flS,flS1,flI1,flU1,flU2,flF,Bool.not_true,Bool.not_false,hnt, t1, t4, gt]; first|done|exact rfl) ?_
     | refine r_dropu (by simp (disch:=first|decide|(simp only[zF,zG,hnt, t1, t4, gt];decide)) only [zA,zB,zC,zD,zE,zF,zG,zH,zI,zJ,zK,HV.cells,fl0,fl2,flS,flS1,flI1,flU1,flU2,flF,hnt, t1, t4, gt]; first|done|exact rfl) ?_
     | refine r_move (by simp (disch:=first|decide|(simp only[zF,zG,hnt, t1, t4, gt];decide)) only [zA,zB,zC,zD,zE,zF,zG,zH,zI,zJ,zK,HV.cells,fl0,fl2,flS,flS1,flI1,flU1,flU2,flF,hnt, t1, t4, gt]; try exact rfl) ?_
     | refine r_ld1 (by simp (disch:=first|decide|(simp only[zF,zG,hnt, t1, t4, gt];decide)) only [zA,zB,zC,zD,zE,zF,zG,zH,zI,zJ,zK,HV.cells,fl0,fl2,flS,flS1,flI1,flU1,flU2,flF,hnt, t1, t4, gt]; try exact rfl) (by first|assumption|(simp (disch:=omega) only [get_same,get_other,hnt, t1, t4, gt]; first|done|exact rfl)) (by first|assumption|exact ow2 _ _ _ _|exact ow3 _ _ _ _ _ _|rfl|(simp only [zI,zJ,HV.cells,hnt, t1, t4, gt]; exact rfl)) ?_
     | refine r_ldn (by simp (disch:=first|decide|(simp only[zF,zG,hnt, t1, t4, gt];decide)) only [zA,zB,zC,zD,zE,zF,zG,zH,zI,zJ,zK,HV.cells,fl0,fl2,flS,flS1,flI1,flU1,flU2,flF,hnt, t1, t4, gt]; try exact rfl) (by first|assumption|(simp (disch:=omega) only [get_same,get_other,hnt, t1, t4, gt]; first|done|exact rfl)) (by first|assumption|exact ow2 _ _ _ _|exact ow3 _ _ _ _ _ _|rfl|(simp only [zI,zJ,HV.cells,hnt, t1, t4, gt]; exact rfl)) ?_
     | refine r_alloc ?_
     | refine r_st (cs' := _) (by simp (disch:=first|decide|(simp only[zF,zG,hnt, t1, t4, gt];decide)) only [zA,zB,zC,zD,zE,zF,zG,zH,zI,zJ,zK,HV.cells,fl0,fl2,flS,flS1,flI1,flU1,flU2,flF,hnt, t1, t4, gt]; try exact rfl) (by simp (disch:=first|decide|(simp only[zF,zG,hnt, t1, t4, gt];decide)) only [zA,zB,zC,zD,zE,zF,zG,zH,zI,zJ,zK,HV.cells,fl0,fl2,flS,flS1,flI1,flU1,flU2,flF,hnt, t1, t4, gt]; try exact rfl) (by first|assumption|(simp (disch:=omega) only [get_same,get_other,hnt, t1, t4, gt]; first|done|exact rfl)) (by exact True.intro) (by rfl) (by rfl) (by first|assumption|exact ow2 _ _ _ _|exact ow3 _ _ _ _ _ _|rfl|(simp only [zI,zJ,HV.cells,hnt, t1, t4, gt]; exact rfl)) (by omega) ?_
     | refine r_add (by simp (disch:=first|decide|(simp only[zF,zG,hnt, t1, t4, gt];decide)) only [zA,zB,zC,zD,zE,zF,zG,zH,zI,zJ,zK,HV.cells,fl0,fl2,flS,flS1,flI1,flU1,flU2,flF,hnt, t1, t4, gt]; try exact rfl) (by simp (disch:=first|decide|(simp only[zF,zG,hnt, t1, t4, gt];decide)) only [zA,zB,zC,zD,zE,zF,zG,zH,zI,zJ,zK,HV.cells,fl0,fl2,flS,flS1,flI1,flU1,flU2,flF,hnt, t1, t4, gt]; try exact rfl) (by omega) (by omega) ?_
     | refine r_sub (by simp (disch:=first|decide|(simp only[zF,zG,hnt, t1, t4, gt];decide)) only [zA,zB,zC,zD,zE,zF,zG,zH,zI,zJ,zK,HV.cells,fl0,fl2,flS,flS1,flI1,flU1,flU2,flF,hnt, t1, t4, gt]; try exact rfl) (by simp (disch:=first|decide|(simp only[zF,zG,hnt, t1, t4, gt];decide)) only [zA,zB,zC,zD,zE,zF,zG,zH,zI,zJ,zK,HV.cells,fl0,fl2,flS,flS1,flI1,flU1,flU2,flF,hnt, t1, t4, gt]; try exact rfl) (by omega) (by omega) ?_
     | refine r_lss (by simp (disch:=first|decide|(simp only[zF,zG,hnt, t1, t4, gt];decide)) only [zA,zB,zC,zD,zE,zF,zG,zH,zI,zJ,zK,HV.cells,fl0,fl2,flS,flS1,flI1,flU1,flU2,flF,hnt, t1, t4, gt]; try exact rfl) (by simp (disch:=first|decide|(simp only[zF,zG,hnt, t1, t4, gt];decide)) only [zA,zB,zC,zD,zE,zF,zG,zH,zI,zJ,zK,HV.cells,fl0,fl2,flS,flS1,flI1,flU1,flU2,flF,hnt, t1, t4, gt]; try exact rfl) (fun hc => ?_) (fun hc => ?_) <;> (try (exfalso; omega))
     | refine r_not1 (by simp (disch:=first|decide|(simp only[zF,zG,hnt, t1, t4, gt];decide)) only [zA,zB,zC,zD,zE,zF,zG,zH,zI,zJ,zK,HV.cells,fl0,fl2,flS,flS1,flI1,flU1,flU2,flF,hnt, t1, t4, gt]; try exact rfl) ?_
     | refine r_pt (by simp (disch:=first|decide|(simp only[zF,zG,hnt, t1, t4, gt];decide)) only [zA,zB,zC,zD,zE,zF,zG,zH,zI,zJ,zK,HV.cells,fl0,fl2,flS,flS1,flI1,flU1,flU2,flF,hnt, t1, t4, gt]; first|done|exact rfl) (by simp (disch:=first|decide|(simp only[zF,zG,hnt, t1, t4, gt];decide)) only [zA,zB,zC,zD,zE,zF,zG,zH,zI,zJ,zK,HV.cells,fl0,fl2,flS,flS1,flI1,flU1,flU2,flF,hnt, t1, t4, gt]; try exact rfl) ?_
     | refine r_pf (by simp (disch:=first|decide|(simp only[zF,zG,hnt, t1, t4, gt];decide)) only [zA,zB,zC,zD,zE,zF,zG,zH,zI,zJ,zK,HV.cells,fl0,fl2,flS,flS1,flI1,flU1,flU2,flF,hnt, t1, t4, gt]; first|done|exact rfl) (by simp (disch:=first|decide|(simp only[zF,zG,hnt, t1, t4, gt];decide)) only [zA,zB,zC,zD,zE,zF,zG,zH,zI,zJ,zK,HV.cells,fl0,fl2,flS,flS1,flI1,flU1,flU2,flF,hnt, t1, t4, gt]; try exact rfl) ?_
     | refine r_len (by simp (disch:=first|decide|(simp only[zF,zG,hnt, t1, t4, gt];decide)) only [zA,zB,zC,zD,zE,zF,zG,zH,zI,zJ,zK,HV.cells,fl0,fl2,flS,flS1,flI1,flU1,flU2,flF,hnt, t1, t4, gt]; try exact rfl) ?_
     | refine r_ixs (by simp (disch:=first|decide|(simp only[zF,zG,hnt, t1, t4, gt];decide)) only [zA,zB,zC,zD,zE,zF,zG,zH,zI,zJ,zK,HV.cells,fl0,fl2,flS,flS1,flI1,flU1,flU2,flF,hnt, t1, t4, gt]; try exact rfl) (by simp (disch:=first|decide|(simp only[zF,zG,hnt, t1, t4, gt];decide)) only [zA,zB,zC,zD,zE,zF,zG,zH,zI,zJ,zK,HV.cells,fl0,fl2,flS,flS1,flI1,flU1,flU2,flF,hnt, t1, t4, gt]; try exact rfl) (by omega) ?_
     | refine w_draw (by omega) (by (repeat' first|assumption|refine D.upd ?_ (by omega)|exact D.mono (by assumption) (by omega)) <;> fail) ?_
     | refine d_nil ?_
     | refine d_rest rfl ?_
     | refine d_al2 rfl rfl rfl ?_
     | refine d_bs rfl ?_
     | refine d_box rfl ?_
     | refine d_alloc rfl ?_
     | refine d_one rfl ?_
     | refine d_next (by omega) ?_
     | refine d_laid ?_
     | fail
    have e : l.length - 1 = j := by omega
    rw [e] at hq
    refine hq _ _ _ hI ?_ ?_
    all_goals first|(simp only [zL,zM,zF,zG,hnt, hds];done)|(simp (disch:=first|decide|(simp only[zF,zG,hnt, hds];decide)) only [zA,zB,zC,zD,zE,zF,zG,zH,zI,zJ,zK,HV.cells,fl0,fl2,flS,flS1,flI1,flU1,flU2,flF,hnt, hds];first|done|exact rfl)|assumption
  | m + 1, j, a, h, nx, hm, hI, hnt, hds, t0, t1, t2, t4, hq => by
    obtain ⟨hd, hfl, htb, hxb, gt, gx, hrow0⟩ := H.keep _ _ _ hI
    have hrow1 := hrow0
    obtain ⟨b, o, cs, kk, rfl, hb, hg, hcs⟩ := hrow0 (by intro e; rw [e] at hm; simp at hm)
    have hj : j + 1 < l.length := by omega
    have hy : l[j]? = some l[j] := by simp [show j < l.length by omega]
    have hz : l[j + 1]? = some l[j + 1] := by simp [hj]
    have e0 := hcs j _ hy
    have e1 := hcs (j + 1) _ hz
    have ej : ((j + 1 : Nat) : Int) - 1 = (j : Int) := by omega
    have ek : ((j + 1 : Nat) : Int) + 1 = ((j + 2 : Nat) : Int) := by omega
    have el : ((j + 1 + 1 : Nat) : Int) = ((j + 2 : Nat) : Int) := by omega
    have cP : ∀ fl h' n', Ext h nx h' n' → C LW fl 65 [.slice (some (b, o + j * 2)) 2 (cp - j)] ⟨h', n'⟩ (Sc (· = .agg [i64 l[j].1, i64 l[j + 1].1]) ⟨h', n'⟩) := fun fl h' n' e => by
      have := c_pressuresOf (fl := fl) (h := h') (nx := n') (p := some (b, o + j * 2)) (l := [l[j], l[j + 1]]) (n := 2) (cp := cp - j) e.d rfl (by show 0 < 2; omega) (by show 2 < 1000000000; omega) (fun _ => by
        have hle := e.le
        refine ⟨b, o + j * 2, cs, kk, rfl, by omega, (e.same b hb).trans hg, fun i y hi => ?_⟩
        match i, hi with
        | 0, hi => cases hi; rw [Nat.zero_mul, Nat.add_zero]; exact e0
        | 1, hi => cases hi; rw [show o + j * 2 + 1 * 2 = o + (j + 1) * 2 by omega]; exact e1
        | i + 2, hi => simp at hi)
      exact this
    have ow : overwrite [i64 0, i64 0] 0 (HV.agg [i64 l[j].1, i64 l[j + 1].1]).cells = some [i64 l[j].1, i64 l[j + 1].1] := rfl
    have tk : takeN 2 ([i64 l[j].1, i64 l[j + 1].1].drop 0) = some [i64 l[j].1, i64 l[j + 1].1] := rfl
    have hx0 : Ext h nx h nx := Ext.refl hd
    refine w_it (show L102w0 = _ by unfold L102w0; exact rfl) ?_
    repeat' first
     | refine r_nil ?_
     | refine th_n ?_
     | refine th_r ?_
     | refine th_e ?_
     | refine ib_n ?_
     | refine ib_r ?_
     | refine ib_e ?_
     | refine ib_x (by decide) ?_
     | refine w_exit ?_
     | refine w_seq ?_
     | refine w_reg ?_
     | refine w_ret ?_
     | refine w_skip ?_
     | refine w_block ?_
     | refine w_t (by simp (disch:=first|decide|(simp only[zF,zG,hnt, t0, t1, t2, t4, gt, gx, ej, ek, hg];decide)) only [zA,zB,zC,zD,zE,zF,zG,zH,zI,zJ,zK,HV.cells,fl0,fl2,flS,flS1,flI1,flU1,flU2,flF,hnt, t0, t1, t2, t4, gt, gx, ej, ek, hg]; first|done|exact rfl) ?_
     | refine w_f (by simp (disch:=first|decide|(simp only[zF,zG,hnt, t0, t1, t2, t4, gt, gx, ej, ek, hg];decide)) only [zA,zB,zC,zD,zE,zF,zG,zH,zI,zJ,zK,HV.cells,fl0,fl2,flS,flS1,flI1,flU1,flU2,flF,hnt, t0, t1, t2, t4, gt, gx, ej, ek, hg]; first|done|exact rfl) ?_
     | refine r_take (by simp (disch:=first|decide|(simp only[zF,zG,hnt, t0, t1, t2, t4, gt, gx, ej, ek, hg];decide)) only [zA,zB,zC,zD,zE,zF,zG,zH,zI,zJ,zK,HV.cells,fl0,fl2,flS,flS1,flI1,flU1,flU2,flF,hnt, t0, t1, t2, t4, gt, gx, ej, ek, hg]; first|done|exact rfl) ?_
     | refine r_drop (by simp (disch:=first|decide|(simp only[zF,zG,Bool.not_true,Bool.not_false,hnt, t0, t1, t2, t4, gt, gx, ej, ek, hg];decide)) only [zA,zB,zC,zD,zE,zF,zG,zH,zI,zJ,zK,HV.cells,fl0,fl2,flS,flS1,flI1,flU1,flU2,flF,Bool.not_true,Bool.not_false,hnt, t0, t1, t2, t4, gt, gx, ej, ek, hg]; first|done|exact rfl) ?_
     | refine r_dropu (by simp (disch:=first|decide|(simp only[zF,zG,hnt, t0, t1, t2, t4, gt, gx, ej, ek, hg];decide)) only [zA,zB,zC,zD,zE,zF,zG,zH,zI,zJ,zK,HV.cells,fl0,fl2,flS,flS1,flI1,flU1,flU2,flF,hnt, t0, t1, t2, t4, gt, gx, ej, ek, hg]; first|done|exact rfl) ?_
     | refine r_move (by simp (disch:=first|decide|(simp only[zF,zG,hnt, t0, t1, t2, t4, gt, gx, ej, ek, hg];decide)) only [zA,zB,zC,zD,zE,zF,zG,zH,zI,zJ,zK,HV.cells,fl0,fl2,flS,flS1,flI1,flU1,flU2,flF,hnt, t0, t1, t2, t4, gt, gx, ej, ek, hg]; try exact rfl) ?_
     | refine r_ld1 (by simp (disch:=first|decide|(simp only[zF,zG,hnt, t0, t1, t2, t4, gt, gx, ej, ek, hg];decide)) only [zA,zB,zC,zD,zE,zF,zG,zH,zI,zJ,zK,HV.cells,fl0,fl2,flS,flS1,flI1,flU1,flU2,flF,hnt, t0, t1, t2, t4, gt, gx, ej, ek, hg]; try exact rfl) (by first|assumption|(simp (disch:=omega) only [get_same,get_other,hnt, t0, t1, t2, t4, gt, gx, ej, ek, hg]; first|done|exact rfl)) (by first|assumption|exact ow2 _ _ _ _|exact ow3 _ _ _ _ _ _|rfl|(simp only [zI,zJ,HV.cells,hnt, t0, t1, t2, t4, gt, gx, ej, ek, hg]; exact rfl)) ?_
     | refine r_ldn (by simp (disch:=first|decide|(simp only[zF,zG,hnt, t0, t1, t2, t4, gt, gx, ej, ek, hg];decide)) only [zA,zB,zC,zD,zE,zF,zG,zH,zI,zJ,zK,HV.cells,fl0,fl2,flS,flS1,flI1,flU1,flU2,flF,hnt, t0, t1, t2, t4, gt, gx, ej, ek, hg]; try exact rfl) (by first|assumption|(simp (disch:=omega) only [get_same,get_other,hnt, t0, t1, t2, t4, gt, gx, ej, ek, hg]; first|done|exact rfl)) (by first|assumption|exact ow2 _ _ _ _|exact ow3 _ _ _ _ _ _|rfl|(simp only [zI,zJ,HV.cells,hnt, t0, t1, t2, t4, gt, gx, ej, ek, hg]; exact rfl)) ?_
     | refine r_alloc ?_
     | refine r_st (cs' := _) (by simp (disch:=first|decide|(simp only[zF,zG,hnt, t0, t1, t2, t4, gt, gx, ej, ek, hg];decide)) only [zA,zB,zC,zD,zE,zF,zG,zH,zI,zJ,zK,HV.cells,fl0,fl2,flS,flS1,flI1,flU1,flU2,flF,hnt, t0, t1, t2, t4, gt, gx, ej, ek, hg]; try exact rfl) (by simp (disch:=first|decide|(simp only[zF,zG,hnt, t0, t1, t2, t4, gt, gx, ej, ek, hg];decide)) only [zA,zB,zC,zD,zE,zF,zG,zH,zI,zJ,zK,HV.cells,fl0,fl2,flS,flS1,flI1,flU1,flU2,flF,hnt, t0, t1, t2, t4, gt, gx, ej, ek, hg]; try exact rfl) (by first|assumption|(simp (disch:=omega) only [get_same,get_other,hnt, t0, t1, t2, t4, gt, gx, ej, ek, hg]; first|done|exact rfl)) (by exact True.intro) (by rfl) (by rfl) (by first|assumption|exact ow2 _ _ _ _|exact ow3 _ _ _ _ _ _|rfl|(simp only [zI,zJ,HV.cells,hnt, t0, t1, t2, t4, gt, gx, ej, ek, hg]; exact rfl)) (by omega) ?_
     | refine r_add (by simp (disch:=first|decide|(simp only[zF,zG,hnt, t0, t1, t2, t4, gt, gx, ej, ek, hg];decide)) only [zA,zB,zC,zD,zE,zF,zG,zH,zI,zJ,zK,HV.cells,fl0,fl2,flS,flS1,flI1,flU1,flU2,flF,hnt, t0, t1, t2, t4, gt, gx, ej, ek, hg]; try exact rfl) (by simp (disch:=first|decide|(simp only[zF,zG,hnt, t0, t1, t2, t4, gt, gx, ej, ek, hg];decide)) only [zA,zB,zC,zD,zE,zF,zG,zH,zI,zJ,zK,HV.cells,fl0,fl2,flS,flS1,flI1,flU1,flU2,flF,hnt, t0, t1, t2, t4, gt, gx, ej, ek, hg]; try exact rfl) (by omega) (by omega) ?_
     | refine r_sub (by simp (disch:=first|decide|(simp only[zF,zG,hnt, t0, t1, t2, t4, gt, gx, ej, ek, hg];decide)) only [zA,zB,zC,zD,zE,zF,zG,zH,zI,zJ,zK,HV.cells,fl0,fl2,flS,flS1,flI1,flU1,flU2,flF,hnt, t0, t1, t2, t4, gt, gx, ej, ek, hg]; try exact rfl) (by simp (disch:=first|decide|(simp only[zF,zG,hnt, t0, t1, t2, t4, gt, gx, ej, ek, hg];decide)) only [zA,zB,zC,zD,zE,zF,zG,zH,zI,zJ,zK,HV.cells,fl0,fl2,flS,flS1,flI1,flU1,flU2,flF,hnt, t0, t1, t2, t4, gt, gx, ej, ek, hg]; try exact rfl) (by omega) (by omega) ?_
     | refine r_lss (by simp (disch:=first|decide|(simp only[zF,zG,hnt, t0, t1, t2, t4, gt, gx, ej, ek, hg];decide)) only [zA,zB,zC,zD,zE,zF,zG,zH,zI,zJ,zK,HV.cells,fl0,fl2,flS,flS1,flI1,flU1,flU2,flF,hnt, t0, t1, t2, t4, gt, gx, ej, ek, hg]; try exact rfl) (by simp (disch:=first|decide|(simp only[zF,zG,hnt, t0, t1, t2, t4, gt, gx, ej, ek, hg];decide)) only [zA,zB,zC,zD,zE,zF,zG,zH,zI,zJ,zK,HV.cells,fl0,fl2,flS,flS1,flI1,flU1,flU2,flF,hnt, t0, t1, t2, t4, gt, gx, ej, ek, hg]; try exact rfl) (fun hc => ?_) (fun hc => ?_) <;> (try (exfalso; omega))
     | refine r_not1 (by simp (disch:=first|decide|(simp only[zF,zG,hnt, t0, t1, t2, t4, gt, gx, ej, ek, hg];decide)) only [zA,zB,zC,zD,zE,zF,zG,zH,zI,zJ,zK,HV.cells,fl0,fl2,flS,flS1,flI1,flU1,flU2,flF,hnt, t0, t1, t2, t4, gt, gx, ej, ek, hg]; try exact rfl) ?_
     | refine r_pt (by simp (disch:=first|decide|(simp only[zF,zG,hnt, t0, t1, t2, t4, gt, gx, ej, ek, hg];decide)) only [zA,zB,zC,zD,zE,zF,zG,zH,zI,zJ,zK,HV.cells,fl0,fl2,flS,flS1,flI1,flU1,flU2,flF,hnt, t0, t1, t2, t4, gt, gx, ej, ek, hg]; first|done|exact rfl) (by simp (disch:=first|decide|(simp only[zF,zG,hnt, t0, t1, t2, t4, gt, gx, ej, ek, hg];decide)) only [zA,zB,zC,zD,zE,zF,zG,zH,zI,zJ,zK,HV.cells,fl0,fl2,flS,flS1,flI1,flU1,flU2,flF,hnt, t0, t1, t2, t4, gt, gx, ej, ek, hg]; try exact rfl) ?_
     | refine r_pf (by simp (disch:=first|decide|(simp only[zF,zG,hnt, t0, t1, t2, t4, gt, gx, ej, ek, hg];decide)) only [zA,zB,zC,zD,zE,zF,zG,zH,zI,zJ,zK,HV.cells,fl0,fl2,flS,flS1,flI1,flU1,flU2,flF,hnt, t0, t1, t2, t4, gt, gx, ej, ek, hg]; first|done|exact rfl) (by simp (disch:=first|decide|(simp only[zF,zG,hnt, t0, t1, t2, t4, gt, gx, ej, ek, hg];decide)) only [zA,zB,zC,zD,zE,zF,zG,zH,zI,zJ,zK,HV.cells,fl0,fl2,flS,flS1,flI1,flU1,flU2,flF,hnt, t0, t1, t2, t4, gt, gx, ej, ek, hg]; try exact rfl) ?_
     | refine r_len (by simp (disch:=first|decide|(simp only[zF,zG,hnt, t0, t1, t2, t4, gt, gx, ej, ek, hg];decide)) only [zA,zB,zC,zD,zE,zF,zG,zH,zI,zJ,zK,HV.cells,fl0,fl2,flS,flS1,flI1,flU1,flU2,flF,hnt, t0, t1, t2, t4, gt, gx, ej, ek, hg]; try exact rfl) ?_
     | refine r_ixs (by simp (disch:=first|decide|(simp only[zF,zG,hnt, t0, t1, t2, t4, gt, gx, ej, ek, hg];decide)) only [zA,zB,zC,zD,zE,zF,zG,zH,zI,zJ,zK,HV.cells,fl0,fl2,flS,flS1,flI1,flU1,flU2,flF,hnt, t0, t1, t2, t4, gt, gx, ej, ek, hg]; try exact rfl) (by simp (disch:=first|decide|(simp only[zF,zG,hnt, t0, t1, t2, t4, gt, gx, ej, ek, hg];decide)) only [zA,zB,zC,zD,zE,zF,zG,zH,zI,zJ,zK,HV.cells,fl0,fl2,flS,flS1,flI1,flU1,flU2,flF,hnt, t0, t1, t2, t4, gt, gx, ej, ek, hg]; try exact rfl) (by omega) ?_
     | refine r_slB (k := 2) (by simp (disch:=first|decide|(simp only[zF,zG,hnt, t0, t1, t2, t4, gt, gx, ej, ek, hg];decide)) only [zA,zB,zC,zD,zE,zF,zG,zH,zI,zJ,zK,HV.cells,fl0,fl2,flS,flS1,flI1,flU1,flU2,flF,hnt, t0, t1, t2, t4, gt, gx, ej, ek, hg]; try exact rfl) (by simp (disch:=first|decide|(simp only[zF,zG,hnt, t0, t1, t2, t4, gt, gx, ej, ek, hg];decide)) only [zA,zB,zC,zD,zE,zF,zG,zH,zI,zJ,zK,HV.cells,fl0,fl2,flS,flS1,flI1,flU1,flU2,flF,hnt, t0, t1, t2, t4, gt, gx, ej, ek, hg]; try exact rfl) (by simp (disch:=first|decide|(simp only[zF,zG,hnt, t0, t1, t2, t4, gt, gx, ej, ek, hg];decide)) only [zA,zB,zC,zD,zE,zF,zG,zH,zI,zJ,zK,HV.cells,fl0,fl2,flS,flS1,flI1,flU1,flU2,flF,hnt, t0, t1, t2, t4, gt, gx, ej, ek, hg]; try exact rfl) (by omega) (by omega) (by omega) ?_
     | refine r_calls (by simp (disch:=first|decide|(simp only[zF,zG,hnt, t0, t1, t2, t4, gt, gx, ej, ek, hg];decide)) only [zA,zB,zC,zD,zE,zF,zG,zH,zI,zJ,zK,HV.cells,fl0,fl2,flS,flS1,flI1,flU1,flU2,flF,hnt, t0, t1, t2, t4, gt, gx, ej, ek, hg]; try exact rfl) (by simp (disch:=first|decide|(simp only[zF,zG,hnt, t0, t1, t2, t4, gt, gx, ej, ek, hg];decide)) only [List.map_cons,List.map_nil,List.nil_append,List.cons_append,List.append_nil,zA,zB,zC,zD,zE,zF,zG,zH,zI,zJ,zK,HV.cells,fl0,fl2,flS,flS1,flI1,flU1,flU2,flF,hnt, t0, t1, t2, t4, gt, gx, ej, ek, hg]; first|done|exact rfl) (cP _ _ _ (by repeat' first|assumption|refine Ext.put ?_ (by omega) (by omega)|exact Ext.up (by assumption) (by omega)|exact Ext.nx (by assumption) (by omega))) (fun n' hn' => ?_)
     | refine r_calld (by simp (disch:=first|decide|(simp only[zF,zG,hnt, t0, t1, t2, t4, gt, gx, ej, ek, hg];decide)) only [zA,zB,zC,zD,zE,zF,zG,zH,zI,zJ,zK,HV.cells,fl0,fl2,flS,flS1,flI1,flU1,flU2,flF,hnt, t0, t1, t2, t4, gt, gx, ej, ek, hg]; try exact rfl) (by simp (disch:=first|decide|(simp only[zF,zG,hnt, t0, t1, t2, t4, gt, gx, ej, ek, hg];decide)) only [List.map_cons,List.map_nil,List.nil_append,List.cons_append,List.append_nil,zA,zB,zC,zD,zE,zF,zG,zH,zI,zJ,zK,HV.cells,fl0,fl2,flS,flS1,flI1,flU1,flU2,flF,hnt, t0, t1, t2, t4, gt, gx, ej, ek, hg]; first|done|exact rfl) c_has (fun n' hn' hc => ?_) (fun n' hn' hc => ?_) <;> (try (exfalso; omega))
     | refine w_draw (by omega) (by (repeat' first|assumption|refine D.upd ?_ (by omega)|exact D.mono (by assumption) (by omega)) <;> fail) ?_
     | refine d_nil ?_
     | refine d_rest rfl ?_
     | refine d_al2 rfl rfl rfl ?_
     | refine d_bs rfl ?_
     | refine d_box rfl ?_
     | refine d_alloc rfl ?_
     | refine d_one rfl ?_
     | refine d_next (by omega) ?_
     | refine d_laid ?_
     | fail
    · refine r_ys (H.yes j hj hc.1 hc.2 _ _ (H.up _ _ _ _ _ hI (by repeat' first|assumption|refine Ext.put ?_ (by omega) (by omega)|exact Ext.up (by assumption) (by omega)|exact Ext.nx (by assumption) (by omega)))) (by simp (disch:=first|decide|(simp only[zF,zG,hnt, t0];decide)) only [zA,zB,zC,zD,zE,zF,zG,zH,zI,zJ,zK,HV.cells,fl0,fl2,flS,flS1,flI1,flU1,flU2,flF,hnt, t0]; try exact rfl) (by simp (disch:=first|decide|(simp only[zF,zG,hnt];decide)) only [List.map_cons,List.map_nil,List.nil_append,List.cons_append,List.append_nil,zA,zB,zC,zD,zE,zF,zG,zH,zI,zJ,zK,HV.cells,fl0,fl2,flS,flS1,flI1,flU1,flU2,flF,hnt]; try exact rfl) (fun h2 n2 hI2 => ?_)
      obtain ⟨hd2, hfl2, htb2, hxb2, gt2, gx2, hrow2⟩ := H.keep _ _ _ hI2
      repeat' first
       | refine r_nil ?_
       | refine th_n ?_
       | refine th_r ?_
       | refine th_e ?_
       | refine ib_n ?_
       | refine ib_r ?_
       | refine ib_e ?_
       | refine ib_x (by decide) ?_
       | refine w_exit ?_
       | refine w_seq ?_
       | refine w_reg ?_
       | refine w_ret ?_
       | refine w_skip ?_
       | refine w_block ?_
       | refine w_t (by simp (disch:=first|decide|(simp only[zF,zG,hnt, t4, ek, el];decide)) only [zA,zB,zC,zD,zE,zF,zG,zH,zI,zJ,zK,HV.cells,fl0,fl2,flS,flS1,flI1,flU1,flU2,flF,hnt, t4, ek, el]; first|done|exact rfl) ?_
       | refine w_f (by simp (disch:=first|decide|(simp only[zF,zG,hnt, t4, ek, el];decide)) only [zA,zB,zC,zD,zE,zF,zG,zH,zI,zJ,zK,HV.cells,fl0,fl2,flS,flS1,flI1,flU1,flU2,flF,hnt, t4, ek, el]; first|done|exact rfl) ?_
       | refine r_take (by simp (disch:=first|decide|(simp only[zF,zG,hnt, t4, ek, el];decide)) only [zA,zB,zC,zD,zE,zF,zG,zH,zI,zJ,zK,HV.cells,fl0,fl2,flS,flS1,flI1,flU1,flU2,flF,hnt, t4, ek, el]; first|done|exact rfl) ?_
       | refine r_drop (by simp (disch:=first|decide|(simp only[zF,zG,Bool.not_true,Bool.not_false,hnt, t4, ek, el];decide)) only [zA,zB,zC,zD,zE,zF,zG,zH,zI,zJ,zK,HV.cells,fl0,fl2,flS,flS1,flI1,flU1,flU2,flF,Bool.not_true,Bool.not_false,hnt, t4, ek, el]; first|done|exact rfl) ?_
       | refine r_dropu (by simp (disch:=first|decide|(simp only[zF,zG,hnt, t4, ek, el];decide)) only [zA,zB,zC,zD,zE,zF,zG,zH,zI,zJ,zK,HV.cells,fl0,fl2,flS,flS1,flI1,flU1,flU2,flF,hnt, t4, ek, el]; first|done|exact rfl) ?_
       | refine r_move (by simp (disch:=first|decide|(simp only[zF,zG,hnt, t4, ek, el];decide)) only [zA,zB,zC,zD,zE,zF,zG,zH,zI,zJ,zK,HV.cells,fl0,fl2,flS,flS1,flI1,flU1,flU2,flF,hnt, t4, ek, el]; try exact rfl) ?_
       | refine r_ld1 (by simp (disch:=first|decide|(simp only[zF,zG,hnt, t4, ek, el];decide)) only [zA,zB,zC,zD,zE,zF,zG,zH,zI,zJ,zK,HV.cells,fl0,fl2,flS,flS1,flI1,flU1,flU2,flF,hnt, t4, ek, el]; try exact rfl) (by first|assumption|(simp (disch:=omega) only [get_same,get_other,hnt, t4, ek, el]; first|done|exact rfl)) (by first|assumption|exact ow2 _ _ _ _|exact ow3 _ _ _ _ _ _|rfl|(simp only [zI,zJ,HV.cells,hnt, t4, ek, el]; exact rfl)) ?_
       | refine r_ldn (by simp (disch:=first|decide|(simp only[zF,zG,hnt, t4, ek, el];decide)) only [zA,zB,zC,zD,zE,zF,zG,zH,zI,zJ,zK,HV.cells,fl0,fl2,flS,flS1,flI1,flU1,flU2,flF,hnt, t4, ek, el]; try exact rfl) (by first|assumption|(simp (disch:=omega) only [get_same,get_other,hnt, t4, ek, el]; first|done|exact rfl)) (by first|assumption|exact ow2 _ _ _ _|exact ow3 _ _ _ _ _ _|rfl|(simp only [zI,zJ,HV.cells,hnt, t4, ek, el]; exact rfl)) ?_
       | refine r_alloc ?_
       | refine r_st (cs' := _) (by simp (disch:=first|decide|(simp only[zF,zG,hnt, t4, ek, el];decide)) only [zA,zB,zC,zD,zE,zF,zG,zH,zI,zJ,zK,HV.cells,fl0,fl2,flS,flS1,flI1,flU1,flU2,flF,hnt, t4, ek, el]; try exact rfl) (by simp (disch:=first|decide|(simp only[zF,zG,hnt, t4, ek, el];decide)) only [zA,zB,zC,zD,zE,zF,zG,zH,zI,zJ,zK,HV.cells,fl0,fl2,flS,flS1,flI1,flU1,flU2,flF,hnt, t4, ek, el]; try exact rfl) (by first|assumption|(simp (disch:=omega) only [get_same,get_other,hnt, t4, ek, el]; first|done|exact rfl)) (by exact True.intro) (by rfl) (by rfl) (by first|assumption|exact ow2 _ _ _ _|exact ow3 _ _ _ _ _ _|rfl|(simp only [zI,zJ,HV.cells,hnt, t4, ek, el]; exact rfl)) (by omega) ?_
       | refine r_add (by simp (disch:=first|decide|(simp only[zF,zG,hnt, t4, ek, el];decide)) only [zA,zB,zC,zD,zE,zF,zG,zH,zI,zJ,zK,HV.cells,fl0,fl2,flS,flS1,flI1,flU1,flU2,flF,hnt, t4, ek, el]; try exact rfl) (by simp (disch:=first|decide|(simp only[zF,zG,hnt, t4, ek, el];decide)) only [zA,zB,zC,zD,zE,zF,zG,zH,zI,zJ,zK,HV.cells,fl0,fl2,flS,flS1,flI1,flU1,flU2,flF,hnt, t4, ek, el]; try exact rfl) (by omega) (by omega) ?_
       | refine r_sub (by simp (disch:=first|decide|(simp only[zF,zG,hnt, t4, ek, el];decide)) only [zA,zB,zC,zD,zE,zF,zG,zH,zI,zJ,zK,HV.cells,fl0,fl2,flS,flS1,flI1,flU1,flU2,flF,hnt, t4, ek, el]; try exact rfl) (by simp (disch:=first|decide|(simp only[zF,zG,hnt, t4, ek, el];decide)) only [zA,zB,zC,zD,zE,zF,zG,zH,zI,zJ,zK,HV.cells,fl0,fl2,flS,flS1,flI1,flU1,flU2,flF,hnt, t4, ek, el]; try exact rfl) (by omega) (by omega) ?_
       | refine r_lss (by simp (disch:=first|decide|(simp only[zF,zG,hnt, t4, ek, el];decide)) only [zA,zB,zC,zD,zE,zF,zG,zH,zI,zJ,zK,HV.cells,fl0,fl2,flS,flS1,flI1,flU1,flU2,flF,hnt, t4, ek, el]; try exact rfl) (by simp (disch:=first|decide|(simp only[zF,zG,hnt, t4, ek, el];decide)) only [zA,zB,zC,zD,zE,zF,zG,zH,zI,zJ,zK,HV.cells,fl0,fl2,flS,flS1,flI1,flU1,flU2,flF,hnt, t4, ek, el]; try exact rfl) (fun hc => ?_) (fun hc => ?_) <;> (try (exfalso; omega))
       | refine r_not1 (by simp (disch:=first|decide|(simp only[zF,zG,hnt, t4, ek, el];decide)) only [zA,zB,zC,zD,zE,zF,zG,zH,zI,zJ,zK,HV.cells,fl0,fl2,flS,flS1,flI1,flU1,flU2,flF,hnt, t4, ek, el]; try exact rfl) ?_
       | refine r_pt (by simp (disch:=first|decide|(simp only[zF,zG,hnt, t4, ek, el];decide)) only [zA,zB,zC,zD,zE,zF,zG,zH,zI,zJ,zK,HV.cells,fl0,fl2,flS,flS1,flI1,flU1,flU2,flF,hnt, t4, ek, el]; first|done|exact rfl) (by simp (disch:=first|decide|(simp only[zF,zG,hnt, t4, ek, el];decide)) only [zA,zB,zC,zD,zE,zF,zG,zH,zI,zJ,zK,HV.cells,fl0,fl2,flS,flS1,flI1,flU1,flU2,flF,hnt, t4, ek, el]; try exact rfl) ?_
       | refine r_pf (by simp (disch:=first|decide|(simp only[zF,zG,hnt, t4, ek, el];decide)) only [zA,zB,zC,zD,zE,zF,zG,zH,zI,zJ,zK,HV.cells,fl0,fl2,flS,flS1,flI1,flU1,flU2,flF,hnt, t4, ek, el]; first|done|exact rfl) (by simp (disch:=first|decide|(simp only[zF,zG,hnt, t4, ek, el];decide)) only [zA,zB,zC,zD,zE,zF,zG,zH,zI,zJ,zK,HV.cells,fl0,fl2,flS,flS1,flI1,flU1,flU2,flF,hnt, t4, ek, el]; try exact rfl) ?_
       | refine r_len (by simp (disch:=first|decide|(simp only[zF,zG,hnt, t4, ek, el];decide)) only [zA,zB,zC,zD,zE,zF,zG,zH,zI,zJ,zK,HV.cells,fl0,fl2,flS,flS1,flI1,flU1,flU2,flF,hnt, t4, ek, el]; try exact rfl) ?_
       | refine r_ixs (by simp (disch:=first|decide|(simp only[zF,zG,hnt, t4, ek, el];decide)) only [zA,zB,zC,zD,zE,zF,zG,zH,zI,zJ,zK,HV.cells,fl0,fl2,flS,flS1,flI1,flU1,flU2,flF,hnt, t4, ek, el]; try exact rfl) (by simp (disch:=first|decide|(simp only[zF,zG,hnt, t4, ek, el];decide)) only [zA,zB,zC,zD,zE,zF,zG,zH,zI,zJ,zK,HV.cells,fl0,fl2,flS,flS1,flI1,flU1,flU2,flF,hnt, t4, ek, el]; try exact rfl) (by omega) ?_
       | refine w_draw (by omega) (by (repeat' first|assumption|refine D.upd ?_ (by omega)|exact D.mono (by assumption) (by omega)) <;> fail) ?_
       | refine d_nil ?_
       | refine d_rest rfl ?_
       | refine d_al2 rfl rfl rfl ?_
       | refine d_bs rfl ?_
       | refine d_box rfl ?_
       | refine d_alloc rfl ?_
       | refine d_one rfl ?_
       | refine d_next (by omega) ?_
       | refine d_laid ?_
       | fail
      refine loop102 hlen hcp H m (j + 1) _ _ _ (by omega) hI2 ?_ ?_ ?_ ?_ ?_ ?_ hq
      all_goals first|(simp only [zL,zM,zF,zG,hnt, hds, t0, t1, t2, ek, el];done)|(simp (disch:=first|decide|(simp only[zF,zG,hnt, hds, t0, t1, t2, ek, el];decide)) only [zA,zB,zC,zD,zE,zF,zG,zH,zI,zJ,zK,HV.cells,fl0,fl2,flS,flS1,flI1,flU1,flU2,flF,hnt, hds, t0, t1, t2, ek, el];first|done|exact rfl)|assumption
    · repeat' first
       | refine r_nil ?_
       | refine th_n ?_
       | refine th_r ?_
       | refine th_e ?_
       | refine ib_n ?_
       | refine ib_r ?_
       | refine ib_e ?_
       | refine ib_x (by decide) ?_
       | refine w_exit ?_
       | refine w_seq ?_
       | refine w_reg ?_
       | refine w_ret ?_
       | refine w_skip ?_
       | refine w_block ?_
       | refine w_t (by simp (disch:=first|decide|(simp only[zF,zG,hnt, t4, ek, el];decide)) only [zA,zB,zC,zD,zE,zF,zG,zH,zI,zJ,zK,HV.cells,fl0,fl2,flS,flS1,flI1,flU1,flU2,flF,hnt, t4, ek, el]; first|done|exact rfl) ?_
       | refine w_f (by simp (disch:=first|decide|(simp only[zF,zG,hnt, t4, ek, el];decide)) only [zA,zB,zC,zD,zE,zF,zG,zH,zI,zJ,zK,HV.cells,fl0,fl2,flS,flS1,flI1,flU1,flU2,flF,hnt, t4, ek, el]; first|done|exact rfl) ?_
       | refine r_take (by simp (disch:=first|decide|(simp only[zF,zG,hnt, t4, ek, el];decide)) only [zA,zB,zC,zD,zE,zF,zG,zH,zI,zJ,zK,HV.cells,fl0,fl2,flS,flS1,flI1,flU1,flU2,flF,hnt, t4, ek, el]; first|done|exact rfl) ?_
       | refine r_drop (by simp (disch:=first|decide|(simp only[zF,zG,Bool.not_true,Bool.not_false,hnt, t4, ek, el];decide)) only [zA,zB,zC,zD,zE,zF,zG,zH,zI,zJ,zK,HV.cells,fl0,fl2,flS,flS1,flI1,flU1,flU2,flF,Bool.not_true,Bool.not_false,hnt, t4, ek, el]; first|done|exact rfl) ?_
       | refine r_dropu (by simp (disch:=first|decide|(simp only[zF,zG,hnt, t4, ek, el];decide)) only [zA,zB,zC,zD,zE,zF,zG,zH,zI,zJ,zK,HV.cells,fl0,fl2,flS,flS1,flI1,flU1,flU2,flF,hnt, t4, ek, el]; first|done|exact rfl) ?_
       | refine r_move (by simp (disch:=first|decide|(simp only[zF,zG,hnt, t4, ek, el];decide)) only [zA,zB,zC,zD,zE,zF,zG,zH,zI,zJ,zK,HV.cells,fl0,fl2,flS,flS1,flI1,flU1,flU2,flF,hnt, t4, ek, el]; try exact rfl) ?_
       | refine r_ld1 (by simp (disch:=first|decide|(simp only[zF,zG,hnt, t4, ek, el];decide)) only [zA,zB,zC,zD,zE,zF,zG,zH,zI,zJ,zK,HV.cells,fl0,fl2,flS,flS1,flI1,flU1,flU2,flF,hnt, t4, ek, el]; try exact rfl) (by first|assumption|(simp (disch:=omega) only [get_same,get_other,hnt, t4, ek, el]; first|done|exact rfl)) (by first|assumption|exact ow2 _ _ _ _|exact ow3 _ _ _ _ _ _|rfl|(simp only [zI,zJ,HV.cells,hnt, t4, ek, el]; exact rfl)) ?_
       | refine r_ldn (by simp (disch:=first|decide|(simp only[zF,zG,hnt, t4, ek, el];decide)) only [zA,zB,zC,zD,zE,zF,zG,zH,zI,zJ,zK,HV.cells,fl0,fl2,flS,flS1,flI1,flU1,flU2,flF,hnt, t4, ek, el]; try exact rfl) (by first|assumption|(simp (disch:=omega) only [get_same,get_other,hnt, t4, ek, el]; first|done|exact rfl)) (by first|assumption|exact ow2 _ _ _ _|exact ow3 _ _ _ _ _ _|rfl|(simp only [zI,zJ,HV.cells,hnt, t4, ek, el]; exact rfl)) ?_
       | refine r_alloc ?_
       | refine r_st (cs' := _) (by simp (disch:=first|decide|(simp only[zF,zG,hnt, t4, ek, el];decide)) only [zA,zB,zC,zD,zE,zF,zG,zH,zI,zJ,zK,HV.cells,fl0,fl2,flS,flS1,flI1,flU1,flU2,flF,hnt, t4, ek, el]; try exact rfl) (by simp (disch:=first|decide|(simp only[zF,zG,hnt, t4, ek, el];decide)) only [zA,zB,zC,zD,zE,zF,zG,zH,zI,zJ,zK,HV.cells,fl0,fl2,flS,flS1,flI1,flU1,flU2,flF,hnt, t4, ek, el]; try exact rfl) (by first|assumption|(simp (disch:=omega) only [get_same,get_other,hnt, t4, ek, el]; first|done|exact rfl)) (by exact True.intro) (by rfl) (by rfl) (by first|assumption|exact ow2 _ _ _ _|exact ow3 _ _ _ _ _ _|rfl|(simp only [zI,zJ,HV.cells,hnt, t4, ek, el]; exact rfl)) (by omega) ?_
       | refine r_add (by simp (disch:=first|decide|(simp only[zF,zG,hnt, t4, ek, el];decide)) only [zA,zB,zC,zD,zE,zF,zG,zH,zI,zJ,zK,HV.cells,fl0,fl2,flS,flS1,flI1,flU1,flU2,flF,hnt, t4, ek, el]; try exact rfl) (by simp (disch:=first|decide|(simp only[zF,zG,hnt, t4, ek, el];decide)) only [zA,zB,zC,zD,zE,zF,zG,zH,zI,zJ,zK,HV.cells,fl0,fl2,flS,flS1,flI1,flU1,flU2,flF,hnt, t4, ek, el]; try exact rfl) (by omega) (by omega) ?_
       | refine r_sub (by simp (disch:=first|decide|(simp only[zF,zG,hnt, t4, ek, el];decide)) only [zA,zB,zC,zD,zE,zF,zG,zH,zI,zJ,zK,HV.cells,fl0,fl2,flS,flS1,flI1,flU1,flU2,flF,hnt, t4, ek, el]; try exact rfl) (by simp (disch:=first|decide|(simp only[zF,zG,hnt, t4, ek, el];decide)) only [zA,zB,zC,zD,zE,zF,zG,zH,zI,zJ,zK,HV.cells,fl0,fl2,flS,flS1,flI1,flU1,flU2,flF,hnt, t4, ek, el]; try exact rfl) (by omega) (by omega) ?_
       | refine r_lss (by simp (disch:=first|decide|(simp only[zF,zG,hnt, t4, ek, el];decide)) only [zA,zB,zC,zD,zE,zF,zG,zH,zI,zJ,zK,HV.cells,fl0,fl2,flS,flS1,flI1,flU1,flU2,flF,hnt, t4, ek, el]; try exact rfl) (by simp (disch:=first|decide|(simp only[zF,zG,hnt, t4, ek, el];decide)) only [zA,zB,zC,zD,zE,zF,zG,zH,zI,zJ,zK,HV.cells,fl0,fl2,flS,flS1,flI1,flU1,flU2,flF,hnt, t4, ek, el]; try exact rfl) (fun hc => ?_) (fun hc => ?_) <;> (try (exfalso; omega))
       | refine r_not1 (by simp (disch:=first|decide|(simp only[zF,zG,hnt, t4, ek, el];decide)) only [zA,zB,zC,zD,zE,zF,zG,zH,zI,zJ,zK,HV.cells,fl0,fl2,flS,flS1,flI1,flU1,flU2,flF,hnt, t4, ek, el]; try exact rfl) ?_
       | refine r_pt (by simp (disch:=first|decide|(simp only[zF,zG,hnt, t4, ek, el];decide)) only [zA,zB,zC,zD,zE,zF,zG,zH,zI,zJ,zK,HV.cells,fl0,fl2,flS,flS1,flI1,flU1,flU2,flF,hnt, t4, ek, el]; first|done|exact rfl) (by simp (disch:=first|decide|(simp only[zF,zG,hnt, t4, ek, el];decide)) only [zA,zB,zC,zD,zE,zF,zG,zH,zI,zJ,zK,HV.cells,fl0,fl2,flS,flS1,flI1,flU1,flU2,flF,hnt, t4, ek, el]; try exact rfl) ?_
       | refine r_pf (by simp (disch:=first|decide|(simp only[zF,zG,hnt, t4, ek, el];decide)) only [zA,zB,zC,zD,zE,zF,zG,zH,zI,zJ,zK,HV.cells,fl0,fl2,flS,flS1,flI1,flU1,flU2,flF,hnt, t4, ek, el]; first|done|exact rfl) (by simp (disch:=first|decide|(simp only[zF,zG,hnt, t4, ek, el];decide)) only [zA,zB,zC,zD,zE,zF,zG,zH,zI,zJ,zK,HV.cells,fl0,fl2,flS,flS1,flI1,flU1,flU2,flF,hnt, t4, ek, el]; try exact rfl) ?_
       | refine r_len (by simp (disch:=first|decide|(simp only[zF,zG,hnt, t4, ek, el];decide)) only [zA,zB,zC,zD,zE,zF,zG,zH,zI,zJ,zK,HV.cells,fl0,fl2,flS,flS1,flI1,flU1,flU2,flF,hnt, t4, ek, el]; try exact rfl) ?_
       | refine r_ixs (by simp (disch:=first|decide|(simp only[zF,zG,hnt, t4, ek, el];decide)) only [zA,zB,zC,zD,zE,zF,zG,zH,zI,zJ,zK,HV.cells,fl0,fl2,flS,flS1,flI1,flU1,flU2,flF,hnt, t4, ek, el]; try exact rfl) (by simp (disch:=first|decide|(simp only[zF,zG,hnt, t4, ek, el];decide)) only [zA,zB,zC,zD,zE,zF,zG,zH,zI,zJ,zK,HV.cells,fl0,fl2,flS,flS1,flI1,flU1,flU2,flF,hnt, t4, ek, el]; try exact rfl) (by omega) ?_
       | refine w_draw (by omega) (by (repeat' first|assumption|refine D.upd ?_ (by omega)|exact D.mono (by assumption) (by omega)) <;> fail) ?_
       | refine d_nil ?_
       | refine d_rest rfl ?_
       | refine d_al2 rfl rfl rfl ?_
       | refine d_bs rfl ?_
       | refine d_box rfl ?_
       | refine d_alloc rfl ?_
       | refine d_one rfl ?_
       | refine d_next (by omega) ?_
       | refine d_laid ?_
       | fail
      refine loop102 hlen hcp H m (j + 1) _ _ _ (by omega) (H.up _ _ _ _ _ (H.no j hj hc _ _ hI) (by repeat' first|assumption|refine Ext.put ?_ (by omega) (by omega)|exact Ext.up (by assumption) (by omega)|exact Ext.nx (by assumption) (by omega))) ?_ ?_ ?_ ?_ ?_ ?_ hq
      all_goals first|(simp only [zL,zM,zF,zG,hnt, hds, t0, t1, t2, ek, el];done)|(simp (disch:=first|decide|(simp only[zF,zG,hnt, hds, t0, t1, t2, ek, el];decide)) only [zA,zB,zC,zD,zE,zF,zG,zH,zI,zJ,zK,HV.cells,fl0,fl2,flS,flS1,flI1,flU1,flU2,flF,hnt, hds, t0, t1, t2, ek, el];first|done|exact rfl)|assumption
/- 102 -/
theorem c_around102 {I : Nat → Tr HBlk → Nat → Prop} {fl lb tb xb : Nat} {p : Option (Nat × Nat)} {l : List (Int × Int)} {cp : Nat} {x : Int} {h : Tr HBlk} {nx : Nat} (hlen : l.length < 1000000000) (hcp : l.length ≤ cp) (h0 : 0 < l.length) (H : Rng I fl lb tb xb p l cp x) (hI : I 0 h nx) :
    C LW fl 102 ([] ++ [.yield lb] ++ [.ptr (some (tb, 0)), .ptr (some (xb, 0))]) ⟨h, nx⟩ (fun v σ' => ∃ h' n', σ' = ⟨h', n'⟩ ∧ I (l.length - 1) h' n') := by
  refine c_im lw102 rfl rfl rfl ?_
  dsimp only [L102]
  repeat' first
   | refine r_nil ?_
   | refine th_n ?_
   | refine th_r ?_
   | refine th_e ?_
   | refine ib_n ?_
   | refine ib_r ?_
   | refine ib_e ?_
   | refine ib_x (by decide) ?_
   | refine w_exit ?_
   | refine w_seq ?_
   | refine w_reg ?_
   | refine w_ret ?_
   | refine w_skip ?_
   | refine w_block ?_
   | refine w_t (by simp (disch:=first|decide|(simp only[zF,zG];decide)) only [zA,zB,zC,zD,zE,zF,zG,zH,zI,zJ,zK,HV.cells,fl0,fl2,flS,flS1,flI1,flU1,flU2,flF]; first|done|exact rfl) ?_
   | refine w_f (by simp (disch:=first|decide|(simp only[zF,zG];decide)) only [zA,zB,zC,zD,zE,zF,zG,zH,zI,zJ,zK,HV.cells,fl0,fl2,flS,flS1,flI1,flU1,flU2,flF]; first|done|exact rfl) ?_
   | refine r_take (by simp (disch:=first|decide|(simp only[zF,zG];decide)) only [zA,zB,zC,zD,zE,zF,zG,zH,zI,zJ,zK,HV.cells,fl0,fl2,flS,flS1,flI1,flU1,flU2,flF]; first|done|exact rfl) ?_
   | refine r_drop (by simp (disch:=first|decide|(simp only[zF,zG,Bool.not_true,Bool.not_false];decide)) only [zA,zB,zC,zD,zE,zF,zG,zH,zI,zJ,zK,HV.cells,fl0,fl2,flS,flS1,flI1,flU1,flU2,flF,Bool.not_true,Bool.not_false]; first|done|exact rfl) ?_
   | refine r_dropu (by simp (disch:=first|decide|(simp only[zF,zG];decide)) only [zA,zB,zC,zD,zE,zF,zG,zH,zI,zJ,zK,HV.cells,fl0,fl2,flS,flS1,flI1,flU1,flU2,flF]; first|done|exact rfl) ?_
   | refine r_move (by simp (disch:=first|decide|(simp only[zF,zG];decide)) only [zA,zB,zC,zD,zE,zF,zG,zH,zI,zJ,zK,HV.cells,fl0,fl2,flS,flS1,flI1,flU1,flU2,flF]; try exact rfl) ?_
   | refine r_ld1 (by simp (disch:=first|decide|(simp only[zF,zG];decide)) only [zA,zB,zC,zD,zE,zF,zG,zH,zI,zJ,zK,HV.cells,fl0,fl2,flS,flS1,flI1,flU1,flU2,flF]; try exact rfl) (by first|assumption|(simp (disch:=omega) only [get_same,get_other]; first|done|exact rfl)) (by first|assumption|exact ow2 _ _ _ _|exact ow3 _ _ _ _ _ _|rfl|(simp only [zI,zJ,HV.cells]; exact rfl)) ?_
   | refine r_ldn (by simp (disch:=first|decide|(simp only[zF,zG];decide)) only [zA,zB,zC,zD,zE,zF,zG,zH,zI,zJ,zK,HV.cells,fl0,fl2,flS,flS1,flI1,flU1,flU2,flF]; try exact rfl) (by first|assumption|(simp (disch:=omega) only [get_same,get_other]; first|done|exact rfl)) (by first|assumption|exact ow2 _ _ _ _|exact ow3 _ _ _ _ _ _|rfl|(simp only [zI,zJ,HV.cells]; exact rfl)) ?_
   | refine r_alloc ?_
   | refine r_st (cs' := _) (by simp (disch:=first|decide|(simp only[zF,zG];decide)) only [zA,zB,zC,zD,zE,zF,zG,zH,zI,zJ,zK,HV.cells,fl0,fl2,flS,flS1,flI1,flU1,flU2,flF]; try exact rfl) (by simp (disch:=first|decide|(simp only[zF,zG];decide)) only [zA,zB,zC,zD,zE,zF,zG,zH,zI,zJ,zK,HV.cells,fl0,fl2,flS,flS1,flI1,flU1,flU2,flF]; try exact rfl) (by first|assumption|(simp (disch:=omega) only [get_same,get_other]; first|done|exact rfl)) (by exact True.intro) (by rfl) (by rfl) (by first|assumption|exact ow2 _ _ _ _|exact ow3 _ _ _ _ _ _|rfl|(simp only [zI,zJ,HV.cells]; exact rfl)) (by omega) ?_
   | refine r_add (by simp (disch:=first|decide|(simp only[zF,zG];decide)) only [zA,zB,zC,zD,zE,zF,zG,zH,zI,zJ,zK,HV.cells,fl0,fl2,flS,flS1,flI1,flU1,flU2,flF]; try exact rfl) (by simp (disch:=first|decide|(simp only[zF,zG];decide)) only [zA,zB,zC,zD,zE,zF,zG,zH,zI,zJ,zK,HV.cells,fl0,fl2,flS,flS1,flI1,flU1,flU2,flF]; try exact rfl) (by omega) (by omega) ?_
   | refine r_sub (by simp (disch:=first|decide|(simp only[zF,zG];decide)) only [zA,zB,zC,zD,zE,zF,zG,zH,zI,zJ,zK,HV.cells,fl0,fl2,flS,flS1,flI1,flU1,flU2,flF]; try exact rfl) (by simp (disch:=first|decide|(simp only[zF,zG];decide)) only [zA,zB,zC,zD,zE,zF,zG,zH,zI,zJ,zK,HV.cells,fl0,fl2,flS,flS1,flI1,flU1,flU2,flF]; try exact rfl) (by omega) (by omega) ?_
   | refine r_lss (by simp (disch:=first|decide|(simp only[zF,zG];decide)) only [zA,zB,zC,zD,zE,zF,zG,zH,zI,zJ,zK,HV.cells,fl0,fl2,flS,flS1,flI1,flU1,flU2,flF]; try exact rfl) (by simp (disch:=first|decide|(simp only[zF,zG];decide)) only [zA,zB,zC,zD,zE,zF,zG,zH,zI,zJ,zK,HV.cells,fl0,fl2,flS,flS1,flI1,flU1,flU2,flF]; try exact rfl) (fun hc => ?_) (fun hc => ?_) <;> (try (exfalso; omega))
   | refine r_not1 (by simp (disch:=first|decide|(simp only[zF,zG];decide)) only [zA,zB,zC,zD,zE,zF,zG,zH,zI,zJ,zK,HV.cells,fl0,fl2,flS,flS1,flI1,flU1,flU2,flF]; try exact rfl) ?_
   | refine r_pt (by simp (disch:=first|decide|(simp only[zF,zG];decide)) only [zA,zB,zC,zD,zE,zF,zG,zH,zI,zJ,zK,HV.cells,fl0,fl2,flS,flS1,flI1,flU1,flU2,flF]; first|done|exact rfl) (by simp (disch:=first|decide|(simp only[zF,zG];decide)) only [zA,zB,zC,zD,zE,zF,zG,zH,zI,zJ,zK,HV.cells,fl0,fl2,flS,flS1,flI1,flU1,flU2,flF]; try exact rfl) ?_
   | refine r_pf (by simp (disch:=first|decide|(simp only[zF,zG];decide)) only [zA,zB,zC,zD,zE,zF,zG,zH,zI,zJ,zK,HV.cells,fl0,fl2,flS,flS1,flI1,flU1,flU2,flF]; first|done|exact rfl) (by simp (disch:=first|decide|(simp only[zF,zG];decide)) only [zA,zB,zC,zD,zE,zF,zG,zH,zI,zJ,zK,HV.cells,fl0,fl2,flS,flS1,flI1,flU1,flU2,flF]; try exact rfl) ?_
   | refine r_len (by simp (disch:=first|decide|(simp only[zF,zG];decide)) only [zA,zB,zC,zD,zE,zF,zG,zH,zI,zJ,zK,HV.cells,fl0,fl2,flS,flS1,flI1,flU1,flU2,flF]; try exact rfl) ?_
   | refine r_ixs (by simp (disch:=first|decide|(simp only[zF,zG];decide)) only [zA,zB,zC,zD,zE,zF,zG,zH,zI,zJ,zK,HV.cells,fl0,fl2,flS,flS1,flI1,flU1,flU2,flF]; try exact rfl) (by simp (disch:=first|decide|(simp only[zF,zG];decide)) only [zA,zB,zC,zD,zE,zF,zG,zH,zI,zJ,zK,HV.cells,fl0,fl2,flS,flS1,flI1,flU1,flU2,flF]; try exact rfl) (by omega) ?_
   | refine w_draw (by omega) (by (repeat' first|assumption|refine D.upd ?_ (by omega)|exact D.mono (by assumption) (by omega)) <;> fail) ?_
   | refine d_nil ?_
   | refine d_rest rfl ?_
   | refine d_al2 rfl rfl rfl ?_
   | refine d_bs rfl ?_
   | refine d_box rfl ?_
   | refine d_alloc rfl ?_
   | refine d_one rfl ?_
   | refine d_next (by omega) ?_
   | refine d_laid ?_
   | fail
  refine loop102 hlen hcp H (l.length - 1) 0 _ _ _ (by omega) hI ?_ ?_ ?_ ?_ ?_ ?_ (fun a' h' n' g1 g2 g3 => ?_)
  all_goals try first|(simp only [zL,zM,zF,zG];done)|(simp (disch:=first|decide|(simp only[zF,zG];decide)) only [zA,zB,zC,zD,zE,zF,zG,zH,zI,zJ,zK,HV.cells,fl0,fl2,flS,flS1,flI1,flU1,flU2,flF];first|done|exact rfl)|assumption
  unfold Fim
  exact ⟨_, _, leave_many g3 res_nil, h', n', rfl, g1⟩
end Go.Hx

/- Layer 3, math: the height of steam at a pressure, step by step. -/
namespace Go.Hx
set_option linter.unusedVariables false
section
variable {P H : Nat → Int} {n : Nat} {x y : Int}
def stv (P H : Nat → Int) (x : Int) (j : Nat) : Int := H j + ((H (j + 1) - H j) * (x - P j)) / (P (j + 1) - P j)
def stg (P H : Nat → Int) (x : Int) : Nat → Int
  | 0 => 0
  | j + 1 => if P j ≤ x ∧ x ≤ P (j + 1) then stv P H x j else stg P H x j
structure Upw (P H : Nat → Int) (n : Nat) : Prop where
  p : ∀ j, j + 1 < n → P j < P (j + 1)
  h : ∀ j, j + 1 < n → H j < H (j + 1)
theorem up_p (u : Upw P H n) : ∀ k i, i + k < n → P i ≤ P (i + k)
  | 0, i, _ => Int.le_refl _
  | k + 1, i, hi => by
    have a := up_p u k i (by omega)
    have b := u.p (i + k) (by omega)
    rw [← Nat.add_assoc]; omega
theorem up_h (u : Upw P H n) : ∀ k i, i + k < n → H i ≤ H (i + k)
  | 0, i, _ => Int.le_refl _
  | k + 1, i, hi => by
    have a := up_h u k i (by omega)
    have b := u.h (i + k) (by omega)
    rw [← Nat.add_assoc]; omega
theorem up_p' (u : Upw P H n) {i j : Nat} (h : i ≤ j) (hj : j < n) : P i ≤ P j := by
  have := up_p u (j - i) i (by omega); rwa [show i + (j - i) = j by omega] at this
theorem up_h' (u : Upw P H n) {i j : Nat} (h : i ≤ j) (hj : j < n) : H i ≤ H j := by
  have := up_h u (j - i) i (by omega); rwa [show i + (j - i) = j by omega] at this
structure Seg (P : Nat → Int) (n : Nat) (x : Int) (i : Nat) : Prop where
  lt : i + 1 < n
  lo : P i ≤ x
  hi : x ≤ P (i + 1)
  min : ∀ k, k < i → P (k + 1) < x
theorem seg_go (hx : x ≤ P (n - 1)) : ∀ d m, m + d + 2 = n → (∀ k, k < m → P (k + 1) < x) → P m ≤ x → ∃ i, Seg P n x i
  | 0, m, hm, h1, h2 => ⟨m, by omega, h2, by rwa [show m + 1 = n - 1 by omega], h1⟩
  | d + 1, m, hm, h1, h2 => by
    by_cases h : x ≤ P (m + 1)
    · exact ⟨m, by omega, h2, h, h1⟩
    · refine seg_go hx d (m + 1) (by omega) (fun k hk => ?_) (by omega)
      by_cases e : k = m
      · subst e; omega
      · exact h1 k (by omega)
theorem seg_ex (h2 : 2 ≤ n) (h0 : P 0 ≤ x) (hx : x ≤ P (n - 1)) : ∃ i, Seg P n x i := seg_go hx (n - 2) 0 (by omega) (fun k hk => by omega) h0
theorem dv_le {a b c : Int} (hc : 0 < c) (h : a ≤ b * c) : a / c ≤ b := by
  have := Int.ediv_le_ediv hc h
  rwa [Int.mul_ediv_cancel _ (by omega)] at this
theorem stv_bd (u : Upw P H n) {i : Nat} (hi : i + 1 < n) (h1 : P i ≤ x) (h2 : x ≤ P (i + 1)) : H i ≤ stv P H x i ∧ stv P H x i ≤ H (i + 1) := by
  have a := u.p i hi
  have b := u.h i hi
  unfold stv
  have m0 : 0 ≤ (H (i + 1) - H i) * (x - P i) := Int.mul_nonneg (by omega) (by omega)
  have d0 : 0 ≤ ((H (i + 1) - H i) * (x - P i)) / (P (i + 1) - P i) := Int.ediv_nonneg m0 (by omega)
  have d1 : ((H (i + 1) - H i) * (x - P i)) / (P (i + 1) - P i) ≤ H (i + 1) - H i := dv_le (by omega) (Int.mul_le_mul_of_nonneg_left (by omega) (by omega))
  omega
theorem stv_mono (u : Upw P H n) {i : Nat} (hi : i + 1 < n) (h : x ≤ y) : stv P H x i ≤ stv P H y i := by
  have a := u.p i hi
  have b := u.h i hi
  unfold stv
  have := Int.ediv_le_ediv (show 0 < P (i + 1) - P i by omega) (Int.mul_le_mul_of_nonneg_left (show x - P i ≤ y - P i by omega) (show 0 ≤ H (i + 1) - H i by omega))
  omega
theorem stv_top (u : Upw P H n) {i : Nat} (hi : i + 1 < n) : stv P H (P (i + 1)) i = H (i + 1) := by
  have a := u.p i hi
  unfold stv
  rw [Int.mul_ediv_cancel _ (by omega)]; omega
theorem stv_bot {i : Nat} : stv P H (P i) i = H i := by
  unfold stv
  rw [Int.sub_self, Int.mul_zero, Int.zero_ediv]; omega
theorem stg_eq (u : Upw P H n) {i : Nat} (s : Seg P n x i) : ∀ k, i + 1 + k < n → stg P H x (i + 1 + k) = stv P H x i
  | 0, _ => by
    show stg P H x (i + 1) = _
    unfold stg
    rw [if_pos ⟨s.lo, s.hi⟩]
  | k + 1, hk => by
    show stg P H x (i + 1 + k + 1) = _
    unfold stg
    by_cases h : P (i + 1 + k) ≤ x ∧ x ≤ P (i + 1 + k + 1)
    · rw [if_pos h]
      have h3 := up_p u k (i + 1) (by omega)
      have h4 := s.hi
      have hx : x = P (i + 1) := by omega
      by_cases e : k = 0
      · subst e
        rw [Nat.add_zero]
        rw [hx, stv_top u s.lt, stv_bot]
      · exfalso
        have h5 := u.p (i + 1) (by omega)
        have h6 := up_p' u (i := i + 1 + 1) (j := i + 1 + k) (by omega) (by omega)
        omega
    · rw [if_neg h]; exact stg_eq u s k (by omega)
theorem stg_seg (u : Upw P H n) {i : Nat} (s : Seg P n x i) : stg P H x (n - 1) = stv P H x i := by
  have h := s.lt
  have := stg_eq u s (n - 1 - (i + 1)) (by omega)
  rwa [show i + 1 + (n - 1 - (i + 1)) = n - 1 by omega] at this
theorem stg_bd (u : Upw P H n) (h2 : 2 ≤ n) (h0 : P 0 ≤ x) (hx : x ≤ P (n - 1)) : H 0 ≤ stg P H x (n - 1) ∧ stg P H x (n - 1) ≤ H (n - 1) := by
  obtain ⟨i, s⟩ := seg_ex h2 h0 hx
  rw [stg_seg u s]
  have b := stv_bd u s.lt s.lo s.hi
  have l := s.lt
  have c := up_h' u (Nat.zero_le i) (by omega)
  have d := up_h' u (i := i + 1) (j := n - 1) (by omega) (by omega)
  omega
theorem stg_mono (u : Upw P H n) (h2 : 2 ≤ n) (h0 : P 0 ≤ x) (hxy : x ≤ y) (hy : y ≤ P (n - 1)) : stg P H x (n - 1) ≤ stg P H y (n - 1) := by
  obtain ⟨i, s⟩ := seg_ex h2 h0 (by omega : x ≤ P (n - 1))
  obtain ⟨k, t⟩ := seg_ex h2 (by omega : P 0 ≤ y) hy
  rw [stg_seg u s, stg_seg u t]
  have b1 := stv_bd u s.lt s.lo s.hi
  have b2 := stv_bd u t.lt t.lo t.hi
  rcases Nat.lt_trichotomy i k with h | h | h
  · have := up_h' u (i := i + 1) (j := k) (by omega) (by have := t.lt; omega)
    omega
  · subst h; exact stv_mono u s.lt hxy
  · exfalso
    have a := s.min k h
    have c := t.hi
    omega
end
end Go.Hx

/- Layer 3: the height of steam at a pressure. -/
namespace Go.Hx
set_option linter.unusedSimpArgs false
set_option linter.unusedVariables false
set_option maxRecDepth 20000
set_option maxHeartbeats 4000000
attribute [local irreducible] W R C thenH inBlockH
--dropu
noncomputable def AS66 : LCode := (.seq (.reg [⟨(.some 6), (.alloc [(.int .i64 0), (.int .i64 0)]), .none, []⟩, ⟨.none, (.store 2 (.t 6) (.t 12)), .none, []⟩]) (.reg [⟨(.some 7), (.alloc [(.int .i64 0), (.int .i64 0)]), .none, []⟩, ⟨.none, (.store 2 (.t 7) (.t 13)), .none, []⟩]))
noncomputable def BD66 : LCode := (.block 1 (.seq (.reg [⟨(.some 14), (.fieldAddr 1 (.t 7)), .none, []⟩, ⟨(.some 15), (.load .false 1 (.t 14)), .none, []⟩, ⟨(.some 16), (.fieldAddr 1 (.t 6)), .none, []⟩, ⟨(.some 17), (.load .false 1 (.t 16)), .none, []⟩, ⟨(.some 18), (.bin .sub (.t 15) (.t 17)), .none, []⟩, ⟨(.some 19), (.load .false 1 (.t 3)), .none, []⟩, ⟨(.some 20), (.fieldAddr 0 (.t 6)), .none, []⟩, ⟨(.some 21), (.load .false 1 (.t 20)), .none, []⟩, ⟨(.some 22), (.bin .sub (.t 19) (.t 21)), .none, []⟩, ⟨(.some 23), (.bin .mul (.t 18) (.t 22)), .none, []⟩, ⟨(.some 24), (.fieldAddr 0 (.t 7)), .none, []⟩, ⟨(.some 25), (.load .false 1 (.t 24)), .none, []⟩, ⟨(.some 26), (.fieldAddr 0 (.t 6)), .none, []⟩, ⟨(.some 27), (.load .false 1 (.t 26)), .none, []⟩, ⟨(.some 28), (.bin .sub (.t 25) (.t 27)), .none, []⟩, ⟨(.some 29), (.build [(.int .i64 0), (.int .i64 0)] [(0, (1, (.t 23))), (1, (1, (.t 28)))]), .none, []⟩, ⟨(.some 8), (.alloc [(.int .i64 0), (.int .i64 0)]), .none, []⟩, ⟨.none, (.store 2 (.t 8) (.t 29)), .none, []⟩]) (.draw 4 [⟨(.some 30), (.fieldAddr 1 (.t 6)), .none, []⟩, ⟨(.some 31), (.load .false 1 (.t 30)), .none, []⟩, ⟨(.some 32), (.load .true 2 (.t 8)), .none, []⟩, ⟨(.some 33), (.call (.c (.func 91 [] [])) [(.t 32)]), .none, []⟩, ⟨(.some 34), (.bin .add (.t 31) (.t 33)), .none, [3]⟩, ⟨.none, (.store 1 (.t 5) (.t 34)), .none, [3]⟩])))
section
variable {fl : Nat} {a : HAct} {h : Tr HBlk} {nx : Nat}
theorem fin_mark {σ0 : HS} {t m : Nat} {K : HV → HS → Prop} {v : HV} (hd : a.defers = [m]) (hg : h.get m = some .marks) (hm : σ0.nx ≤ m) (hv : a.tmp t = v) (hk : K v (gcH σ0 ⟨h.set m none, nx⟩ v)) : Fin σ0 [.t t] K .ret a ⟨h, nx⟩ := by
  unfold Fin
  exact ⟨_, _, leave_mark hd hg hm (res_t hv res_nil), hk⟩
end
theorem YS.mono {fl lb : Nat} {args : List HV} {h : Tr HBlk} {nx : Nat} {K K' : Tr HBlk → Nat → Prop} (hs : YS fl lb args h nx K) (hk : ∀ h' n', K h' n' → K' h' n') : YS fl lb args h nx K' := by
  unfold YS at *
  exact fun os N a dst f xs anc hf ha hn => hs os N a dst f xs anc hf ha fun h' n' e => hn h' n' (hk h' n' e)
def pP (l : List (Int × Int)) (j : Nat) : Int := (l.getD j (0, 0)).1
def pH (l : List (Int × Int)) (j : Nat) : Int := (l.getD j (0, 0)).2
theorem pP_at {l : List (Int × Int)} {j : Nat} (h : j < l.length) : pP l j = l[j].1 := by unfold pP; rw [List.getD_eq_getElem?_getD, List.getElem?_eq_getElem h]; rfl
theorem pH_at {l : List (Int × Int)} {j : Nat} (h : j < l.length) : pH l j = l[j].2 := by unfold pH; rw [List.getD_eq_getElem?_getD, List.getElem?_eq_getElem h]; rfl
def stp (l : List (Int × Int)) (x : Int) : Int := stg (pP l) (pH l) x (l.length - 1)
theorem tb_ok {l : List (Int × Int)} (h : chkT l = 0) : TbOk l := by
  unfold chkT at h
  split at h
  · split at h
    · assumption
    · cases h
  · cases h
theorem ris_at : ∀ {l : List (Int × Int)}, Ris l → ∀ (j : Nat) (hj : j + 1 < l.length), Pre l[j] l[j + 1]
  | [], _, j, hj => by simp at hj
  | [s], _, j, hj => by simp at hj
  | s :: q :: l, h, 0, hj => h.1
  | s :: q :: l, h, j + 1, hj => ris_at (l := q :: l) h.2 j (by simpa using hj)
theorem up_tb {l : List (Int × Int)} (h : TbOk l) : Upw (pP l) (pH l) l.length :=
  ⟨fun j hj => by rw [pP_at (by omega), pP_at hj]; exact (ris_at h.2.2 j hj).1, fun j hj => by rw [pH_at (by omega), pH_at hj]; exact (ris_at h.2.2 j hj).2⟩
/- 66 -/
theorem round66 {fl lb mb hb xb : Nat} {T : Tr HV} {h : Tr HBlk} {nx : Nat} {u v : Int × Int} {x w : Int} (hd : D h nx) (hfl : fl ≤ lb) (hfh : fl ≤ hb) (hlb : lb < nx) (hhb : hb < nx) (hxb : xb < nx) (n1 : hb ≠ lb) (n2 : hb ≠ xb) (n3 : xb ≠ lb)
    (gl : h.get lb = some (.loop ⟨.ready, .normal, 36, T, [12, 13], AS66, BD66, mb⟩)) (gh : h.get hb = some (.cells [i64 w] .exact)) (gx : h.get xb = some (.cells [i64 x] .exact)) (t3 : (⟨36, T, []⟩ : HAct).tmp 3 = .ptr (some (xb, 0))) (t5 : (⟨36, T, []⟩ : HAct).tmp 5 = .ptr (some (hb, 0)))
    (su : StOk u) (sv : StOk v) (hp : Pre u v) (hx1 : u.1 ≤ x) (hx2 : x ≤ v.1) :
    YS fl lb [.agg (renc u), .agg (renc v)] h nx (fun h' n' => nx ≤ n' ∧ D h' n' ∧ h'.get hb = some (.cells [i64 (u.2 + ((v.2 - u.2) * (x - u.1)) / (v.1 - u.1))] .exact) ∧ ∀ b, b < nx → b ≠ hb → h'.get b = h.get b) := by
  unfold StOk at su sv
  unfold Pre at hp
  unfold YS
  intro os N a dst f xs anc hf ha hk
  have m0 : 0 ≤ (v.2 - u.2) * (x - u.1) := Int.mul_nonneg (by omega) (by omega)
  have m1 : (v.2 - u.2) * (x - u.1) ≤ 2000 * 2000 := Int.mul_le_mul (by omega) (by omega) (by omega) (by omega)
  have d0 : 0 ≤ ((v.2 - u.2) * (x - u.1)) / (v.1 - u.1) := Int.ediv_nonneg m0 (by omega)
  have d1 : ((v.2 - u.2) * (x - u.1)) / (v.1 - u.1) ≤ (v.2 - u.2) * (x - u.1) := Int.ediv_le_self _ m0
  have hB : Big ((v.2 - u.2) * (x - u.1)) := by unfold Big; omega
  have cD : ∀ fl h' n', C LW fl 91 [.agg [i64 ((v.2 - u.2) * (x - u.1)), i64 (v.1 - u.1)]] ⟨h', n'⟩ (Sc (· = i64 (((v.2 - u.2) * (x - u.1)) / (v.1 - u.1))) ⟨h', n'⟩) := fun fl h' n' => c_down hB (by omega)
  have ow : ∀ r : Int × Int, overwrite [i64 0, i64 0] 0 (HV.agg (renc r)).cells = some (renc r) := fun r => rfl
  have ow2 : ∀ p q : Int, overwrite [i64 0, i64 0] 0 (HV.agg [i64 p, i64 q]).cells = some [i64 p, i64 q] := fun p q => rfl
  have ow1 : ∀ p q : Int, overwrite [i64 p] 0 (i64 q).cells = some [i64 q] := fun p q => rfl
  have tk2 : ∀ p q : Int, takeN 2 ([i64 p, i64 q].drop 0) = some [i64 p, i64 q] := fun p q => rfl
  refine r_yield hf ha gl rfl ?_
  have z12 : (⟨36, (T.set 12 (some (.agg (renc u)))).set 13 (some (.agg (renc v))), []⟩ : HAct).tmp 12 = .agg (renc u) := by
    show (((T.set 12 (some (.agg (renc u)))).set 13 (some (.agg (renc v)))).get 12).getD .undef = _
    rw [Tr.get_set, if_neg (by decide), Tr.get_set, if_pos rfl]; rfl
  have z13 : (⟨36, (T.set 12 (some (.agg (renc u)))).set 13 (some (.agg (renc v))), []⟩ : HAct).tmp 13 = .agg (renc v) := by
    show (((T.set 12 (some (.agg (renc u)))).set 13 (some (.agg (renc v)))).get 13).getD .undef = _
    rw [Tr.get_set, if_pos rfl]; rfl
  have z3 : (⟨36, (T.set 12 (some (.agg (renc u)))).set 13 (some (.agg (renc v))), []⟩ : HAct).tmp 3 = .ptr (some (xb, 0)) := by
    rw [← t3]
    show (((T.set 12 (some (.agg (renc u)))).set 13 (some (.agg (renc v)))).get 3).getD .undef = (T.get 3).getD .undef
    rw [Tr.get_set, if_neg (by decide), Tr.get_set, if_neg (by decide)]
  have z5 : (⟨36, (T.set 12 (some (.agg (renc u)))).set 13 (some (.agg (renc v))), []⟩ : HAct).tmp 5 = .ptr (some (hb, 0)) := by
    rw [← t5]
    show (((T.set 12 (some (.agg (renc u)))).set 13 (some (.agg (renc v)))).get 5).getD .undef = (T.get 5).getD .undef
    rw [Tr.get_set, if_neg (by decide), Tr.get_set, if_neg (by decide)]
  have key : ∀ a0 : HAct, a0.nt = 36 → a0.defers = [] → a0.tmp 12 = .agg (renc u) → a0.tmp 13 = .agg (renc v) → a0.tmp 3 = .ptr (some (xb, 0)) → a0.tmp 5 = .ptr (some (hb, 0)) → W LW fl (some lb) AS66 (YA LW fl lb BD66 os N a dst) a0 ⟨h, nx⟩ := by
    intro a0 hnt hds t12 t13 t3 t5
    unfold AS66
    repeat' first
     | refine r_nil ?_
     | refine th_n ?_
     | refine th_r ?_
     | refine ib_n ?_
     | refine ib_r ?_
     | refine w_seq ?_
     | refine w_reg ?_
     | refine w_ret ?_
     | refine w_skip ?_
     | refine w_block ?_
     | refine r_move (by simp (disch:=first|decide|(simp only[zF,zG,hnt, t12, t13, t3, t5];decide)) only [zA,zB,zC,zD,zE,zF,zG,zH,zI,zJ,zK,HV.cells,fl0,fl2,flS,flS1,flI1,flU1,flU2,flF,hnt, t12, t13, t3, t5]; try exact rfl) ?_
     | refine r_fa (by simp (disch:=first|decide|(simp only[zF,zG,hnt, t12, t13, t3, t5];decide)) only [zA,zB,zC,zD,zE,zF,zG,zH,zI,zJ,zK,HV.cells,fl0,fl2,flS,flS1,flI1,flU1,flU2,flF,hnt, t12, t13, t3, t5]; try exact rfl) ?_
     | refine r_ld1 (by simp (disch:=first|decide|(simp only[zF,zG,hnt, t12, t13, t3, t5];decide)) only [zA,zB,zC,zD,zE,zF,zG,zH,zI,zJ,zK,HV.cells,fl0,fl2,flS,flS1,flI1,flU1,flU2,flF,hnt, t12, t13, t3, t5]; try exact rfl) (by first|assumption|(simp (disch:=omega) only [get_same,get_other,hnt, t12, t13, t3, t5]; first|done|exact rfl)) (by first|assumption|exact ow2 _ _ _ _|exact ow3 _ _ _ _ _ _|rfl|(simp only [zI,zJ,HV.cells,hnt, t12, t13, t3, t5]; exact rfl)) ?_
     | refine r_ldn (by simp (disch:=first|decide|(simp only[zF,zG,hnt, t12, t13, t3, t5];decide)) only [zA,zB,zC,zD,zE,zF,zG,zH,zI,zJ,zK,HV.cells,fl0,fl2,flS,flS1,flI1,flU1,flU2,flF,hnt, t12, t13, t3, t5]; try exact rfl) (by first|assumption|(simp (disch:=omega) only [get_same,get_other,hnt, t12, t13, t3, t5]; first|done|exact rfl)) (by first|assumption|exact ow2 _ _ _ _|exact ow3 _ _ _ _ _ _|rfl|(simp only [zI,zJ,HV.cells,hnt, t12, t13, t3, t5]; exact rfl)) ?_
     | refine r_box (by simp (disch:=first|decide|(simp only[zF,zG,hnt, t12, t13, t3, t5];decide)) only [zA,zB,zC,zD,zE,zF,zG,zH,zI,zJ,zK,HV.cells,fl0,fl2,flS,flS1,flI1,flU1,flU2,flF,hnt, t12, t13, t3, t5]; try exact rfl) ?_
     | refine r_alloc ?_
     | refine r_st (cs' := _) (by simp (disch:=first|decide|(simp only[zF,zG,hnt, t12, t13, t3, t5];decide)) only [zA,zB,zC,zD,zE,zF,zG,zH,zI,zJ,zK,HV.cells,fl0,fl2,flS,flS1,flI1,flU1,flU2,flF,hnt, t12, t13, t3, t5]; try exact rfl) (by simp (disch:=first|decide|(simp only[zF,zG,hnt, t12, t13, t3, t5];decide)) only [zA,zB,zC,zD,zE,zF,zG,zH,zI,zJ,zK,HV.cells,fl0,fl2,flS,flS1,flI1,flU1,flU2,flF,hnt, t12, t13, t3, t5]; try exact rfl) (by first|assumption|(simp (disch:=omega) only [get_same,get_other,hnt, t12, t13, t3, t5]; first|done|exact rfl)) (by exact True.intro) (by rfl) (by rfl) (by first|assumption|exact ow2 _ _ _ _|exact ow3 _ _ _ _ _ _|rfl|(simp only [zI,zJ,HV.cells,hnt, t12, t13, t3, t5]; exact rfl)) (by omega) ?_
     | refine r_add (by simp (disch:=first|decide|(simp only[zF,zG,hnt, t12, t13, t3, t5];decide)) only [zA,zB,zC,zD,zE,zF,zG,zH,zI,zJ,zK,HV.cells,fl0,fl2,flS,flS1,flI1,flU1,flU2,flF,hnt, t12, t13, t3, t5]; try exact rfl) (by simp (disch:=first|decide|(simp only[zF,zG,hnt, t12, t13, t3, t5];decide)) only [zA,zB,zC,zD,zE,zF,zG,zH,zI,zJ,zK,HV.cells,fl0,fl2,flS,flS1,flI1,flU1,flU2,flF,hnt, t12, t13, t3, t5]; try exact rfl) (by omega) (by omega) ?_
     | refine r_sub (by simp (disch:=first|decide|(simp only[zF,zG,hnt, t12, t13, t3, t5];decide)) only [zA,zB,zC,zD,zE,zF,zG,zH,zI,zJ,zK,HV.cells,fl0,fl2,flS,flS1,flI1,flU1,flU2,flF,hnt, t12, t13, t3, t5]; try exact rfl) (by simp (disch:=first|decide|(simp only[zF,zG,hnt, t12, t13, t3, t5];decide)) only [zA,zB,zC,zD,zE,zF,zG,zH,zI,zJ,zK,HV.cells,fl0,fl2,flS,flS1,flI1,flU1,flU2,flF,hnt, t12, t13, t3, t5]; try exact rfl) (by omega) (by omega) ?_
     | refine r_mul (by simp (disch:=first|decide|(simp only[zF,zG,hnt, t12, t13, t3, t5];decide)) only [zA,zB,zC,zD,zE,zF,zG,zH,zI,zJ,zK,HV.cells,fl0,fl2,flS,flS1,flI1,flU1,flU2,flF,hnt, t12, t13, t3, t5]; try exact rfl) (by simp (disch:=first|decide|(simp only[zF,zG,hnt, t12, t13, t3, t5];decide)) only [zA,zB,zC,zD,zE,zF,zG,zH,zI,zJ,zK,HV.cells,fl0,fl2,flS,flS1,flI1,flU1,flU2,flF,hnt, t12, t13, t3, t5]; try exact rfl) (by omega) (by omega) ?_
     | refine r_build (by simp (disch:=first|decide|(simp only[zF,zG,hnt, t12, t13, t3, t5];decide)) only [evParts,List.map_cons,List.map_nil,List.nil_append,List.cons_append,List.append_nil,zA,zB,zC,zD,zE,zF,zG,zH,zI,zJ,zK,HV.cells,fl0,fl2,flS,flS1,flI1,flU1,flU2,flF,hnt, t12, t13, t3, t5]; try exact rfl) ?_
     | refine w_draw (by omega) (by (repeat' first|assumption|refine D.upd ?_ (by omega)|exact D.mono (by assumption) (by omega)) <;> fail) ?_
     | refine d_nil ?_
     | refine d_rest rfl ?_
     | refine d_al2 rfl rfl rfl ?_
     | refine d_bs rfl ?_
     | refine d_box rfl ?_
     | refine d_alloc rfl ?_
     | refine d_one rfl ?_
     | refine d_next (by omega) ?_
     | refine d_laid ?_
     | fail
    unfold YA
    refine ⟨rfl, ⟨.ready, .normal, 36, T, [12, 13], AS66, BD66, mb⟩, (by first|assumption|(simp (disch:=omega) only [get_same,get_other,gl]; first|done|exact rfl)), rfl, hfl, ?_⟩
    dsimp only
    unfold BD66
    repeat' first
     | refine r_nil ?_
     | refine th_n ?_
     | refine th_r ?_
     | refine ib_n ?_
     | refine ib_r ?_
     | refine w_seq ?_
     | refine w_reg ?_
     | refine w_ret ?_
     | refine w_skip ?_
     | refine w_block ?_
     | refine r_move (by simp (disch:=first|decide|(simp only[zF,zG,hnt, t12, t13, t3, t5, gx, gh];decide)) only [zA,zB,zC,zD,zE,zF,zG,zH,zI,zJ,zK,HV.cells,fl0,fl2,flS,flS1,flI1,flU1,flU2,flF,hnt, t12, t13, t3, t5, gx, gh]; try exact rfl) ?_
     | refine r_fa (by simp (disch:=first|decide|(simp only[zF,zG,hnt, t12, t13, t3, t5, gx, gh];decide)) only [zA,zB,zC,zD,zE,zF,zG,zH,zI,zJ,zK,HV.cells,fl0,fl2,flS,flS1,flI1,flU1,flU2,flF,hnt, t12, t13, t3, t5, gx, gh]; try exact rfl) ?_
     | refine r_ld1 (by simp (disch:=first|decide|(simp only[zF,zG,hnt, t12, t13, t3, t5, gx, gh];decide)) only [zA,zB,zC,zD,zE,zF,zG,zH,zI,zJ,zK,HV.cells,fl0,fl2,flS,flS1,flI1,flU1,flU2,flF,hnt, t12, t13, t3, t5, gx, gh]; try exact rfl) (by first|assumption|(simp (disch:=omega) only [get_same,get_other,hnt, t12, t13, t3, t5, gx, gh]; first|done|exact rfl)) (by first|assumption|exact ow2 _ _ _ _|exact ow3 _ _ _ _ _ _|rfl|(simp only [zI,zJ,HV.cells,hnt, t12, t13, t3, t5, gx, gh]; exact rfl)) ?_
     | refine r_ldn (by simp (disch:=first|decide|(simp only[zF,zG,hnt, t12, t13, t3, t5, gx, gh];decide)) only [zA,zB,zC,zD,zE,zF,zG,zH,zI,zJ,zK,HV.cells,fl0,fl2,flS,flS1,flI1,flU1,flU2,flF,hnt, t12, t13, t3, t5, gx, gh]; try exact rfl) (by first|assumption|(simp (disch:=omega) only [get_same,get_other,hnt, t12, t13, t3, t5, gx, gh]; first|done|exact rfl)) (by first|assumption|exact ow2 _ _ _ _|exact ow3 _ _ _ _ _ _|rfl|(simp only [zI,zJ,HV.cells,hnt, t12, t13, t3, t5, gx, gh]; exact rfl)) ?_
     | refine r_box (by simp (disch:=first|decide|(simp only[zF,zG,hnt, t12, t13, t3, t5, gx, gh];decide)) only [zA,zB,zC,zD,zE,zF,zG,zH,zI,zJ,zK,HV.cells,fl0,fl2,flS,flS1,flI1,flU1,flU2,flF,hnt, t12, t13, t3, t5, gx, gh]; try exact rfl) ?_
     | refine r_alloc ?_
     | refine r_st (cs' := _) (by simp (disch:=first|decide|(simp only[zF,zG,hnt, t12, t13, t3, t5, gx, gh];decide)) only [zA,zB,zC,zD,zE,zF,zG,zH,zI,zJ,zK,HV.cells,fl0,fl2,flS,flS1,flI1,flU1,flU2,flF,hnt, t12, t13, t3, t5, gx, gh]; try exact rfl) (by simp (disch:=first|decide|(simp only[zF,zG,hnt, t12, t13, t3, t5, gx, gh];decide)) only [zA,zB,zC,zD,zE,zF,zG,zH,zI,zJ,zK,HV.cells,fl0,fl2,flS,flS1,flI1,flU1,flU2,flF,hnt, t12, t13, t3, t5, gx, gh]; try exact rfl) (by first|assumption|(simp (disch:=omega) only [get_same,get_other,hnt, t12, t13, t3, t5, gx, gh]; first|done|exact rfl)) (by exact True.intro) (by rfl) (by rfl) (by first|assumption|exact ow2 _ _ _ _|exact ow3 _ _ _ _ _ _|rfl|(simp only [zI,zJ,HV.cells,hnt, t12, t13, t3, t5, gx, gh]; exact rfl)) (by omega) ?_
     | refine r_add (by simp (disch:=first|decide|(simp only[zF,zG,hnt, t12, t13, t3, t5, gx, gh];decide)) only [zA,zB,zC,zD,zE,zF,zG,zH,zI,zJ,zK,HV.cells,fl0,fl2,flS,flS1,flI1,flU1,flU2,flF,hnt, t12, t13, t3, t5, gx, gh]; try exact rfl) (by simp (disch:=first|decide|(simp only[zF,zG,hnt, t12, t13, t3, t5, gx, gh];decide)) only [zA,zB,zC,zD,zE,zF,zG,zH,zI,zJ,zK,HV.cells,fl0,fl2,flS,flS1,flI1,flU1,flU2,flF,hnt, t12, t13, t3, t5, gx, gh]; try exact rfl) (by omega) (by omega) ?_
     | refine r_sub (by simp (disch:=first|decide|(simp only[zF,zG,hnt, t12, t13, t3, t5, gx, gh];decide)) only [zA,zB,zC,zD,zE,zF,zG,zH,zI,zJ,zK,HV.cells,fl0,fl2,flS,flS1,flI1,flU1,flU2,flF,hnt, t12, t13, t3, t5, gx, gh]; try exact rfl) (by simp (disch:=first|decide|(simp only[zF,zG,hnt, t12, t13, t3, t5, gx, gh];decide)) only [zA,zB,zC,zD,zE,zF,zG,zH,zI,zJ,zK,HV.cells,fl0,fl2,flS,flS1,flI1,flU1,flU2,flF,hnt, t12, t13, t3, t5, gx, gh]; try exact rfl) (by omega) (by omega) ?_
     | refine r_mul (by simp (disch:=first|decide|(simp only[zF,zG,hnt, t12, t13, t3, t5, gx, gh];decide)) only [zA,zB,zC,zD,zE,zF,zG,zH,zI,zJ,zK,HV.cells,fl0,fl2,flS,flS1,flI1,flU1,flU2,flF,hnt, t12, t13, t3, t5, gx, gh]; try exact rfl) (by simp (disch:=first|decide|(simp only[zF,zG,hnt, t12, t13, t3, t5, gx, gh];decide)) only [zA,zB,zC,zD,zE,zF,zG,zH,zI,zJ,zK,HV.cells,fl0,fl2,flS,flS1,flI1,flU1,flU2,flF,hnt, t12, t13, t3, t5, gx, gh]; try exact rfl) (by omega) (by omega) ?_
     | refine r_build (by simp (disch:=first|decide|(simp only[zF,zG,hnt, t12, t13, t3, t5, gx, gh];decide)) only [evParts,List.map_cons,List.map_nil,List.nil_append,List.cons_append,List.append_nil,zA,zB,zC,zD,zE,zF,zG,zH,zI,zJ,zK,HV.cells,fl0,fl2,flS,flS1,flI1,flU1,flU2,flF,hnt, t12, t13, t3, t5, gx, gh]; try exact rfl) ?_
     | refine r_calls (by simp (disch:=first|decide|(simp only[zF,zG,hnt, t12, t13, t3, t5, gx, gh];decide)) only [zA,zB,zC,zD,zE,zF,zG,zH,zI,zJ,zK,HV.cells,fl0,fl2,flS,flS1,flI1,flU1,flU2,flF,hnt, t12, t13, t3, t5, gx, gh]; try exact rfl) (by simp (disch:=first|decide|(simp only[zF,zG,hnt, t12, t13, t3, t5, gx, gh];decide)) only [List.map_cons,List.map_nil,List.nil_append,List.cons_append,List.append_nil,zA,zB,zC,zD,zE,zF,zG,zH,zI,zJ,zK,HV.cells,fl0,fl2,flS,flS1,flI1,flU1,flU2,flF,hnt, t12, t13, t3, t5, gx, gh]; first|done|exact rfl) (cD _ _ _) (fun n' hn' => ?_)
     | refine w_draw (by omega) (by (repeat' first|assumption|refine D.upd ?_ (by omega)|exact D.mono (by assumption) (by omega)) <;> fail) ?_
     | refine d_nil ?_
     | refine d_rest rfl ?_
     | refine d_al2 rfl rfl rfl ?_
     | refine d_bs rfl ?_
     | refine d_box rfl ?_
     | refine d_alloc rfl ?_
     | refine d_one rfl ?_
     | refine d_next (by omega) ?_
     | refine d_laid ?_
     | fail
    unfold YB
    refine ⟨⟨.busy, .normal, 36, T, [12, 13], AS66, BD66, mb⟩, (by first|assumption|(simp (disch:=omega) only [get_same,get_other]; first|done|exact rfl)), fun _ => ?_, fun e => absurd rfl e⟩
    dsimp only
    refine hk _ _ ⟨by omega, (by (repeat' first|assumption|refine D.upd ?_ (by omega)|exact D.mono (by assumption) (by omega)) <;> fail), (by first|assumption|(simp (disch:=omega) only [get_same,get_other]; first|done|exact rfl)), fun b hb1 hb2 => ?_⟩
    by_cases e : b = lb
    · subst e; rw [get_same, gl]
    · simp (disch := omega) only [get_other]
  exact key _ rfl rfl z12 z13 z3 z5
theorem range66 {fl n0 hb xb tb : Nat} {a : HAct} {h0 h : Tr HBlk} {nx : Nat} {Q : HExit → HAct → HS → Prop} {p : Option (Nat × Nat)} {l : List (Int × Int)} {cp : Nat} {x : Int} (hlen : l.length < 1000000000) (hcp : l.length ≤ cp) (he : Ext h0 n0 h nx) (hfl : fl ≤ n0) (hrow : Row renc 2 h0 n0 p l) (ht : TbOk l)
    (b1 : n0 ≤ hb ∧ hb < nx) (b2 : xb < nx) (b3 : tb < nx) (n2 : hb ≠ xb) (n3 : hb ≠ tb) (b4 : n0 ≤ xb) (b5 : n0 ≤ tb) (gh : h.get hb = some (.cells [i64 0] .exact)) (gx : h.get xb = some (.cells [i64 x] .exact)) (gt : h.get tb = some (.cells [.slice p l.length cp] .exact))
    (xb' : Nat) (b6 : xb' < nx) (n4 : hb ≠ xb') (gx' : h.get xb' = some (.cells [i64 x] .exact))
    (hnt : a.nt = 36) (hds : a.defers = []) (t3 : a.tmp 3 = .ptr (some (xb', 0))) (t5 : a.tmp 5 = .ptr (some (hb, 0))) (t11 : a.tmp 11 = .func 102 [] [.ptr (some (tb, 0)), .ptr (some (xb, 0))])
    (hq : ∀ h' n', nx ≤ n' → h'.get nx = some .marks → h'.get hb = some (.cells [i64 (stp l x)] .exact) → Q .normal { a with defers := [nx] } ⟨h', n'⟩) : W LW fl none (.rangeFunc (.t 11) [12, 13] AS66 BD66) Q a ⟨h, nx⟩ := by
  have hd := he.d
  have hle := he.le
  obtain ⟨H0, hH⟩ : ∃ H, H = (h.set nx (some .marks)).set (nx + 1) (some (.loop ⟨.ready, .normal, a.nt, a.tmps, [12, 13], AS66, BD66, nx⟩)) := ⟨_, rfl⟩
  have gL : H0.get (nx + 1) = some (.loop ⟨.ready, .normal, 36, a.tmps, [12, 13], AS66, BD66, nx⟩) := by rw [hH, get_same, hnt]
  have gM : H0.get nx = some .marks := by rw [hH, get_other _ _ (by omega), get_same]
  have gO : ∀ b, b < nx → H0.get b = h.get b := fun b hb => by rw [hH, get_other _ _ (by omega), get_other _ _ (by omega)]
  obtain ⟨I, hI⟩ : ∃ I : Nat → Tr HBlk → Nat → Prop, I = fun j h' n' => D h' n' ∧ nx + 1 + 1 ≤ n' ∧ (∀ b, b < nx + 1 + 1 → b ≠ hb → h'.get b = H0.get b) ∧ h'.get hb = some (.cells [i64 (stg (pP l) (pH l) x j)] .exact) := ⟨_, rfl⟩
  have R : Rng I fl (nx + 1) tb xb p l cp x := by
    subst hI
    refine ⟨fun j h' n' ⟨i1, i2, i3, i4⟩ => ?_, fun j h' n' h2 n2 ⟨i1, i2, i3, i4⟩ e => ?_, fun j hj hx1 hx2 h' n' ⟨i1, i2, i3, i4⟩ => ?_, fun j hj hnb h' n' ⟨i1, i2, i3, i4⟩ => ?_⟩
    · refine ⟨i1, by omega, by omega, by omega, ?_, ?_, ?_⟩
      · rw [i3 tb (by omega) (Ne.symm n3), gO _ b3, gt]
      · rw [i3 xb (by omega) (Ne.symm n2), gO _ b2, gx]
      · intro hne
        obtain ⟨b, o, cs, k, rfl, hb', hg, hcs⟩ := hrow hne
        exact ⟨b, o, cs, k, rfl, by omega, by rw [i3 b (by omega) (by omega), gO _ (by omega), he.same b hb', hg], hcs⟩
    · have l2 := e.le
      exact ⟨e.d, by omega, fun b h1 h2 => by rw [e.same b (by omega), i3 b h1 h2], by rw [e.same hb (by omega), i4]⟩
    · have sj := ht.2.1 l[j] (List.getElem_mem (by omega))
      have sk := ht.2.1 l[j + 1] (List.getElem_mem hj)
      have r := round66 (fl := fl) (lb := nx + 1) (mb := nx) (hb := hb) (xb := xb') (T := a.tmps) (x := x) i1 (by omega) (by omega) (by omega) (by omega) (by omega) (by omega) n4 (by omega) (by rw [i3 _ (by omega) (by omega), gL]) i4 (by rw [i3 xb' (by omega) (Ne.symm n4), gO _ b6, gx']) t3 t5 sj sk (ris_at ht.2.2 j hj) hx1 hx2
      refine r.mono fun h2 n2 ⟨k1, k2, k3, k4⟩ => ⟨k2, by omega, fun b c1 c2 => by rw [k4 b (by omega) c2, i3 b c1 c2], ?_⟩
      rw [k3]
      have e : stg (pP l) (pH l) x (j + 1) = l[j].2 + ((l[j + 1].2 - l[j].2) * (x - l[j].1)) / (l[j + 1].1 - l[j].1) := by
        unfold stg
        rw [pP_at (by omega), pP_at hj, if_pos ⟨hx1, hx2⟩]
        unfold stv
        rw [pP_at (by omega), pP_at hj, pH_at (by omega), pH_at hj]
      rw [e]
    · refine ⟨i1, i2, i3, ?_⟩
      rw [i4]
      have e : stg (pP l) (pH l) x (j + 1) = stg (pP l) (pH l) x j := by
        show (if pP l j ≤ x ∧ x ≤ pP l (j + 1) then stv (pP l) (pH l) x j else stg (pP l) (pH l) x j) = _
        rw [pP_at (by omega), pP_at hj, if_neg hnb]
      rw [e]
  have i0 : I 0 H0 (nx + 1 + 1) := by
    subst hI
    refine ⟨?_, Nat.le_refl _, fun _ _ _ => rfl, by rw [gO _ b1.2, gh]; rfl⟩
    rw [hH]; exact (hd.put (n := nx + 1) (by omega) (by omega)).put (n := nx + 1 + 1) (by omega) (by omega)
  refine w_range (first := []) (captured := [.ptr (some (tb, 0)), .ptr (some (xb, 0))]) t11 (K := fun v σ' => ∃ h' n', σ' = ⟨h', n'⟩ ∧ I (l.length - 1) h' n') ?_ ?_
  · rw [← hH]
    exact c_around102 hlen hcp (by have := ht.1; omega) R i0
  · rintro v σ' ⟨h', n', rfl, hi⟩
    subst hI
    obtain ⟨i1, i2, i3, i4⟩ := hi
    refine ⟨_, (i3 (nx + 1) (by omega) (by omega)).trans gL, (by intro e; cases e), by omega, ?_⟩
    rw [hds]
    refine hq _ n' (by omega) ?_ ?_
    · rw [get_other _ _ (by omega), i3 nx (by omega) (by omega), gM]
    · rw [get_other _ _ (by omega), i4]; rfl
/- 66 -/
theorem c_steamAt {fl : Nat} {h : Tr HBlk} {nx : Nat} (hd : D h nx) {p : Option (Nat × Nat)} {l : List (Int × Int)} {n cp : Nat} {x : Int} (hn : n = l.length) (hcp : l.length ≤ cp) (hlen : l.length < 1000000000) (hrow : Row renc 2 h nx p l) (ht : TbOk l) :
    C LW fl 66 [.slice p n cp, i64 x] ⟨h, nx⟩ (Sc (· = i64 (stp l x)) ⟨h, nx⟩) := by
  subst hn
  have ow1 : ∀ p q : Int, overwrite [i64 p] 0 (i64 q).cells = some [i64 q] := fun p q => rfl
  refine c_in lw66 rfl rfl rfl ?_
  dsimp only [L66]
  repeat' first
   | refine r_nil ?_
   | refine th_n ?_
   | refine th_r ?_
   | refine ib_n ?_
   | refine ib_r ?_
   | refine w_seq ?_
   | refine w_reg ?_
   | refine w_ret ?_
   | refine w_skip ?_
   | refine w_block ?_
   | refine r_move (by simp (disch:=first|decide|(simp only[zF,zG];decide)) only [zA,zB,zC,zD,zE,zF,zG,zH,zI,zJ,zK,HV.cells,fl0,fl2,flS,flS1,flI1,flU1,flU2,flF]; try exact rfl) ?_
   | refine r_fa (by simp (disch:=first|decide|(simp only[zF,zG];decide)) only [zA,zB,zC,zD,zE,zF,zG,zH,zI,zJ,zK,HV.cells,fl0,fl2,flS,flS1,flI1,flU1,flU2,flF]; try exact rfl) ?_
   | refine r_ld1 (by simp (disch:=first|decide|(simp only[zF,zG];decide)) only [zA,zB,zC,zD,zE,zF,zG,zH,zI,zJ,zK,HV.cells,fl0,fl2,flS,flS1,flI1,flU1,flU2,flF]; try exact rfl) (by first|assumption|(simp (disch:=omega) only [get_same,get_other]; first|done|exact rfl)) (by first|assumption|exact ow2 _ _ _ _|exact ow3 _ _ _ _ _ _|rfl|(simp only [zI,zJ,HV.cells]; exact rfl)) ?_
   | refine r_ldn (by simp (disch:=first|decide|(simp only[zF,zG];decide)) only [zA,zB,zC,zD,zE,zF,zG,zH,zI,zJ,zK,HV.cells,fl0,fl2,flS,flS1,flI1,flU1,flU2,flF]; try exact rfl) (by first|assumption|(simp (disch:=omega) only [get_same,get_other]; first|done|exact rfl)) (by first|assumption|exact ow2 _ _ _ _|exact ow3 _ _ _ _ _ _|rfl|(simp only [zI,zJ,HV.cells]; exact rfl)) ?_
   | refine r_box (by simp (disch:=first|decide|(simp only[zF,zG];decide)) only [zA,zB,zC,zD,zE,zF,zG,zH,zI,zJ,zK,HV.cells,fl0,fl2,flS,flS1,flI1,flU1,flU2,flF]; try exact rfl) ?_
   | refine r_alloc ?_
   | refine r_st (cs' := _) (by simp (disch:=first|decide|(simp only[zF,zG];decide)) only [zA,zB,zC,zD,zE,zF,zG,zH,zI,zJ,zK,HV.cells,fl0,fl2,flS,flS1,flI1,flU1,flU2,flF]; try exact rfl) (by simp (disch:=first|decide|(simp only[zF,zG];decide)) only [zA,zB,zC,zD,zE,zF,zG,zH,zI,zJ,zK,HV.cells,fl0,fl2,flS,flS1,flI1,flU1,flU2,flF]; try exact rfl) (by first|assumption|(simp (disch:=omega) only [get_same,get_other]; first|done|exact rfl)) (by exact True.intro) (by rfl) (by rfl) (by first|assumption|exact ow2 _ _ _ _|exact ow3 _ _ _ _ _ _|rfl|(simp only [zI,zJ,HV.cells]; exact rfl)) (by omega) ?_
   | refine r_add (by simp (disch:=first|decide|(simp only[zF,zG];decide)) only [zA,zB,zC,zD,zE,zF,zG,zH,zI,zJ,zK,HV.cells,fl0,fl2,flS,flS1,flI1,flU1,flU2,flF]; try exact rfl) (by simp (disch:=first|decide|(simp only[zF,zG];decide)) only [zA,zB,zC,zD,zE,zF,zG,zH,zI,zJ,zK,HV.cells,fl0,fl2,flS,flS1,flI1,flU1,flU2,flF]; try exact rfl) (by omega) (by omega) ?_
   | refine r_sub (by simp (disch:=first|decide|(simp only[zF,zG];decide)) only [zA,zB,zC,zD,zE,zF,zG,zH,zI,zJ,zK,HV.cells,fl0,fl2,flS,flS1,flI1,flU1,flU2,flF]; try exact rfl) (by simp (disch:=first|decide|(simp only[zF,zG];decide)) only [zA,zB,zC,zD,zE,zF,zG,zH,zI,zJ,zK,HV.cells,fl0,fl2,flS,flS1,flI1,flU1,flU2,flF]; try exact rfl) (by omega) (by omega) ?_
   | refine r_mul (by simp (disch:=first|decide|(simp only[zF,zG];decide)) only [zA,zB,zC,zD,zE,zF,zG,zH,zI,zJ,zK,HV.cells,fl0,fl2,flS,flS1,flI1,flU1,flU2,flF]; try exact rfl) (by simp (disch:=first|decide|(simp only[zF,zG];decide)) only [zA,zB,zC,zD,zE,zF,zG,zH,zI,zJ,zK,HV.cells,fl0,fl2,flS,flS1,flI1,flU1,flU2,flF]; try exact rfl) (by omega) (by omega) ?_
   | refine r_build (by simp (disch:=first|decide|(simp only[zF,zG];decide)) only [evParts,List.map_cons,List.map_nil,List.nil_append,List.cons_append,List.append_nil,zA,zB,zC,zD,zE,zF,zG,zH,zI,zJ,zK,HV.cells,fl0,fl2,flS,flS1,flI1,flU1,flU2,flF]; try exact rfl) ?_
   | refine w_draw (by omega) (by (repeat' first|assumption|refine D.upd ?_ (by omega)|exact D.mono (by assumption) (by omega)) <;> fail) ?_
   | refine d_nil ?_
   | refine d_rest rfl ?_
   | refine d_al2 rfl rfl rfl ?_
   | refine d_bs rfl ?_
   | refine d_box rfl ?_
   | refine d_alloc rfl ?_
   | refine d_one rfl ?_
   | refine d_next (by omega) ?_
   | refine d_laid ?_
   | fail
  refine r_callc (by simp (disch:=first|decide|(simp only[zF,zG];decide)) only [zA,zB,zC,zD,zE,zF,zG,zH,zI,zJ,zK,HV.cells,fl0,fl2,flS,flS1,flI1,flU1,flU2,flF]; try exact rfl) (by simp (disch:=first|decide|(simp only[zF,zG];decide)) only [List.map_cons,List.map_nil,List.nil_append,List.cons_append,List.append_nil,zA,zB,zC,zD,zE,zF,zG,zH,zI,zJ,zK,HV.cells,fl0,fl2,flS,flS1,flI1,flU1,flU2,flF]; try exact rfl) (c_around (p := p) (n := l.length) (cp := cp) (x := x) (by (repeat' first|assumption|refine D.upd ?_ (by omega)|exact D.mono (by assumption) (by omega)) <;> fail)) ?_
  rintro v σ ⟨h1, n1, rfl, rfl, e1, hn1, g1, g2⟩
  have e2 : Ext h nx h1 n1 := by
    have := e1.le
    exact ⟨by omega, e1.d, fun b hb => by rw [e1.same b (by omega)]; simp (disch := omega) only [get_other]⟩
  repeat' first
   | refine r_nil ?_
   | refine th_n ?_
   | refine th_r ?_
   | refine ib_n ?_
   | refine ib_r ?_
   | refine w_seq ?_
   | refine w_reg ?_
   | refine w_ret ?_
   | refine w_skip ?_
   | refine w_block ?_
   | refine r_move (by simp (disch:=first|decide|(simp only[zF,zG];decide)) only [zA,zB,zC,zD,zE,zF,zG,zH,zI,zJ,zK,HV.cells,fl0,fl2,flS,flS1,flI1,flU1,flU2,flF]; try exact rfl) ?_
   | refine r_fa (by simp (disch:=first|decide|(simp only[zF,zG];decide)) only [zA,zB,zC,zD,zE,zF,zG,zH,zI,zJ,zK,HV.cells,fl0,fl2,flS,flS1,flI1,flU1,flU2,flF]; try exact rfl) ?_
   | refine r_ld1 (by simp (disch:=first|decide|(simp only[zF,zG];decide)) only [zA,zB,zC,zD,zE,zF,zG,zH,zI,zJ,zK,HV.cells,fl0,fl2,flS,flS1,flI1,flU1,flU2,flF]; try exact rfl) (by first|assumption|(simp (disch:=omega) only [get_same,get_other]; first|done|exact rfl)) (by first|assumption|exact ow2 _ _ _ _|exact ow3 _ _ _ _ _ _|rfl|(simp only [zI,zJ,HV.cells]; exact rfl)) ?_
   | refine r_ldn (by simp (disch:=first|decide|(simp only[zF,zG];decide)) only [zA,zB,zC,zD,zE,zF,zG,zH,zI,zJ,zK,HV.cells,fl0,fl2,flS,flS1,flI1,flU1,flU2,flF]; try exact rfl) (by first|assumption|(simp (disch:=omega) only [get_same,get_other]; first|done|exact rfl)) (by first|assumption|exact ow2 _ _ _ _|exact ow3 _ _ _ _ _ _|rfl|(simp only [zI,zJ,HV.cells]; exact rfl)) ?_
   | refine r_box (by simp (disch:=first|decide|(simp only[zF,zG];decide)) only [zA,zB,zC,zD,zE,zF,zG,zH,zI,zJ,zK,HV.cells,fl0,fl2,flS,flS1,flI1,flU1,flU2,flF]; try exact rfl) ?_
   | refine r_alloc ?_
   | refine r_st (cs' := _) (by simp (disch:=first|decide|(simp only[zF,zG];decide)) only [zA,zB,zC,zD,zE,zF,zG,zH,zI,zJ,zK,HV.cells,fl0,fl2,flS,flS1,flI1,flU1,flU2,flF]; try exact rfl) (by simp (disch:=first|decide|(simp only[zF,zG];decide)) only [zA,zB,zC,zD,zE,zF,zG,zH,zI,zJ,zK,HV.cells,fl0,fl2,flS,flS1,flI1,flU1,flU2,flF]; try exact rfl) (by first|assumption|(simp (disch:=omega) only [get_same,get_other]; first|done|exact rfl)) (by exact True.intro) (by rfl) (by rfl) (by first|assumption|exact ow2 _ _ _ _|exact ow3 _ _ _ _ _ _|rfl|(simp only [zI,zJ,HV.cells]; exact rfl)) (by omega) ?_
   | refine r_add (by simp (disch:=first|decide|(simp only[zF,zG];decide)) only [zA,zB,zC,zD,zE,zF,zG,zH,zI,zJ,zK,HV.cells,fl0,fl2,flS,flS1,flI1,flU1,flU2,flF]; try exact rfl) (by simp (disch:=first|decide|(simp only[zF,zG];decide)) only [zA,zB,zC,zD,zE,zF,zG,zH,zI,zJ,zK,HV.cells,fl0,fl2,flS,flS1,flI1,flU1,flU2,flF]; try exact rfl) (by omega) (by omega) ?_
   | refine r_sub (by simp (disch:=first|decide|(simp only[zF,zG];decide)) only [zA,zB,zC,zD,zE,zF,zG,zH,zI,zJ,zK,HV.cells,fl0,fl2,flS,flS1,flI1,flU1,flU2,flF]; try exact rfl) (by simp (disch:=first|decide|(simp only[zF,zG];decide)) only [zA,zB,zC,zD,zE,zF,zG,zH,zI,zJ,zK,HV.cells,fl0,fl2,flS,flS1,flI1,flU1,flU2,flF]; try exact rfl) (by omega) (by omega) ?_
   | refine r_mul (by simp (disch:=first|decide|(simp only[zF,zG];decide)) only [zA,zB,zC,zD,zE,zF,zG,zH,zI,zJ,zK,HV.cells,fl0,fl2,flS,flS1,flI1,flU1,flU2,flF]; try exact rfl) (by simp (disch:=first|decide|(simp only[zF,zG];decide)) only [zA,zB,zC,zD,zE,zF,zG,zH,zI,zJ,zK,HV.cells,fl0,fl2,flS,flS1,flI1,flU1,flU2,flF]; try exact rfl) (by omega) (by omega) ?_
   | refine r_build (by simp (disch:=first|decide|(simp only[zF,zG];decide)) only [evParts,List.map_cons,List.map_nil,List.nil_append,List.cons_append,List.append_nil,zA,zB,zC,zD,zE,zF,zG,zH,zI,zJ,zK,HV.cells,fl0,fl2,flS,flS1,flI1,flU1,flU2,flF]; try exact rfl) ?_
   | refine w_draw (by omega) (by (repeat' first|assumption|refine D.upd ?_ (by omega)|exact D.mono (by assumption) (by omega)) <;> fail) ?_
   | refine d_nil ?_
   | refine d_rest rfl ?_
   | refine d_al2 rfl rfl rfl ?_
   | refine d_bs rfl ?_
   | refine d_box rfl ?_
   | refine d_alloc rfl ?_
   | refine d_one rfl ?_
   | refine d_next (by omega) ?_
   | refine d_laid ?_
   | fail
  refine range66 (tb := nx + 1 + 1) (xb := nx + 1 + 1 + 1) (hb := nx + 1) hlen hcp e2 (Nat.le_refl _) hrow ht (by omega) (by omega) (by omega) (by omega) (by omega) (by omega) (by omega) ?_ g2 g1 nx (by omega) (by omega) ?_ ?_ ?_ ?_ ?_ ?_ (fun h' n' l1 l2 l3 => ?_)
  all_goals try first|(simp only [zL,zM,zF,zG];done)|(simp (disch:=first|decide|(simp only[zF,zG];decide)) only [zA,zB,zC,zD,zE,zF,zG,zH,zI,zJ,zK,HV.cells,fl0,fl2,flS,flS1,flI1,flU1,flU2,flF];first|done|exact rfl)|assumption
  · rw [e1.same _ (by omega)]; exact (by first|assumption|(simp (disch:=omega) only [get_same,get_other]; first|done|exact rfl))
  · rw [e1.same _ (by omega)]; exact (by first|assumption|(simp (disch:=omega) only [get_same,get_other]; first|done|exact rfl))
  · repeat' first
     | refine r_nil ?_
     | refine th_n ?_
     | refine th_r ?_
     | refine ib_n ?_
     | refine ib_r ?_
     | refine w_seq ?_
     | refine w_reg ?_
     | refine w_ret ?_
     | refine w_skip ?_
     | refine w_block ?_
     | refine r_move (by simp (disch:=first|decide|(simp only[zF,zG,l3];decide)) only [zA,zB,zC,zD,zE,zF,zG,zH,zI,zJ,zK,HV.cells,fl0,fl2,flS,flS1,flI1,flU1,flU2,flF,l3]; try exact rfl) ?_
     | refine r_fa (by simp (disch:=first|decide|(simp only[zF,zG,l3];decide)) only [zA,zB,zC,zD,zE,zF,zG,zH,zI,zJ,zK,HV.cells,fl0,fl2,flS,flS1,flI1,flU1,flU2,flF,l3]; try exact rfl) ?_
     | refine r_ld1 (by simp (disch:=first|decide|(simp only[zF,zG,l3];decide)) only [zA,zB,zC,zD,zE,zF,zG,zH,zI,zJ,zK,HV.cells,fl0,fl2,flS,flS1,flI1,flU1,flU2,flF,l3]; try exact rfl) (by first|assumption|(simp (disch:=omega) only [get_same,get_other,l3]; first|done|exact rfl)) (by first|assumption|exact ow2 _ _ _ _|exact ow3 _ _ _ _ _ _|rfl|(simp only [zI,zJ,HV.cells,l3]; exact rfl)) ?_
     | refine r_ldn (by simp (disch:=first|decide|(simp only[zF,zG,l3];decide)) only [zA,zB,zC,zD,zE,zF,zG,zH,zI,zJ,zK,HV.cells,fl0,fl2,flS,flS1,flI1,flU1,flU2,flF,l3]; try exact rfl) (by first|assumption|(simp (disch:=omega) only [get_same,get_other,l3]; first|done|exact rfl)) (by first|assumption|exact ow2 _ _ _ _|exact ow3 _ _ _ _ _ _|rfl|(simp only [zI,zJ,HV.cells,l3]; exact rfl)) ?_
     | refine r_box (by simp (disch:=first|decide|(simp only[zF,zG,l3];decide)) only [zA,zB,zC,zD,zE,zF,zG,zH,zI,zJ,zK,HV.cells,fl0,fl2,flS,flS1,flI1,flU1,flU2,flF,l3]; try exact rfl) ?_
     | refine r_alloc ?_
     | refine r_st (cs' := _) (by simp (disch:=first|decide|(simp only[zF,zG,l3];decide)) only [zA,zB,zC,zD,zE,zF,zG,zH,zI,zJ,zK,HV.cells,fl0,fl2,flS,flS1,flI1,flU1,flU2,flF,l3]; try exact rfl) (by simp (disch:=first|decide|(simp only[zF,zG,l3];decide)) only [zA,zB,zC,zD,zE,zF,zG,zH,zI,zJ,zK,HV.cells,fl0,fl2,flS,flS1,flI1,flU1,flU2,flF,l3]; try exact rfl) (by first|assumption|(simp (disch:=omega) only [get_same,get_other,l3]; first|done|exact rfl)) (by exact True.intro) (by rfl) (by rfl) (by first|assumption|exact ow2 _ _ _ _|exact ow3 _ _ _ _ _ _|rfl|(simp only [zI,zJ,HV.cells,l3]; exact rfl)) (by omega) ?_
     | refine r_add (by simp (disch:=first|decide|(simp only[zF,zG,l3];decide)) only [zA,zB,zC,zD,zE,zF,zG,zH,zI,zJ,zK,HV.cells,fl0,fl2,flS,flS1,flI1,flU1,flU2,flF,l3]; try exact rfl) (by simp (disch:=first|decide|(simp only[zF,zG,l3];decide)) only [zA,zB,zC,zD,zE,zF,zG,zH,zI,zJ,zK,HV.cells,fl0,fl2,flS,flS1,flI1,flU1,flU2,flF,l3]; try exact rfl) (by omega) (by omega) ?_
     | refine r_sub (by simp (disch:=first|decide|(simp only[zF,zG,l3];decide)) only [zA,zB,zC,zD,zE,zF,zG,zH,zI,zJ,zK,HV.cells,fl0,fl2,flS,flS1,flI1,flU1,flU2,flF,l3]; try exact rfl) (by simp (disch:=first|decide|(simp only[zF,zG,l3];decide)) only [zA,zB,zC,zD,zE,zF,zG,zH,zI,zJ,zK,HV.cells,fl0,fl2,flS,flS1,flI1,flU1,flU2,flF,l3]; try exact rfl) (by omega) (by omega) ?_
     | refine r_mul (by simp (disch:=first|decide|(simp only[zF,zG,l3];decide)) only [zA,zB,zC,zD,zE,zF,zG,zH,zI,zJ,zK,HV.cells,fl0,fl2,flS,flS1,flI1,flU1,flU2,flF,l3]; try exact rfl) (by simp (disch:=first|decide|(simp only[zF,zG,l3];decide)) only [zA,zB,zC,zD,zE,zF,zG,zH,zI,zJ,zK,HV.cells,fl0,fl2,flS,flS1,flI1,flU1,flU2,flF,l3]; try exact rfl) (by omega) (by omega) ?_
     | refine r_build (by simp (disch:=first|decide|(simp only[zF,zG,l3];decide)) only [evParts,List.map_cons,List.map_nil,List.nil_append,List.cons_append,List.append_nil,zA,zB,zC,zD,zE,zF,zG,zH,zI,zJ,zK,HV.cells,fl0,fl2,flS,flS1,flI1,flU1,flU2,flF,l3]; try exact rfl) ?_
     | refine w_draw (by omega) (by (repeat' first|assumption|refine D.upd ?_ (by omega)|exact D.mono (by assumption) (by omega)) <;> fail) ?_
     | refine d_nil ?_
     | refine d_rest rfl ?_
     | refine d_al2 rfl rfl rfl ?_
     | refine d_bs rfl ?_
     | refine d_box rfl ?_
     | refine d_alloc rfl ?_
     | refine d_one rfl ?_
     | refine d_next (by omega) ?_
     | refine d_laid ?_
     | fail
    refine fin_mark (by simp only [zL,zM]) l2 (by dsimp only; omega) (by simp (disch:=first|decide|(simp only[zF,zG];decide)) only [zA,zB,zC,zD,zE,zF,zG,zH,zI,zJ,zK,HV.cells,fl0,fl2,flS,flS1,flI1,flU1,flU2,flF]; try exact rfl) (sc_flat rfl (by dsimp only; omega) rfl)
end Go.Hx

/- Layer 3: between which heights steam is, and what is right on a scale that was set there. -/
namespace Go.Hx
set_option linter.unusedSimpArgs false
set_option linter.unusedVariables false
set_option maxRecDepth 20000
set_option maxHeartbeats 4000000
attribute [local irreducible] W R C thenH inBlockH
--dropu
def PrOk (l : List (Int × Int)) (q : Int × Int) : Prop := pP l 0 ≤ q.1 ∧ q.1 ≤ q.2 ∧ q.2 ≤ pP l (l.length - 1)
instance (l : List (Int × Int)) (q : Int × Int) : Decidable (PrOk l q) := by unfold PrOk; infer_instance
def boi (l : List (Int × Int)) (q : Int × Int) : (Int × Int) × Int := if chkT l = 0 then (if PrOk l q then ((stp l q.1, stp l q.2), 0) else ((0, 0), 2)) else ((0, 0), chkT l)
theorem chkR_s {s r : Int × Int} (h : chkR [s] r = 0) : SOk s.1 s.2 := (chk_zero h).2.1 s (List.mem_singleton.2 rfl)
theorem chkR_r {s r : Int × Int} (h : chkR [s] r = 0) : ROk r.1 r.2 := (chk_zero h).2.2.2
/- 30 -/
theorem c_Boils {fl : Nat} {h : Tr HBlk} {nx : Nat} (hd : D h nx) {p : Option (Nat × Nat)} {l : List (Int × Int)} {n cp : Nat} {q : Int × Int} (hn : n = l.length) (hcp : l.length ≤ cp) (hlen : l.length < 1000000000) (hrow : Row renc 2 h nx p l) :
    C LW fl 30 [.slice p n cp, .agg (renc q)] ⟨h, nx⟩ (Sc (· = .tuple [.agg (renc (boi l q).1), i64 (boi l q).2]) ⟨h, nx⟩) := by
  subst hn
  have cC : ∀ fl h' n', Ext h nx h' n' → C LW fl 63 [.slice p l.length cp] ⟨h', n'⟩ (Sc (· = i64 (chkT l)) ⟨h', n'⟩) := fun fl h' n' e => c_checkTable e.d rfl hlen (hrow.ext e)
  refine c_in lw30 rfl rfl rfl ?_
  dsimp only [L30]
  unfold boi
  by_cases hc : chkT l = 0
  · rw [if_pos hc]
    rw [hc] at cC
    have ht := tb_ok hc
    obtain ⟨h2, hs, hr⟩ := ht
    have hL : pP l 0 = l[0].1 := pP_at (by omega)
    have hR : pP l (l.length - 1) = l[l.length - 1].1 := pP_at (by omega)
    have cP : ∀ fl h' n', Ext h nx h' n' → C LW fl 65 [.slice p l.length cp] ⟨h', n'⟩ (Sc (· = .agg [i64 l[0].1, i64 l[l.length - 1].1]) ⟨h', n'⟩) := fun fl h' n' e => c_pressuresOf e.d rfl (by omega) hlen (hrow.ext e)
    have cS : ∀ fl h' n' x, Ext h nx h' n' → C LW fl 66 [.slice p l.length cp, i64 x] ⟨h', n'⟩ (Sc (· = i64 (stp l x)) ⟨h', n'⟩) := fun fl h' n' x e => c_steamAt e.d rfl hcp hlen (hrow.ext e) ⟨h2, hs, hr⟩
    have cL : ∀ fl h' n', C LW fl 64 [.agg (renc q), .agg [i64 l[0].1, i64 l[l.length - 1].1]] ⟨h', n'⟩ (Sc (· = .bool (decide (PrOk l q))) ⟨h', n'⟩) := fun fl h' n' => by
      have := c_liesIn (fl := fl) (h := h') (nx := n') (a := q.1) (b := q.2) (lo := l[0].1) (hi := l[l.length - 1].1)
      rwa [show decide (q.1 ≤ q.2 ∧ (l[0].1 ≤ q.1 ∧ q.1 ≤ l[l.length - 1].1) ∧ (l[0].1 ≤ q.2 ∧ q.2 ≤ l[l.length - 1].1)) = decide (PrOk l q) by congr 1; unfold PrOk; rw [hL, hR]; exact propext ⟨fun h => by omega, fun h => by omega⟩] at this
    by_cases hk : PrOk l q
    · rw [if_pos hk]
      rw [decide_eq_true hk] at cL
      repeat' first
       | refine r_nil ?_
       | refine th_n ?_
       | refine th_r ?_
       | refine w_seq ?_
       | refine w_reg ?_
       | refine w_ret ?_
       | refine w_skip ?_
       | refine w_t (by simp (disch:=first|decide|(simp only[zF,zG];decide)) only [zA,zB,zC,zD,zE,zF,zG,zH,zI,zJ,zK,HV.cells,fl0,fl2,flS,flS1,flI1,flU1,flU2,flF]; first|done|exact rfl) ?_
       | refine w_f (by simp (disch:=first|decide|(simp only[zF,zG];decide)) only [zA,zB,zC,zD,zE,zF,zG,zH,zI,zJ,zK,HV.cells,fl0,fl2,flS,flS1,flI1,flU1,flU2,flF]; first|done|exact rfl) ?_
       | refine r_move (by simp (disch:=first|decide|(simp only[zF,zG];decide)) only [zA,zB,zC,zD,zE,zF,zG,zH,zI,zJ,zK,HV.cells,fl0,fl2,flS,flS1,flI1,flU1,flU2,flF]; try exact rfl) ?_
       | refine r_fa (by simp (disch:=first|decide|(simp only[zF,zG];decide)) only [zA,zB,zC,zD,zE,zF,zG,zH,zI,zJ,zK,HV.cells,fl0,fl2,flS,flS1,flI1,flU1,flU2,flF]; try exact rfl) ?_
       | refine r_ld1 (by simp (disch:=first|decide|(simp only[zF,zG];decide)) only [zA,zB,zC,zD,zE,zF,zG,zH,zI,zJ,zK,HV.cells,fl0,fl2,flS,flS1,flI1,flU1,flU2,flF]; try exact rfl) (by first|assumption|(simp (disch:=omega) only [get_same,get_other]; first|done|exact rfl)) (by first|assumption|exact ow2 _ _ _ _|exact ow3 _ _ _ _ _ _|rfl|(simp only [zI,zJ,HV.cells]; exact rfl)) ?_
       | refine r_ldn (by simp (disch:=first|decide|(simp only[zF,zG];decide)) only [zA,zB,zC,zD,zE,zF,zG,zH,zI,zJ,zK,HV.cells,fl0,fl2,flS,flS1,flI1,flU1,flU2,flF]; try exact rfl) (by first|assumption|(simp (disch:=omega) only [get_same,get_other]; first|done|exact rfl)) (by first|assumption|exact ow2 _ _ _ _|exact ow3 _ _ _ _ _ _|rfl|(simp only [zI,zJ,HV.cells]; exact rfl)) ?_
       | refine r_box (by simp (disch:=first|decide|(simp only[zF,zG];decide)) only [zA,zB,zC,zD,zE,zF,zG,zH,zI,zJ,zK,HV.cells,fl0,fl2,flS,flS1,flI1,flU1,flU2,flF]; try exact rfl) ?_
       | refine r_alloc ?_
       | refine r_st (cs' := _) (by simp (disch:=first|decide|(simp only[zF,zG];decide)) only [zA,zB,zC,zD,zE,zF,zG,zH,zI,zJ,zK,HV.cells,fl0,fl2,flS,flS1,flI1,flU1,flU2,flF]; try exact rfl) (by simp (disch:=first|decide|(simp only[zF,zG];decide)) only [zA,zB,zC,zD,zE,zF,zG,zH,zI,zJ,zK,HV.cells,fl0,fl2,flS,flS1,flI1,flU1,flU2,flF]; try exact rfl) (by first|assumption|(simp (disch:=omega) only [get_same,get_other]; first|done|exact rfl)) (by exact True.intro) (by rfl) (by rfl) (by first|assumption|exact ow2 _ _ _ _|exact ow3 _ _ _ _ _ _|rfl|(simp only [zI,zJ,HV.cells]; exact rfl)) (by omega) ?_
       | refine r_eq (by simp (disch:=first|decide|(simp only[zF,zG];decide)) only [zA,zB,zC,zD,zE,zF,zG,zH,zI,zJ,zK,HV.cells,fl0,fl2,flS,flS1,flI1,flU1,flU2,flF]; try exact rfl) (by simp (disch:=first|decide|(simp only[zF,zG];decide)) only [zA,zB,zC,zD,zE,zF,zG,zH,zI,zJ,zK,HV.cells,fl0,fl2,flS,flS1,flI1,flU1,flU2,flF]; try exact rfl) (fun hc => ?_) (fun hc => ?_) <;> (try (exfalso; omega))
       | refine r_ne (by simp (disch:=first|decide|(simp only[zF,zG];decide)) only [zA,zB,zC,zD,zE,zF,zG,zH,zI,zJ,zK,HV.cells,fl0,fl2,flS,flS1,flI1,flU1,flU2,flF]; try exact rfl) (by simp (disch:=first|decide|(simp only[zF,zG];decide)) only [zA,zB,zC,zD,zE,zF,zG,zH,zI,zJ,zK,HV.cells,fl0,fl2,flS,flS1,flI1,flU1,flU2,flF]; try exact rfl) (fun hc => ?_) (fun hc => ?_) <;> (try (exfalso; omega))
       | refine r_eqb (by simp (disch:=first|decide|(simp only[zF,zG];decide)) only [zA,zB,zC,zD,zE,zF,zG,zH,zI,zJ,zK,HV.cells,fl0,fl2,flS,flS1,flI1,flU1,flU2,flF]; try exact rfl) (by simp (disch:=first|decide|(simp only[zF,zG];decide)) only [zA,zB,zC,zD,zE,zF,zG,zH,zI,zJ,zK,HV.cells,fl0,fl2,flS,flS1,flI1,flU1,flU2,flF]; try exact rfl) ?_
       | refine r_not1 (by simp (disch:=first|decide|(simp only[zF,zG];decide)) only [zA,zB,zC,zD,zE,zF,zG,zH,zI,zJ,zK,HV.cells,fl0,fl2,flS,flS1,flI1,flU1,flU2,flF]; try exact rfl) ?_
       | refine r_build (by simp (disch:=first|decide|(simp only[zF,zG];decide)) only [evParts,List.map_cons,List.map_nil,List.nil_append,List.cons_append,List.append_nil,zA,zB,zC,zD,zE,zF,zG,zH,zI,zJ,zK,HV.cells,fl0,fl2,flS,flS1,flI1,flU1,flU2,flF]; try exact rfl) ?_
       | refine r_calls (by simp (disch:=first|decide|(simp only[zF,zG];decide)) only [zA,zB,zC,zD,zE,zF,zG,zH,zI,zJ,zK,HV.cells,fl0,fl2,flS,flS1,flI1,flU1,flU2,flF]; try exact rfl) (by simp (disch:=first|decide|(simp only[zF,zG];decide)) only [List.map_cons,List.map_nil,List.nil_append,List.cons_append,List.append_nil,zA,zB,zC,zD,zE,zF,zG,zH,zI,zJ,zK,HV.cells,fl0,fl2,flS,flS1,flI1,flU1,flU2,flF]; first|done|exact rfl) (cC _ _ _ (by repeat' first|assumption|refine Ext.put ?_ (by omega) (by omega)|exact Ext.up (by assumption) (by omega)|exact Ext.nx (by assumption) (by omega))) (fun n' hn' => ?_)
       | refine r_calls (by simp (disch:=first|decide|(simp only[zF,zG];decide)) only [zA,zB,zC,zD,zE,zF,zG,zH,zI,zJ,zK,HV.cells,fl0,fl2,flS,flS1,flI1,flU1,flU2,flF]; try exact rfl) (by simp (disch:=first|decide|(simp only[zF,zG];decide)) only [List.map_cons,List.map_nil,List.nil_append,List.cons_append,List.append_nil,zA,zB,zC,zD,zE,zF,zG,zH,zI,zJ,zK,HV.cells,fl0,fl2,flS,flS1,flI1,flU1,flU2,flF]; first|done|exact rfl) (cP _ _ _ (by repeat' first|assumption|refine Ext.put ?_ (by omega) (by omega)|exact Ext.up (by assumption) (by omega)|exact Ext.nx (by assumption) (by omega))) (fun n' hn' => ?_)
       | refine r_calls (by simp (disch:=first|decide|(simp only[zF,zG];decide)) only [zA,zB,zC,zD,zE,zF,zG,zH,zI,zJ,zK,HV.cells,fl0,fl2,flS,flS1,flI1,flU1,flU2,flF]; try exact rfl) (by simp (disch:=first|decide|(simp only[zF,zG];decide)) only [List.map_cons,List.map_nil,List.nil_append,List.cons_append,List.append_nil,zA,zB,zC,zD,zE,zF,zG,zH,zI,zJ,zK,HV.cells,fl0,fl2,flS,flS1,flI1,flU1,flU2,flF]; first|done|exact rfl) (cL _ _ _) (fun n' hn' => ?_)
       | refine r_calls (by simp (disch:=first|decide|(simp only[zF,zG];decide)) only [zA,zB,zC,zD,zE,zF,zG,zH,zI,zJ,zK,HV.cells,fl0,fl2,flS,flS1,flI1,flU1,flU2,flF]; try exact rfl) (by simp (disch:=first|decide|(simp only[zF,zG];decide)) only [List.map_cons,List.map_nil,List.nil_append,List.cons_append,List.append_nil,zA,zB,zC,zD,zE,zF,zG,zH,zI,zJ,zK,HV.cells,fl0,fl2,flS,flS1,flI1,flU1,flU2,flF]; first|done|exact rfl) (cS _ _ _ _ (by repeat' first|assumption|refine Ext.put ?_ (by omega) (by omega)|exact Ext.up (by assumption) (by omega)|exact Ext.nx (by assumption) (by omega))) (fun n' hn' => ?_)
       | refine w_draw (by omega) (by (repeat' first|assumption|refine D.upd ?_ (by omega)|exact D.mono (by assumption) (by omega)) <;> fail) ?_
       | refine d_nil ?_
       | refine d_rest rfl ?_
       | refine d_al2 rfl rfl rfl ?_
       | refine d_bs rfl ?_
       | refine d_box rfl ?_
       | refine d_alloc rfl ?_
       | refine d_one rfl ?_
       | refine d_next (by omega) ?_
       | refine d_laid ?_
       | fail
      exact fin_m (by simp only [zL,zM]) (res_c (by simp (disch:=first|decide|(simp only[zF,zG];decide)) only [zA,zB,zC,zD,zE,zF,zG,zH,zI,zJ,zK,HV.cells,fl0,fl2,flS,flS1,flI1,flU1,flU2,flF]; try exact rfl) (by first|assumption|(simp (disch:=omega) only [get_same,get_other]; first|done|exact rfl)) rfl (res_t (by simp (disch:=first|decide|(simp only[zF,zG];decide)) only [zA,zB,zC,zD,zE,zF,zG,zH,zI,zJ,zK,HV.cells,fl0,fl2,flS,flS1,flI1,flU1,flU2,flF]; try exact rfl) res_nil)) (sc_flat rfl (by dsimp only; omega) rfl)
    · rw [if_neg hk]
      rw [decide_eq_false hk] at cL
      repeat' first
       | refine r_nil ?_
       | refine th_n ?_
       | refine th_r ?_
       | refine w_seq ?_
       | refine w_reg ?_
       | refine w_ret ?_
       | refine w_skip ?_
       | refine w_t (by simp (disch:=first|decide|(simp only[zF,zG];decide)) only [zA,zB,zC,zD,zE,zF,zG,zH,zI,zJ,zK,HV.cells,fl0,fl2,flS,flS1,flI1,flU1,flU2,flF]; first|done|exact rfl) ?_
       | refine w_f (by simp (disch:=first|decide|(simp only[zF,zG];decide)) only [zA,zB,zC,zD,zE,zF,zG,zH,zI,zJ,zK,HV.cells,fl0,fl2,flS,flS1,flI1,flU1,flU2,flF]; first|done|exact rfl) ?_
       | refine r_move (by simp (disch:=first|decide|(simp only[zF,zG];decide)) only [zA,zB,zC,zD,zE,zF,zG,zH,zI,zJ,zK,HV.cells,fl0,fl2,flS,flS1,flI1,flU1,flU2,flF]; try exact rfl) ?_
       | refine r_fa (by simp (disch:=first|decide|(simp only[zF,zG];decide)) only [zA,zB,zC,zD,zE,zF,zG,zH,zI,zJ,zK,HV.cells,fl0,fl2,flS,flS1,flI1,flU1,flU2,flF]; try exact rfl) ?_
       | refine r_ld1 (by simp (disch:=first|decide|(simp only[zF,zG];decide)) only [zA,zB,zC,zD,zE,zF,zG,zH,zI,zJ,zK,HV.cells,fl0,fl2,flS,flS1,flI1,flU1,flU2,flF]; try exact rfl) (by first|assumption|(simp (disch:=omega) only [get_same,get_other]; first|done|exact rfl)) (by first|assumption|exact ow2 _ _ _ _|exact ow3 _ _ _ _ _ _|rfl|(simp only [zI,zJ,HV.cells]; exact rfl)) ?_
       | refine r_ldn (by simp (disch:=first|decide|(simp only[zF,zG];decide)) only [zA,zB,zC,zD,zE,zF,zG,zH,zI,zJ,zK,HV.cells,fl0,fl2,flS,flS1,flI1,flU1,flU2,flF]; try exact rfl) (by first|assumption|(simp (disch:=omega) only [get_same,get_other]; first|done|exact rfl)) (by first|assumption|exact ow2 _ _ _ _|exact ow3 _ _ _ _ _ _|rfl|(simp only [zI,zJ,HV.cells]; exact rfl)) ?_
       | refine r_box (by simp (disch:=first|decide|(simp only[zF,zG];decide)) only [zA,zB,zC,zD,zE,zF,zG,zH,zI,zJ,zK,HV.cells,fl0,fl2,flS,flS1,flI1,flU1,flU2,flF]; try exact rfl) ?_
       | refine r_alloc ?_
       | refine r_st (cs' := _) (by simp (disch:=first|decide|(simp only[zF,zG];decide)) only [zA,zB,zC,zD,zE,zF,zG,zH,zI,zJ,zK,HV.cells,fl0,fl2,flS,flS1,flI1,flU1,flU2,flF]; try exact rfl) (by simp (disch:=first|decide|(simp only[zF,zG];decide)) only [zA,zB,zC,zD,zE,zF,zG,zH,zI,zJ,zK,HV.cells,fl0,fl2,flS,flS1,flI1,flU1,flU2,flF]; try exact rfl) (by first|assumption|(simp (disch:=omega) only [get_same,get_other]; first|done|exact rfl)) (by exact True.intro) (by rfl) (by rfl) (by first|assumption|exact ow2 _ _ _ _|exact ow3 _ _ _ _ _ _|rfl|(simp only [zI,zJ,HV.cells]; exact rfl)) (by omega) ?_
       | refine r_eq (by simp (disch:=first|decide|(simp only[zF,zG];decide)) only [zA,zB,zC,zD,zE,zF,zG,zH,zI,zJ,zK,HV.cells,fl0,fl2,flS,flS1,flI1,flU1,flU2,flF]; try exact rfl) (by simp (disch:=first|decide|(simp only[zF,zG];decide)) only [zA,zB,zC,zD,zE,zF,zG,zH,zI,zJ,zK,HV.cells,fl0,fl2,flS,flS1,flI1,flU1,flU2,flF]; try exact rfl) (fun hc => ?_) (fun hc => ?_) <;> (try (exfalso; omega))
       | refine r_ne (by simp (disch:=first|decide|(simp only[zF,zG];decide)) only [zA,zB,zC,zD,zE,zF,zG,zH,zI,zJ,zK,HV.cells,fl0,fl2,flS,flS1,flI1,flU1,flU2,flF]; try exact rfl) (by simp (disch:=first|decide|(simp only[zF,zG];decide)) only [zA,zB,zC,zD,zE,zF,zG,zH,zI,zJ,zK,HV.cells,fl0,fl2,flS,flS1,flI1,flU1,flU2,flF]; try exact rfl) (fun hc => ?_) (fun hc => ?_) <;> (try (exfalso; omega))
       | refine r_eqb (by simp (disch:=first|decide|(simp only[zF,zG];decide)) only [zA,zB,zC,zD,zE,zF,zG,zH,zI,zJ,zK,HV.cells,fl0,fl2,flS,flS1,flI1,flU1,flU2,flF]; try exact rfl) (by simp (disch:=first|decide|(simp only[zF,zG];decide)) only [zA,zB,zC,zD,zE,zF,zG,zH,zI,zJ,zK,HV.cells,fl0,fl2,flS,flS1,flI1,flU1,flU2,flF]; try exact rfl) ?_
       | refine r_not1 (by simp (disch:=first|decide|(simp only[zF,zG];decide)) only [zA,zB,zC,zD,zE,zF,zG,zH,zI,zJ,zK,HV.cells,fl0,fl2,flS,flS1,flI1,flU1,flU2,flF]; try exact rfl) ?_
       | refine r_build (by simp (disch:=first|decide|(simp only[zF,zG];decide)) only [evParts,List.map_cons,List.map_nil,List.nil_append,List.cons_append,List.append_nil,zA,zB,zC,zD,zE,zF,zG,zH,zI,zJ,zK,HV.cells,fl0,fl2,flS,flS1,flI1,flU1,flU2,flF]; try exact rfl) ?_
       | refine r_calls (by simp (disch:=first|decide|(simp only[zF,zG];decide)) only [zA,zB,zC,zD,zE,zF,zG,zH,zI,zJ,zK,HV.cells,fl0,fl2,flS,flS1,flI1,flU1,flU2,flF]; try exact rfl) (by simp (disch:=first|decide|(simp only[zF,zG];decide)) only [List.map_cons,List.map_nil,List.nil_append,List.cons_append,List.append_nil,zA,zB,zC,zD,zE,zF,zG,zH,zI,zJ,zK,HV.cells,fl0,fl2,flS,flS1,flI1,flU1,flU2,flF]; first|done|exact rfl) (cC _ _ _ (by repeat' first|assumption|refine Ext.put ?_ (by omega) (by omega)|exact Ext.up (by assumption) (by omega)|exact Ext.nx (by assumption) (by omega))) (fun n' hn' => ?_)
       | refine r_calls (by simp (disch:=first|decide|(simp only[zF,zG];decide)) only [zA,zB,zC,zD,zE,zF,zG,zH,zI,zJ,zK,HV.cells,fl0,fl2,flS,flS1,flI1,flU1,flU2,flF]; try exact rfl) (by simp (disch:=first|decide|(simp only[zF,zG];decide)) only [List.map_cons,List.map_nil,List.nil_append,List.cons_append,List.append_nil,zA,zB,zC,zD,zE,zF,zG,zH,zI,zJ,zK,HV.cells,fl0,fl2,flS,flS1,flI1,flU1,flU2,flF]; first|done|exact rfl) (cP _ _ _ (by repeat' first|assumption|refine Ext.put ?_ (by omega) (by omega)|exact Ext.up (by assumption) (by omega)|exact Ext.nx (by assumption) (by omega))) (fun n' hn' => ?_)
       | refine r_calls (by simp (disch:=first|decide|(simp only[zF,zG];decide)) only [zA,zB,zC,zD,zE,zF,zG,zH,zI,zJ,zK,HV.cells,fl0,fl2,flS,flS1,flI1,flU1,flU2,flF]; try exact rfl) (by simp (disch:=first|decide|(simp only[zF,zG];decide)) only [List.map_cons,List.map_nil,List.nil_append,List.cons_append,List.append_nil,zA,zB,zC,zD,zE,zF,zG,zH,zI,zJ,zK,HV.cells,fl0,fl2,flS,flS1,flI1,flU1,flU2,flF]; first|done|exact rfl) (cL _ _ _) (fun n' hn' => ?_)
       | refine r_calls (by simp (disch:=first|decide|(simp only[zF,zG];decide)) only [zA,zB,zC,zD,zE,zF,zG,zH,zI,zJ,zK,HV.cells,fl0,fl2,flS,flS1,flI1,flU1,flU2,flF]; try exact rfl) (by simp (disch:=first|decide|(simp only[zF,zG];decide)) only [List.map_cons,List.map_nil,List.nil_append,List.cons_append,List.append_nil,zA,zB,zC,zD,zE,zF,zG,zH,zI,zJ,zK,HV.cells,fl0,fl2,flS,flS1,flI1,flU1,flU2,flF]; first|done|exact rfl) (cS _ _ _ _ (by repeat' first|assumption|refine Ext.put ?_ (by omega) (by omega)|exact Ext.up (by assumption) (by omega)|exact Ext.nx (by assumption) (by omega))) (fun n' hn' => ?_)
       | refine w_draw (by omega) (by (repeat' first|assumption|refine D.upd ?_ (by omega)|exact D.mono (by assumption) (by omega)) <;> fail) ?_
       | refine d_nil ?_
       | refine d_rest rfl ?_
       | refine d_al2 rfl rfl rfl ?_
       | refine d_bs rfl ?_
       | refine d_box rfl ?_
       | refine d_alloc rfl ?_
       | refine d_one rfl ?_
       | refine d_next (by omega) ?_
       | refine d_laid ?_
       | fail
      exact fin_m (by simp only [zL,zM]) (res_c (by simp (disch:=first|decide|(simp only[zF,zG];decide)) only [zA,zB,zC,zD,zE,zF,zG,zH,zI,zJ,zK,HV.cells,fl0,fl2,flS,flS1,flI1,flU1,flU2,flF]; try exact rfl) (by first|assumption|(simp (disch:=omega) only [get_same,get_other]; first|done|exact rfl)) rfl (res_t (by simp (disch:=first|decide|(simp only[zF,zG];decide)) only [zA,zB,zC,zD,zE,zF,zG,zH,zI,zJ,zK,HV.cells,fl0,fl2,flS,flS1,flI1,flU1,flU2,flF]; try exact rfl) res_nil)) (sc_flat rfl (by dsimp only; omega) rfl)
  · rw [if_neg hc]
    repeat' first
     | refine r_nil ?_
     | refine th_n ?_
     | refine th_r ?_
     | refine w_seq ?_
     | refine w_reg ?_
     | refine w_ret ?_
     | refine w_skip ?_
     | refine w_t (by simp (disch:=first|decide|(simp only[zF,zG];decide)) only [zA,zB,zC,zD,zE,zF,zG,zH,zI,zJ,zK,HV.cells,fl0,fl2,flS,flS1,flI1,flU1,flU2,flF]; first|done|exact rfl) ?_
     | refine w_f (by simp (disch:=first|decide|(simp only[zF,zG];decide)) only [zA,zB,zC,zD,zE,zF,zG,zH,zI,zJ,zK,HV.cells,fl0,fl2,flS,flS1,flI1,flU1,flU2,flF]; first|done|exact rfl) ?_
     | refine r_move (by simp (disch:=first|decide|(simp only[zF,zG];decide)) only [zA,zB,zC,zD,zE,zF,zG,zH,zI,zJ,zK,HV.cells,fl0,fl2,flS,flS1,flI1,flU1,flU2,flF]; try exact rfl) ?_
     | refine r_fa (by simp (disch:=first|decide|(simp only[zF,zG];decide)) only [zA,zB,zC,zD,zE,zF,zG,zH,zI,zJ,zK,HV.cells,fl0,fl2,flS,flS1,flI1,flU1,flU2,flF]; try exact rfl) ?_
     | refine r_ld1 (by simp (disch:=first|decide|(simp only[zF,zG];decide)) only [zA,zB,zC,zD,zE,zF,zG,zH,zI,zJ,zK,HV.cells,fl0,fl2,flS,flS1,flI1,flU1,flU2,flF]; try exact rfl) (by first|assumption|(simp (disch:=omega) only [get_same,get_other]; first|done|exact rfl)) (by first|assumption|exact ow2 _ _ _ _|exact ow3 _ _ _ _ _ _|rfl|(simp only [zI,zJ,HV.cells]; exact rfl)) ?_
     | refine r_ldn (by simp (disch:=first|decide|(simp only[zF,zG];decide)) only [zA,zB,zC,zD,zE,zF,zG,zH,zI,zJ,zK,HV.cells,fl0,fl2,flS,flS1,flI1,flU1,flU2,flF]; try exact rfl) (by first|assumption|(simp (disch:=omega) only [get_same,get_other]; first|done|exact rfl)) (by first|assumption|exact ow2 _ _ _ _|exact ow3 _ _ _ _ _ _|rfl|(simp only [zI,zJ,HV.cells]; exact rfl)) ?_
     | refine r_box (by simp (disch:=first|decide|(simp only[zF,zG];decide)) only [zA,zB,zC,zD,zE,zF,zG,zH,zI,zJ,zK,HV.cells,fl0,fl2,flS,flS1,flI1,flU1,flU2,flF]; try exact rfl) ?_
     | refine r_alloc ?_
     | refine r_st (cs' := _) (by simp (disch:=first|decide|(simp only[zF,zG];decide)) only [zA,zB,zC,zD,zE,zF,zG,zH,zI,zJ,zK,HV.cells,fl0,fl2,flS,flS1,flI1,flU1,flU2,flF]; try exact rfl) (by simp (disch:=first|decide|(simp only[zF,zG];decide)) only [zA,zB,zC,zD,zE,zF,zG,zH,zI,zJ,zK,HV.cells,fl0,fl2,flS,flS1,flI1,flU1,flU2,flF]; try exact rfl) (by first|assumption|(simp (disch:=omega) only [get_same,get_other]; first|done|exact rfl)) (by exact True.intro) (by rfl) (by rfl) (by first|assumption|exact ow2 _ _ _ _|exact ow3 _ _ _ _ _ _|rfl|(simp only [zI,zJ,HV.cells]; exact rfl)) (by omega) ?_
     | refine r_eq (by simp (disch:=first|decide|(simp only[zF,zG];decide)) only [zA,zB,zC,zD,zE,zF,zG,zH,zI,zJ,zK,HV.cells,fl0,fl2,flS,flS1,flI1,flU1,flU2,flF]; try exact rfl) (by simp (disch:=first|decide|(simp only[zF,zG];decide)) only [zA,zB,zC,zD,zE,zF,zG,zH,zI,zJ,zK,HV.cells,fl0,fl2,flS,flS1,flI1,flU1,flU2,flF]; try exact rfl) (fun hc => ?_) (fun hc => ?_) <;> (try (exfalso; omega))
     | refine r_ne (by simp (disch:=first|decide|(simp only[zF,zG];decide)) only [zA,zB,zC,zD,zE,zF,zG,zH,zI,zJ,zK,HV.cells,fl0,fl2,flS,flS1,flI1,flU1,flU2,flF]; try exact rfl) (by simp (disch:=first|decide|(simp only[zF,zG];decide)) only [zA,zB,zC,zD,zE,zF,zG,zH,zI,zJ,zK,HV.cells,fl0,fl2,flS,flS1,flI1,flU1,flU2,flF]; try exact rfl) (fun hc => ?_) (fun hc => ?_) <;> (try (exfalso; omega))
     | refine r_eqb (by simp (disch:=first|decide|(simp only[zF,zG];decide)) only [zA,zB,zC,zD,zE,zF,zG,zH,zI,zJ,zK,HV.cells,fl0,fl2,flS,flS1,flI1,flU1,flU2,flF]; try exact rfl) (by simp (disch:=first|decide|(simp only[zF,zG];decide)) only [zA,zB,zC,zD,zE,zF,zG,zH,zI,zJ,zK,HV.cells,fl0,fl2,flS,flS1,flI1,flU1,flU2,flF]; try exact rfl) ?_
     | refine r_not1 (by simp (disch:=first|decide|(simp only[zF,zG];decide)) only [zA,zB,zC,zD,zE,zF,zG,zH,zI,zJ,zK,HV.cells,fl0,fl2,flS,flS1,flI1,flU1,flU2,flF]; try exact rfl) ?_
     | refine r_build (by simp (disch:=first|decide|(simp only[zF,zG];decide)) only [evParts,List.map_cons,List.map_nil,List.nil_append,List.cons_append,List.append_nil,zA,zB,zC,zD,zE,zF,zG,zH,zI,zJ,zK,HV.cells,fl0,fl2,flS,flS1,flI1,flU1,flU2,flF]; try exact rfl) ?_
     | refine r_calls (by simp (disch:=first|decide|(simp only[zF,zG];decide)) only [zA,zB,zC,zD,zE,zF,zG,zH,zI,zJ,zK,HV.cells,fl0,fl2,flS,flS1,flI1,flU1,flU2,flF]; try exact rfl) (by simp (disch:=first|decide|(simp only[zF,zG];decide)) only [List.map_cons,List.map_nil,List.nil_append,List.cons_append,List.append_nil,zA,zB,zC,zD,zE,zF,zG,zH,zI,zJ,zK,HV.cells,fl0,fl2,flS,flS1,flI1,flU1,flU2,flF]; first|done|exact rfl) (cC _ _ _ (by repeat' first|assumption|refine Ext.put ?_ (by omega) (by omega)|exact Ext.up (by assumption) (by omega)|exact Ext.nx (by assumption) (by omega))) (fun n' hn' => ?_)
     | refine w_draw (by omega) (by (repeat' first|assumption|refine D.upd ?_ (by omega)|exact D.mono (by assumption) (by omega)) <;> fail) ?_
     | refine d_nil ?_
     | refine d_rest rfl ?_
     | refine d_al2 rfl rfl rfl ?_
     | refine d_bs rfl ?_
     | refine d_box rfl ?_
     | refine d_alloc rfl ?_
     | refine d_one rfl ?_
     | refine d_next (by omega) ?_
     | refine d_laid ?_
     | fail
    exact fin_m (by simp only [zL,zM]) (res_c (by simp (disch:=first|decide|(simp only[zF,zG];decide)) only [zA,zB,zC,zD,zE,zF,zG,zH,zI,zJ,zK,HV.cells,fl0,fl2,flS,flS1,flI1,flU1,flU2,flF]; try exact rfl) (by first|assumption|(simp (disch:=omega) only [get_same,get_other]; first|done|exact rfl)) rfl (res_t (by simp (disch:=first|decide|(simp only[zF,zG];decide)) only [zA,zB,zC,zD,zE,zF,zG,zH,zI,zJ,zK,HV.cells,fl0,fl2,flS,flS1,flI1,flU1,flU2,flF]; try exact rfl) res_nil)) (sc_flat rfl (by dsimp only; omega) rfl)
theorem stp_bd {l : List (Int × Int)} (ht : TbOk l) {x : Int} (h0 : pP l 0 ≤ x) (hx : x ≤ pP l (l.length - 1)) : pH l 0 ≤ stp l x ∧ stp l x ≤ pH l (l.length - 1) := stg_bd (up_tb ht) ht.1 h0 hx
theorem pH_bd {l : List (Int × Int)} (ht : TbOk l) {j : Nat} (hj : j < l.length) : 1 ≤ pH l j ∧ pH l j ≤ 2000 := by
  have := ht.2.1 l[j] (List.getElem_mem hj)
  unfold StOk at this
  rw [pH_at hj]; omega
def cor (s : Int × Int) (l : List (Int × Int)) (q r : Int × Int) : (Int × Int) × Int :=
  if chkT l = 0 then (if chkR [s] r = 0 then (if (boi l q).2 = 0 then (tru s (boi l q).1 r, 0) else ((0, 0), (boi l q).2)) else ((0, 0), chkR [s] r)) else ((0, 0), chkT l)
theorem boi_bd {l : List (Int × Int)} {q : Int × Int} (ht : TbOk l) (h : (boi l q).2 = 0) : PrOk l q ∧ (boi l q).1 = (stp l q.1, stp l q.2) ∧ (1 ≤ (boi l q).1.1 ∧ (boi l q).1.1 ≤ 2000) ∧ (1 ≤ (boi l q).1.2 ∧ (boi l q).1.2 ≤ 2000) := by
  have hk : PrOk l q := by
    refine Decidable.byContradiction fun hk => ?_
    unfold boi at h
    by_cases hc : chkT l = 0
    · rw [if_pos hc, if_neg hk] at h; revert h; decide
    · rw [if_neg hc] at h; exact hc h
  have e : boi l q = ((stp l q.1, stp l q.2), 0) := by
    unfold boi at h ⊢
    by_cases hc : chkT l = 0
    · rw [if_pos hc, if_pos hk]
    · rw [if_neg hc] at h; exact absurd h hc
  obtain ⟨k1, k2, k3⟩ := hk
  have a := stp_bd ht k1 (by omega)
  have b := stp_bd ht (x := q.2) (by omega) k3
  have c := pH_bd ht (j := 0) (by have := ht.1; omega)
  have d := pH_bd ht (j := l.length - 1) (by have := ht.1; omega)
  rw [e]
  exact ⟨⟨k1, k2, k3⟩, rfl, ⟨by dsimp only; omega, by dsimp only; omega⟩, ⟨by dsimp only; omega, by dsimp only; omega⟩⟩
/- 32 -/
theorem c_Corrected {fl : Nat} {h : Tr HBlk} {nx : Nat} (hd : D h nx) {p : Option (Nat × Nat)} {l : List (Int × Int)} {n cp : Nat} {s q r : Int × Int} (hn : n = l.length) (hcp : l.length ≤ cp) (hlen : l.length < 1000000000) (hrow : Row renc 2 h nx p l) :
    C LW fl 32 [.agg (renc s), .slice p n cp, .agg (renc q), .agg (renc r)] ⟨h, nx⟩ (Sc (· = .tuple [.agg (renc (cor s l q r).1), i64 (cor s l q r).2]) ⟨h, nx⟩) := by
  subst hn
  have cC : ∀ fl h' n', Ext h nx h' n' → C LW fl 63 [.slice p l.length cp] ⟨h', n'⟩ (Sc (· = i64 (chkT l)) ⟨h', n'⟩) := fun fl h' n' e => c_checkTable e.d rfl hlen (hrow.ext e)
  have cB : ∀ fl h' n', Ext h nx h' n' → C LW fl 30 [.slice p l.length cp, .agg (renc q)] ⟨h', n'⟩ (Sc (· = .tuple [.agg (renc (boi l q).1), i64 (boi l q).2]) ⟨h', n'⟩) := fun fl h' n' e => c_Boils e.d rfl hcp hlen (hrow.ext e)
  have cR : ∀ fl h' n' b k, D h' n' → b < n' → h'.get b = some (.cells (renc s) k) → C LW fl 53 [.agg (renc r), .slice (some (b, 0)) 1 1] ⟨h', n'⟩ (Sc (· = i64 (chkR [s] r)) ⟨h', n'⟩) := fun fl h' n' b k e hb hg => c_checkReadings (l := [s]) (r := r) (cp := 1) e rfl (by simp) (row_flat (k := k) renc_len hb (by rw [hg]; rfl))
  refine c_in lw32 rfl rfl rfl ?_
  dsimp only [L32]
  unfold cor
  by_cases hc : chkT l = 0
  · rw [if_pos hc]
    rw [hc] at cC
    have ht := tb_ok hc
    by_cases hr : chkR [s] r = 0
    · rw [if_pos hr]
      rw [hr] at cR
      by_cases hb : (boi l q).2 = 0
      · rw [if_pos hb]
        obtain ⟨_, _, b1, b2⟩ := boi_bd ht hb
        rw [hb] at cB
        have cT : ∀ fl h' n', D h' n' → C LW fl 54 [.agg (renc s), .agg (renc (boi l q).1), .agg (renc r)] ⟨h', n'⟩ (Sc (· = .agg (renc (tru s (boi l q).1 r))) ⟨h', n'⟩) := fun fl h' n' e => c_true e (chkR_s hr) (chkR_r hr) (by omega)
        obtain ⟨u, hu⟩ : ∃ x, x = (boi l q).1 := ⟨_, rfl⟩
        rw [← hu] at cB cT ⊢
        obtain ⟨v, hv⟩ : ∃ x, x = tru s u r := ⟨_, rfl⟩
        rw [← hv] at cT ⊢
        repeat' first
         | refine r_nil ?_
         | refine th_n ?_
         | refine th_r ?_
         | refine w_seq ?_
         | refine w_reg ?_
         | refine w_ret ?_
         | refine w_skip ?_
         | refine w_t (by simp (disch:=first|decide|(simp only[zF,zG];decide)) only [zA,zB,zC,zD,zE,zF,zG,zH,zI,zJ,zK,HV.cells,fl0,fl2,flS,flS1,flI1,flU1,flU2,flF]; first|done|exact rfl) ?_
         | refine w_f (by simp (disch:=first|decide|(simp only[zF,zG];decide)) only [zA,zB,zC,zD,zE,zF,zG,zH,zI,zJ,zK,HV.cells,fl0,fl2,flS,flS1,flI1,flU1,flU2,flF]; first|done|exact rfl) ?_
         | refine r_move (by simp (disch:=first|decide|(simp only[zF,zG];decide)) only [zA,zB,zC,zD,zE,zF,zG,zH,zI,zJ,zK,HV.cells,fl0,fl2,flS,flS1,flI1,flU1,flU2,flF]; try exact rfl) ?_
         | refine r_ldn (by simp (disch:=first|decide|(simp only[zF,zG];decide)) only [zA,zB,zC,zD,zE,zF,zG,zH,zI,zJ,zK,HV.cells,fl0,fl2,flS,flS1,flI1,flU1,flU2,flF]; try exact rfl) (by first|assumption|(simp (disch:=omega) only [get_same,get_other]; first|done|exact rfl)) (by first|assumption|exact ow2 _ _ _ _|exact ow3 _ _ _ _ _ _|rfl|(simp only [zI,zJ,HV.cells]; exact rfl)) ?_
         | refine r_box (by simp (disch:=first|decide|(simp only[zF,zG];decide)) only [zA,zB,zC,zD,zE,zF,zG,zH,zI,zJ,zK,HV.cells,fl0,fl2,flS,flS1,flI1,flU1,flU2,flF]; try exact rfl) ?_
         | refine r_alloc ?_
         | refine r_st (cs' := _) (by simp (disch:=first|decide|(simp only[zF,zG];decide)) only [zA,zB,zC,zD,zE,zF,zG,zH,zI,zJ,zK,HV.cells,fl0,fl2,flS,flS1,flI1,flU1,flU2,flF]; try exact rfl) (by simp (disch:=first|decide|(simp only[zF,zG];decide)) only [zA,zB,zC,zD,zE,zF,zG,zH,zI,zJ,zK,HV.cells,fl0,fl2,flS,flS1,flI1,flU1,flU2,flF]; try exact rfl) (by first|assumption|(simp (disch:=omega) only [get_same,get_other]; first|done|exact rfl)) (by exact True.intro) (by rfl) (by rfl) (by first|assumption|exact ow2 _ _ _ _|exact ow3 _ _ _ _ _ _|rfl|(simp only [zI,zJ,HV.cells]; exact rfl)) (by omega) ?_
         | refine r_eq (by simp (disch:=first|decide|(simp only[zF,zG];decide)) only [zA,zB,zC,zD,zE,zF,zG,zH,zI,zJ,zK,HV.cells,fl0,fl2,flS,flS1,flI1,flU1,flU2,flF]; try exact rfl) (by simp (disch:=first|decide|(simp only[zF,zG];decide)) only [zA,zB,zC,zD,zE,zF,zG,zH,zI,zJ,zK,HV.cells,fl0,fl2,flS,flS1,flI1,flU1,flU2,flF]; try exact rfl) (fun hc => ?_) (fun hc => ?_) <;> (try (exfalso; omega))
         | refine r_ne (by simp (disch:=first|decide|(simp only[zF,zG];decide)) only [zA,zB,zC,zD,zE,zF,zG,zH,zI,zJ,zK,HV.cells,fl0,fl2,flS,flS1,flI1,flU1,flU2,flF]; try exact rfl) (by simp (disch:=first|decide|(simp only[zF,zG];decide)) only [zA,zB,zC,zD,zE,zF,zG,zH,zI,zJ,zK,HV.cells,fl0,fl2,flS,flS1,flI1,flU1,flU2,flF]; try exact rfl) (fun hc => ?_) (fun hc => ?_) <;> (try (exfalso; omega))
         | refine r_eqb (by simp (disch:=first|decide|(simp only[zF,zG];decide)) only [zA,zB,zC,zD,zE,zF,zG,zH,zI,zJ,zK,HV.cells,fl0,fl2,flS,flS1,flI1,flU1,flU2,flF]; try exact rfl) (by simp (disch:=first|decide|(simp only[zF,zG];decide)) only [zA,zB,zC,zD,zE,zF,zG,zH,zI,zJ,zK,HV.cells,fl0,fl2,flS,flS1,flI1,flU1,flU2,flF]; try exact rfl) ?_
         | refine r_ext (by simp (disch:=first|decide|(simp only[zF,zG];decide)) only [zA,zB,zC,zD,zE,zF,zG,zH,zI,zJ,zK,HV.cells,fl0,fl2,flS,flS1,flI1,flU1,flU2,flF]; try exact rfl) (by first|assumption|exact ow2 _ _ _ _|exact ow3 _ _ _ _ _ _|rfl|(simp only [zI,zJ,HV.cells]; exact rfl)) ?_
         | refine r_build (by simp (disch:=first|decide|(simp only[zF,zG];decide)) only [evParts,List.map_cons,List.map_nil,List.nil_append,List.cons_append,List.append_nil,zA,zB,zC,zD,zE,zF,zG,zH,zI,zJ,zK,HV.cells,fl0,fl2,flS,flS1,flI1,flU1,flU2,flF]; try exact rfl) ?_
         | refine r_bs (by simp (disch:=first|decide|(simp only[zF,zG];decide)) only [evParts,List.map_cons,List.map_nil,List.nil_append,List.cons_append,List.append_nil,zA,zB,zC,zD,zE,zF,zG,zH,zI,zJ,zK,HV.cells,fl0,fl2,flS,flS1,flI1,flU1,flU2,flF]; try exact rfl) ?_
         | refine r_calls (by simp (disch:=first|decide|(simp only[zF,zG];decide)) only [zA,zB,zC,zD,zE,zF,zG,zH,zI,zJ,zK,HV.cells,fl0,fl2,flS,flS1,flI1,flU1,flU2,flF]; try exact rfl) (by simp (disch:=first|decide|(simp only[zF,zG];decide)) only [List.map_cons,List.map_nil,List.nil_append,List.cons_append,List.append_nil,zA,zB,zC,zD,zE,zF,zG,zH,zI,zJ,zK,HV.cells,fl0,fl2,flS,flS1,flI1,flU1,flU2,flF]; first|done|exact rfl) (cC _ _ _ (by repeat' first|assumption|refine Ext.put ?_ (by omega) (by omega)|exact Ext.up (by assumption) (by omega)|exact Ext.nx (by assumption) (by omega))) (fun n' hn' => ?_)
         | refine r_calls (by simp (disch:=first|decide|(simp only[zF,zG];decide)) only [zA,zB,zC,zD,zE,zF,zG,zH,zI,zJ,zK,HV.cells,fl0,fl2,flS,flS1,flI1,flU1,flU2,flF]; try exact rfl) (by simp (disch:=first|decide|(simp only[zF,zG];decide)) only [List.map_cons,List.map_nil,List.nil_append,List.cons_append,List.append_nil,zA,zB,zC,zD,zE,zF,zG,zH,zI,zJ,zK,HV.cells,fl0,fl2,flS,flS1,flI1,flU1,flU2,flF]; first|done|exact rfl) (cR _ _ _ _ _ (by (repeat' first|assumption|refine D.upd ?_ (by omega)|exact D.mono (by assumption) (by omega)) <;> fail) (by omega) (by first|assumption|(simp (disch:=omega) only [get_same,get_other]; first|done|exact rfl))) (fun n' hn' => ?_)
         | refine r_calls (by simp (disch:=first|decide|(simp only[zF,zG];decide)) only [zA,zB,zC,zD,zE,zF,zG,zH,zI,zJ,zK,HV.cells,fl0,fl2,flS,flS1,flI1,flU1,flU2,flF]; try exact rfl) (by simp (disch:=first|decide|(simp only[zF,zG];decide)) only [List.map_cons,List.map_nil,List.nil_append,List.cons_append,List.append_nil,zA,zB,zC,zD,zE,zF,zG,zH,zI,zJ,zK,HV.cells,fl0,fl2,flS,flS1,flI1,flU1,flU2,flF]; first|done|exact rfl) (cB _ _ _ (by repeat' first|assumption|refine Ext.put ?_ (by omega) (by omega)|exact Ext.up (by assumption) (by omega)|exact Ext.nx (by assumption) (by omega))) (fun n' hn' => ?_)
         | refine r_calls (by simp (disch:=first|decide|(simp only[zF,zG];decide)) only [zA,zB,zC,zD,zE,zF,zG,zH,zI,zJ,zK,HV.cells,fl0,fl2,flS,flS1,flI1,flU1,flU2,flF]; try exact rfl) (by simp (disch:=first|decide|(simp only[zF,zG];decide)) only [List.map_cons,List.map_nil,List.nil_append,List.cons_append,List.append_nil,zA,zB,zC,zD,zE,zF,zG,zH,zI,zJ,zK,HV.cells,fl0,fl2,flS,flS1,flI1,flU1,flU2,flF]; first|done|exact rfl) (cT _ _ _ (by (repeat' first|assumption|refine D.upd ?_ (by omega)|exact D.mono (by assumption) (by omega)) <;> fail)) (fun n' hn' => ?_)
         | fail
        exact fin_m (by simp only [zL,zM]) (res_c (by simp (disch:=first|decide|(simp only[zF,zG];decide)) only [zA,zB,zC,zD,zE,zF,zG,zH,zI,zJ,zK,HV.cells,fl0,fl2,flS,flS1,flI1,flU1,flU2,flF]; try exact rfl) (by first|assumption|(simp (disch:=omega) only [get_same,get_other]; first|done|exact rfl)) rfl (res_t (by simp (disch:=first|decide|(simp only[zF,zG];decide)) only [zA,zB,zC,zD,zE,zF,zG,zH,zI,zJ,zK,HV.cells,fl0,fl2,flS,flS1,flI1,flU1,flU2,flF]; try exact rfl) res_nil)) (sc_flat rfl (by dsimp only; omega) rfl)
      · rw [if_neg hb]
        obtain ⟨u, hu⟩ : ∃ x, x = (boi l q).1 := ⟨_, rfl⟩
        obtain ⟨v, hv⟩ : ∃ x, x = (boi l q).2 := ⟨_, rfl⟩
        rw [← hv] at hb ⊢
        rw [← hu, ← hv] at cB
        repeat' first
         | refine r_nil ?_
         | refine th_n ?_
         | refine th_r ?_
         | refine w_seq ?_
         | refine w_reg ?_
         | refine w_ret ?_
         | refine w_skip ?_
         | refine w_t (by simp (disch:=first|decide|(simp only[zF,zG];decide)) only [zA,zB,zC,zD,zE,zF,zG,zH,zI,zJ,zK,HV.cells,fl0,fl2,flS,flS1,flI1,flU1,flU2,flF]; first|done|exact rfl) ?_
         | refine w_f (by simp (disch:=first|decide|(simp only[zF,zG];decide)) only [zA,zB,zC,zD,zE,zF,zG,zH,zI,zJ,zK,HV.cells,fl0,fl2,flS,flS1,flI1,flU1,flU2,flF]; first|done|exact rfl) ?_
         | refine r_move (by simp (disch:=first|decide|(simp only[zF,zG];decide)) only [zA,zB,zC,zD,zE,zF,zG,zH,zI,zJ,zK,HV.cells,fl0,fl2,flS,flS1,flI1,flU1,flU2,flF]; try exact rfl) ?_
         | refine r_ldn (by simp (disch:=first|decide|(simp only[zF,zG];decide)) only [zA,zB,zC,zD,zE,zF,zG,zH,zI,zJ,zK,HV.cells,fl0,fl2,flS,flS1,flI1,flU1,flU2,flF]; try exact rfl) (by first|assumption|(simp (disch:=omega) only [get_same,get_other]; first|done|exact rfl)) (by first|assumption|exact ow2 _ _ _ _|exact ow3 _ _ _ _ _ _|rfl|(simp only [zI,zJ,HV.cells]; exact rfl)) ?_
         | refine r_box (by simp (disch:=first|decide|(simp only[zF,zG];decide)) only [zA,zB,zC,zD,zE,zF,zG,zH,zI,zJ,zK,HV.cells,fl0,fl2,flS,flS1,flI1,flU1,flU2,flF]; try exact rfl) ?_
         | refine r_alloc ?_
         | refine r_st (cs' := _) (by simp (disch:=first|decide|(simp only[zF,zG];decide)) only [zA,zB,zC,zD,zE,zF,zG,zH,zI,zJ,zK,HV.cells,fl0,fl2,flS,flS1,flI1,flU1,flU2,flF]; try exact rfl) (by simp (disch:=first|decide|(simp only[zF,zG];decide)) only [zA,zB,zC,zD,zE,zF,zG,zH,zI,zJ,zK,HV.cells,fl0,fl2,flS,flS1,flI1,flU1,flU2,flF]; try exact rfl) (by first|assumption|(simp (disch:=omega) only [get_same,get_other]; first|done|exact rfl)) (by exact True.intro) (by rfl) (by rfl) (by first|assumption|exact ow2 _ _ _ _|exact ow3 _ _ _ _ _ _|rfl|(simp only [zI,zJ,HV.cells]; exact rfl)) (by omega) ?_
         | refine r_eq (by simp (disch:=first|decide|(simp only[zF,zG];decide)) only [zA,zB,zC,zD,zE,zF,zG,zH,zI,zJ,zK,HV.cells,fl0,fl2,flS,flS1,flI1,flU1,flU2,flF]; try exact rfl) (by simp (disch:=first|decide|(simp only[zF,zG];decide)) only [zA,zB,zC,zD,zE,zF,zG,zH,zI,zJ,zK,HV.cells,fl0,fl2,flS,flS1,flI1,flU1,flU2,flF]; try exact rfl) (fun hc => ?_) (fun hc => ?_) <;> (try (exfalso; omega))
         | refine r_ne (by simp (disch:=first|decide|(simp only[zF,zG];decide)) only [zA,zB,zC,zD,zE,zF,zG,zH,zI,zJ,zK,HV.cells,fl0,fl2,flS,flS1,flI1,flU1,flU2,flF]; try exact rfl) (by simp (disch:=first|decide|(simp only[zF,zG];decide)) only [zA,zB,zC,zD,zE,zF,zG,zH,zI,zJ,zK,HV.cells,fl0,fl2,flS,flS1,flI1,flU1,flU2,flF]; try exact rfl) (fun hc => ?_) (fun hc => ?_) <;> (try (exfalso; omega))
         | refine r_eqb (by simp (disch:=first|decide|(simp only[zF,zG];decide)) only [zA,zB,zC,zD,zE,zF,zG,zH,zI,zJ,zK,HV.cells,fl0,fl2,flS,flS1,flI1,flU1,flU2,flF]; try exact rfl) (by simp (disch:=first|decide|(simp only[zF,zG];decide)) only [zA,zB,zC,zD,zE,zF,zG,zH,zI,zJ,zK,HV.cells,fl0,fl2,flS,flS1,flI1,flU1,flU2,flF]; try exact rfl) ?_
         | refine r_ext (by simp (disch:=first|decide|(simp only[zF,zG];decide)) only [zA,zB,zC,zD,zE,zF,zG,zH,zI,zJ,zK,HV.cells,fl0,fl2,flS,flS1,flI1,flU1,flU2,flF]; try exact rfl) (by first|assumption|exact ow2 _ _ _ _|exact ow3 _ _ _ _ _ _|rfl|(simp only [zI,zJ,HV.cells]; exact rfl)) ?_
         | refine r_build (by simp (disch:=first|decide|(simp only[zF,zG];decide)) only [evParts,List.map_cons,List.map_nil,List.nil_append,List.cons_append,List.append_nil,zA,zB,zC,zD,zE,zF,zG,zH,zI,zJ,zK,HV.cells,fl0,fl2,flS,flS1,flI1,flU1,flU2,flF]; try exact rfl) ?_
         | refine r_bs (by simp (disch:=first|decide|(simp only[zF,zG];decide)) only [evParts,List.map_cons,List.map_nil,List.nil_append,List.cons_append,List.append_nil,zA,zB,zC,zD,zE,zF,zG,zH,zI,zJ,zK,HV.cells,fl0,fl2,flS,flS1,flI1,flU1,flU2,flF]; try exact rfl) ?_
         | refine r_calls (by simp (disch:=first|decide|(simp only[zF,zG];decide)) only [zA,zB,zC,zD,zE,zF,zG,zH,zI,zJ,zK,HV.cells,fl0,fl2,flS,flS1,flI1,flU1,flU2,flF]; try exact rfl) (by simp (disch:=first|decide|(simp only[zF,zG];decide)) only [List.map_cons,List.map_nil,List.nil_append,List.cons_append,List.append_nil,zA,zB,zC,zD,zE,zF,zG,zH,zI,zJ,zK,HV.cells,fl0,fl2,flS,flS1,flI1,flU1,flU2,flF]; first|done|exact rfl) (cC _ _ _ (by repeat' first|assumption|refine Ext.put ?_ (by omega) (by omega)|exact Ext.up (by assumption) (by omega)|exact Ext.nx (by assumption) (by omega))) (fun n' hn' => ?_)
         | refine r_calls (by simp (disch:=first|decide|(simp only[zF,zG];decide)) only [zA,zB,zC,zD,zE,zF,zG,zH,zI,zJ,zK,HV.cells,fl0,fl2,flS,flS1,flI1,flU1,flU2,flF]; try exact rfl) (by simp (disch:=first|decide|(simp only[zF,zG];decide)) only [List.map_cons,List.map_nil,List.nil_append,List.cons_append,List.append_nil,zA,zB,zC,zD,zE,zF,zG,zH,zI,zJ,zK,HV.cells,fl0,fl2,flS,flS1,flI1,flU1,flU2,flF]; first|done|exact rfl) (cR _ _ _ _ _ (by (repeat' first|assumption|refine D.upd ?_ (by omega)|exact D.mono (by assumption) (by omega)) <;> fail) (by omega) (by first|assumption|(simp (disch:=omega) only [get_same,get_other]; first|done|exact rfl))) (fun n' hn' => ?_)
         | refine r_calls (by simp (disch:=first|decide|(simp only[zF,zG];decide)) only [zA,zB,zC,zD,zE,zF,zG,zH,zI,zJ,zK,HV.cells,fl0,fl2,flS,flS1,flI1,flU1,flU2,flF]; try exact rfl) (by simp (disch:=first|decide|(simp only[zF,zG];decide)) only [List.map_cons,List.map_nil,List.nil_append,List.cons_append,List.append_nil,zA,zB,zC,zD,zE,zF,zG,zH,zI,zJ,zK,HV.cells,fl0,fl2,flS,flS1,flI1,flU1,flU2,flF]; first|done|exact rfl) (cB _ _ _ (by repeat' first|assumption|refine Ext.put ?_ (by omega) (by omega)|exact Ext.up (by assumption) (by omega)|exact Ext.nx (by assumption) (by omega))) (fun n' hn' => ?_)
         | fail
        exact fin_m (by simp only [zL,zM]) (res_c (by simp (disch:=first|decide|(simp only[zF,zG];decide)) only [zA,zB,zC,zD,zE,zF,zG,zH,zI,zJ,zK,HV.cells,fl0,fl2,flS,flS1,flI1,flU1,flU2,flF]; try exact rfl) (by first|assumption|(simp (disch:=omega) only [get_same,get_other]; first|done|exact rfl)) rfl (res_t (by simp (disch:=first|decide|(simp only[zF,zG];decide)) only [zA,zB,zC,zD,zE,zF,zG,zH,zI,zJ,zK,HV.cells,fl0,fl2,flS,flS1,flI1,flU1,flU2,flF]; try exact rfl) res_nil)) (sc_flat rfl (by dsimp only; omega) rfl)
    · rw [if_neg hr]
      repeat' first
       | refine r_nil ?_
       | refine th_n ?_
       | refine th_r ?_
       | refine w_seq ?_
       | refine w_reg ?_
       | refine w_ret ?_
       | refine w_skip ?_
       | refine w_t (by simp (disch:=first|decide|(simp only[zF,zG];decide)) only [zA,zB,zC,zD,zE,zF,zG,zH,zI,zJ,zK,HV.cells,fl0,fl2,flS,flS1,flI1,flU1,flU2,flF]; first|done|exact rfl) ?_
       | refine w_f (by simp (disch:=first|decide|(simp only[zF,zG];decide)) only [zA,zB,zC,zD,zE,zF,zG,zH,zI,zJ,zK,HV.cells,fl0,fl2,flS,flS1,flI1,flU1,flU2,flF]; first|done|exact rfl) ?_
       | refine r_move (by simp (disch:=first|decide|(simp only[zF,zG];decide)) only [zA,zB,zC,zD,zE,zF,zG,zH,zI,zJ,zK,HV.cells,fl0,fl2,flS,flS1,flI1,flU1,flU2,flF]; try exact rfl) ?_
       | refine r_ldn (by simp (disch:=first|decide|(simp only[zF,zG];decide)) only [zA,zB,zC,zD,zE,zF,zG,zH,zI,zJ,zK,HV.cells,fl0,fl2,flS,flS1,flI1,flU1,flU2,flF]; try exact rfl) (by first|assumption|(simp (disch:=omega) only [get_same,get_other]; first|done|exact rfl)) (by first|assumption|exact ow2 _ _ _ _|exact ow3 _ _ _ _ _ _|rfl|(simp only [zI,zJ,HV.cells]; exact rfl)) ?_
       | refine r_box (by simp (disch:=first|decide|(simp only[zF,zG];decide)) only [zA,zB,zC,zD,zE,zF,zG,zH,zI,zJ,zK,HV.cells,fl0,fl2,flS,flS1,flI1,flU1,flU2,flF]; try exact rfl) ?_
       | refine r_alloc ?_
       | refine r_st (cs' := _) (by simp (disch:=first|decide|(simp only[zF,zG];decide)) only [zA,zB,zC,zD,zE,zF,zG,zH,zI,zJ,zK,HV.cells,fl0,fl2,flS,flS1,flI1,flU1,flU2,flF]; try exact rfl) (by simp (disch:=first|decide|(simp only[zF,zG];decide)) only [zA,zB,zC,zD,zE,zF,zG,zH,zI,zJ,zK,HV.cells,fl0,fl2,flS,flS1,flI1,flU1,flU2,flF]; try exact rfl) (by first|assumption|(simp (disch:=omega) only [get_same,get_other]; first|done|exact rfl)) (by exact True.intro) (by rfl) (by rfl) (by first|assumption|exact ow2 _ _ _ _|exact ow3 _ _ _ _ _ _|rfl|(simp only [zI,zJ,HV.cells]; exact rfl)) (by omega) ?_
       | refine r_eq (by simp (disch:=first|decide|(simp only[zF,zG];decide)) only [zA,zB,zC,zD,zE,zF,zG,zH,zI,zJ,zK,HV.cells,fl0,fl2,flS,flS1,flI1,flU1,flU2,flF]; try exact rfl) (by simp (disch:=first|decide|(simp only[zF,zG];decide)) only [zA,zB,zC,zD,zE,zF,zG,zH,zI,zJ,zK,HV.cells,fl0,fl2,flS,flS1,flI1,flU1,flU2,flF]; try exact rfl) (fun hc => ?_) (fun hc => ?_) <;> (try (exfalso; omega))
       | refine r_ne (by simp (disch:=first|decide|(simp only[zF,zG];decide)) only [zA,zB,zC,zD,zE,zF,zG,zH,zI,zJ,zK,HV.cells,fl0,fl2,flS,flS1,flI1,flU1,flU2,flF]; try exact rfl) (by simp (disch:=first|decide|(simp only[zF,zG];decide)) only [zA,zB,zC,zD,zE,zF,zG,zH,zI,zJ,zK,HV.cells,fl0,fl2,flS,flS1,flI1,flU1,flU2,flF]; try exact rfl) (fun hc => ?_) (fun hc => ?_) <;> (try (exfalso; omega))
       | refine r_eqb (by simp (disch:=first|decide|(simp only[zF,zG];decide)) only [zA,zB,zC,zD,zE,zF,zG,zH,zI,zJ,zK,HV.cells,fl0,fl2,flS,flS1,flI1,flU1,flU2,flF]; try exact rfl) (by simp (disch:=first|decide|(simp only[zF,zG];decide)) only [zA,zB,zC,zD,zE,zF,zG,zH,zI,zJ,zK,HV.cells,fl0,fl2,flS,flS1,flI1,flU1,flU2,flF]; try exact rfl) ?_
       | refine r_ext (by simp (disch:=first|decide|(simp only[zF,zG];decide)) only [zA,zB,zC,zD,zE,zF,zG,zH,zI,zJ,zK,HV.cells,fl0,fl2,flS,flS1,flI1,flU1,flU2,flF]; try exact rfl) (by first|assumption|exact ow2 _ _ _ _|exact ow3 _ _ _ _ _ _|rfl|(simp only [zI,zJ,HV.cells]; exact rfl)) ?_
       | refine r_build (by simp (disch:=first|decide|(simp only[zF,zG];decide)) only [evParts,List.map_cons,List.map_nil,List.nil_append,List.cons_append,List.append_nil,zA,zB,zC,zD,zE,zF,zG,zH,zI,zJ,zK,HV.cells,fl0,fl2,flS,flS1,flI1,flU1,flU2,flF]; try exact rfl) ?_
       | refine r_bs (by simp (disch:=first|decide|(simp only[zF,zG];decide)) only [evParts,List.map_cons,List.map_nil,List.nil_append,List.cons_append,List.append_nil,zA,zB,zC,zD,zE,zF,zG,zH,zI,zJ,zK,HV.cells,fl0,fl2,flS,flS1,flI1,flU1,flU2,flF]; try exact rfl) ?_
       | refine r_calls (by simp (disch:=first|decide|(simp only[zF,zG];decide)) only [zA,zB,zC,zD,zE,zF,zG,zH,zI,zJ,zK,HV.cells,fl0,fl2,flS,flS1,flI1,flU1,flU2,flF]; try exact rfl) (by simp (disch:=first|decide|(simp only[zF,zG];decide)) only [List.map_cons,List.map_nil,List.nil_append,List.cons_append,List.append_nil,zA,zB,zC,zD,zE,zF,zG,zH,zI,zJ,zK,HV.cells,fl0,fl2,flS,flS1,flI1,flU1,flU2,flF]; first|done|exact rfl) (cC _ _ _ (by repeat' first|assumption|refine Ext.put ?_ (by omega) (by omega)|exact Ext.up (by assumption) (by omega)|exact Ext.nx (by assumption) (by omega))) (fun n' hn' => ?_)
       | refine r_calls (by simp (disch:=first|decide|(simp only[zF,zG];decide)) only [zA,zB,zC,zD,zE,zF,zG,zH,zI,zJ,zK,HV.cells,fl0,fl2,flS,flS1,flI1,flU1,flU2,flF]; try exact rfl) (by simp (disch:=first|decide|(simp only[zF,zG];decide)) only [List.map_cons,List.map_nil,List.nil_append,List.cons_append,List.append_nil,zA,zB,zC,zD,zE,zF,zG,zH,zI,zJ,zK,HV.cells,fl0,fl2,flS,flS1,flI1,flU1,flU2,flF]; first|done|exact rfl) (cR _ _ _ _ _ (by (repeat' first|assumption|refine D.upd ?_ (by omega)|exact D.mono (by assumption) (by omega)) <;> fail) (by omega) (by first|assumption|(simp (disch:=omega) only [get_same,get_other]; first|done|exact rfl))) (fun n' hn' => ?_)
       | fail
      exact fin_m (by simp only [zL,zM]) (res_c (by simp (disch:=first|decide|(simp only[zF,zG];decide)) only [zA,zB,zC,zD,zE,zF,zG,zH,zI,zJ,zK,HV.cells,fl0,fl2,flS,flS1,flI1,flU1,flU2,flF]; try exact rfl) (by first|assumption|(simp (disch:=omega) only [get_same,get_other]; first|done|exact rfl)) rfl (res_t (by simp (disch:=first|decide|(simp only[zF,zG];decide)) only [zA,zB,zC,zD,zE,zF,zG,zH,zI,zJ,zK,HV.cells,fl0,fl2,flS,flS1,flI1,flU1,flU2,flF]; try exact rfl) res_nil)) (sc_flat rfl (by dsimp only; omega) rfl)
  · rw [if_neg hc]
    repeat' first
     | refine r_nil ?_
     | refine th_n ?_
     | refine th_r ?_
     | refine w_seq ?_
     | refine w_reg ?_
     | refine w_ret ?_
     | refine w_skip ?_
     | refine w_t (by simp (disch:=first|decide|(simp only[zF,zG];decide)) only [zA,zB,zC,zD,zE,zF,zG,zH,zI,zJ,zK,HV.cells,fl0,fl2,flS,flS1,flI1,flU1,flU2,flF]; first|done|exact rfl) ?_
     | refine w_f (by simp (disch:=first|decide|(simp only[zF,zG];decide)) only [zA,zB,zC,zD,zE,zF,zG,zH,zI,zJ,zK,HV.cells,fl0,fl2,flS,flS1,flI1,flU1,flU2,flF]; first|done|exact rfl) ?_
     | refine r_move (by simp (disch:=first|decide|(simp only[zF,zG];decide)) only [zA,zB,zC,zD,zE,zF,zG,zH,zI,zJ,zK,HV.cells,fl0,fl2,flS,flS1,flI1,flU1,flU2,flF]; try exact rfl) ?_
     | refine r_ldn (by simp (disch:=first|decide|(simp only[zF,zG];decide)) only [zA,zB,zC,zD,zE,zF,zG,zH,zI,zJ,zK,HV.cells,fl0,fl2,flS,flS1,flI1,flU1,flU2,flF]; try exact rfl) (by first|assumption|(simp (disch:=omega) only [get_same,get_other]; first|done|exact rfl)) (by first|assumption|exact ow2 _ _ _ _|exact ow3 _ _ _ _ _ _|rfl|(simp only [zI,zJ,HV.cells]; exact rfl)) ?_
     | refine r_box (by simp (disch:=first|decide|(simp only[zF,zG];decide)) only [zA,zB,zC,zD,zE,zF,zG,zH,zI,zJ,zK,HV.cells,fl0,fl2,flS,flS1,flI1,flU1,flU2,flF]; try exact rfl) ?_
     | refine r_alloc ?_
     | refine r_st (cs' := _) (by simp (disch:=first|decide|(simp only[zF,zG];decide)) only [zA,zB,zC,zD,zE,zF,zG,zH,zI,zJ,zK,HV.cells,fl0,fl2,flS,flS1,flI1,flU1,flU2,flF]; try exact rfl) (by simp (disch:=first|decide|(simp only[zF,zG];decide)) only [zA,zB,zC,zD,zE,zF,zG,zH,zI,zJ,zK,HV.cells,fl0,fl2,flS,flS1,flI1,flU1,flU2,flF]; try exact rfl) (by first|assumption|(simp (disch:=omega) only [get_same,get_other]; first|done|exact rfl)) (by exact True.intro) (by rfl) (by rfl) (by first|assumption|exact ow2 _ _ _ _|exact ow3 _ _ _ _ _ _|rfl|(simp only [zI,zJ,HV.cells]; exact rfl)) (by omega) ?_
     | refine r_eq (by simp (disch:=first|decide|(simp only[zF,zG];decide)) only [zA,zB,zC,zD,zE,zF,zG,zH,zI,zJ,zK,HV.cells,fl0,fl2,flS,flS1,flI1,flU1,flU2,flF]; try exact rfl) (by simp (disch:=first|decide|(simp only[zF,zG];decide)) only [zA,zB,zC,zD,zE,zF,zG,zH,zI,zJ,zK,HV.cells,fl0,fl2,flS,flS1,flI1,flU1,flU2,flF]; try exact rfl) (fun hc => ?_) (fun hc => ?_) <;> (try (exfalso; omega))
     | refine r_ne (by simp (disch:=first|decide|(simp only[zF,zG];decide)) only [zA,zB,zC,zD,zE,zF,zG,zH,zI,zJ,zK,HV.cells,fl0,fl2,flS,flS1,flI1,flU1,flU2,flF]; try exact rfl) (by simp (disch:=first|decide|(simp only[zF,zG];decide)) only [zA,zB,zC,zD,zE,zF,zG,zH,zI,zJ,zK,HV.cells,fl0,fl2,flS,flS1,flI1,flU1,flU2,flF]; try exact rfl) (fun hc => ?_) (fun hc => ?_) <;> (try (exfalso; omega))
     | refine r_eqb (by simp (disch:=first|decide|(simp only[zF,zG];decide)) only [zA,zB,zC,zD,zE,zF,zG,zH,zI,zJ,zK,HV.cells,fl0,fl2,flS,flS1,flI1,flU1,flU2,flF]; try exact rfl) (by simp (disch:=first|decide|(simp only[zF,zG];decide)) only [zA,zB,zC,zD,zE,zF,zG,zH,zI,zJ,zK,HV.cells,fl0,fl2,flS,flS1,flI1,flU1,flU2,flF]; try exact rfl) ?_
     | refine r_ext (by simp (disch:=first|decide|(simp only[zF,zG];decide)) only [zA,zB,zC,zD,zE,zF,zG,zH,zI,zJ,zK,HV.cells,fl0,fl2,flS,flS1,flI1,flU1,flU2,flF]; try exact rfl) (by first|assumption|exact ow2 _ _ _ _|exact ow3 _ _ _ _ _ _|rfl|(simp only [zI,zJ,HV.cells]; exact rfl)) ?_
     | refine r_build (by simp (disch:=first|decide|(simp only[zF,zG];decide)) only [evParts,List.map_cons,List.map_nil,List.nil_append,List.cons_append,List.append_nil,zA,zB,zC,zD,zE,zF,zG,zH,zI,zJ,zK,HV.cells,fl0,fl2,flS,flS1,flI1,flU1,flU2,flF]; try exact rfl) ?_
     | refine r_bs (by simp (disch:=first|decide|(simp only[zF,zG];decide)) only [evParts,List.map_cons,List.map_nil,List.nil_append,List.cons_append,List.append_nil,zA,zB,zC,zD,zE,zF,zG,zH,zI,zJ,zK,HV.cells,fl0,fl2,flS,flS1,flI1,flU1,flU2,flF]; try exact rfl) ?_
     | refine r_calls (by simp (disch:=first|decide|(simp only[zF,zG];decide)) only [zA,zB,zC,zD,zE,zF,zG,zH,zI,zJ,zK,HV.cells,fl0,fl2,flS,flS1,flI1,flU1,flU2,flF]; try exact rfl) (by simp (disch:=first|decide|(simp only[zF,zG];decide)) only [List.map_cons,List.map_nil,List.nil_append,List.cons_append,List.append_nil,zA,zB,zC,zD,zE,zF,zG,zH,zI,zJ,zK,HV.cells,fl0,fl2,flS,flS1,flI1,flU1,flU2,flF]; first|done|exact rfl) (cC _ _ _ (by repeat' first|assumption|refine Ext.put ?_ (by omega) (by omega)|exact Ext.up (by assumption) (by omega)|exact Ext.nx (by assumption) (by omega))) (fun n' hn' => ?_)
     | fail
    exact fin_m (by simp only [zL,zM]) (res_c (by simp (disch:=first|decide|(simp only[zF,zG];decide)) only [zA,zB,zC,zD,zE,zF,zG,zH,zI,zJ,zK,HV.cells,fl0,fl2,flS,flS1,flI1,flU1,flU2,flF]; try exact rfl) (by first|assumption|(simp (disch:=omega) only [get_same,get_other]; first|done|exact rfl)) rfl (res_t (by simp (disch:=first|decide|(simp only[zF,zG];decide)) only [zA,zB,zC,zD,zE,zF,zG,zH,zI,zJ,zK,HV.cells,fl0,fl2,flS,flS1,flI1,flU1,flU2,flF]; try exact rfl) res_nil)) (sc_flat rfl (by dsimp only; omega) rfl)
end Go.Hx

