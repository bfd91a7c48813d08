/- Walks of the plain machine: one rule for each operation. -/
import Derived.Test.YtojkmobfhkjfnaaHyC
set_option linter.all false
namespace Go.Hx
variable {lp : Nat → Option LFunc} {fl : Nat} {rd : Option Nat} {Q : HExit → HAct → HS → Prop} {N : HAct → HS → Prop} {a : HAct} {h : Tr HBlk} {nx : Nat} {os : List LOper} {dst : Option Nat} {anc : List Nat}
abbrev i64 (n : Int) : HV := .int .i64 n

/-! where a code goes on -/
theorem th_n {c : LCode} {σ : HS} (h : W lp fl rd c Q a σ) : thenH (W lp fl rd c Q) Q .normal a σ := h
theorem th_r {N : HAct → HS → Prop} {σ : HS} (h : Q .ret a σ) : thenH N Q .ret a σ := h
theorem th_e {N : HAct → HS → Prop} {i : Nat} {σ : HS} (h : Q (.exit i) a σ) : thenH N Q (.exit i) a σ := h
theorem ib_n {id : Nat} {σ : HS} (h : Q .normal a σ) : inBlockH id Q .normal a σ := h
theorem ib_r {id : Nat} {σ : HS} (h : Q .ret a σ) : inBlockH id Q .ret a σ := h
theorem ib_e {id : Nat} {σ : HS} (h : Q .normal a σ) : inBlockH id Q (.exit id) a σ := by show (if id = id then _ else _); rw [if_pos rfl]; exact h
theorem ib_x {i id : Nat} {σ : HS} (hi : i ≠ id) (h : Q (.exit i) a σ) : inBlockH id Q (.exit i) a σ := by show (if i = id then _ else _); rw [if_neg hi]; exact h
theorem w_t {c : Lo} {x y : LCode} {σ : HS} (hc : a.ev c = .bool true) (h : W lp fl rd x Q a σ) : W lp fl rd (.cond c x y) Q a σ := w_cond hc h
theorem w_f {c : Lo} {x y : LCode} {σ : HS} (hc : a.ev c = .bool false) (h : W lp fl rd y Q a σ) : W lp fl rd (.cond c x y) Q a σ := w_cond hc h
/-- The end of a function that writes nothing of its caller's. -/
def Fin (σ0 : HS) (res : List LRes) (K : HV → HS → Prop) : HExit → HAct → HS → Prop := fun e a σ' => match e with | .exit _ => False | _ => ∃ v σ'', leaveH σ0.nx a res σ' = some (v, σ'') ∧ K v (gcH σ0 σ'' v)
theorem c_in {f : Nat} {args : List HV} {lf : LFunc} {K : HV → HS → Prop} (hf : lp f = some lf) (hs : lf.spec = none) (hi : lf.imp = false) (hl : Nat.ble args.length lf.nt = true)
    (hw : W lp nx none lf.body (Fin ⟨h, nx⟩ lf.res K) (enter lf.nt args) ⟨h, nx⟩) : C lp fl f args ⟨h, nx⟩ K := c_of hf hs hi (by
      rw [show Nat.max lf.nt args.length = lf.nt from Nat.max_eq_left (Nat.le_of_ble_eq_true hl)]; exact hw)
theorem fin_r {σ0 σ : HS} {t : Nat} {K : HV → HS → Prop} {v : HV} (hd : a.defers = []) (hv : a.tmp t = v) (hk : K v (gcH σ0 σ v)) : Fin σ0 [.t t] K .ret a σ := ⟨_, _, leave_one hd, hv ▸ hk⟩
theorem fin_n {σ0 σ : HS} {t : Nat} {K : HV → HS → Prop} {v : HV} (hd : a.defers = []) (hv : a.tmp t = v) (hk : K v (gcH σ0 σ v)) : Fin σ0 [.t t] K .normal a σ := ⟨_, _, leave_one hd, hv ▸ hk⟩

/-! operations -/
theorem r_move {x : Lo} {v : HV} {σ : HS} (hx : a.ev x = v) (hn : R lp fl os N (a.put dst v) σ) : R lp fl (⟨dst, .move x, none, anc⟩ :: os) N a σ := by subst hx; exact r_go rfl hn
theorem r_box {x : Lo} {v : HV} (hx : a.ev x = v) (hn : R lp fl os N (a.put dst (.ptr (some (nx, 0)))) ⟨h.set nx (some (.cells v.cells .exact)), nx + 1⟩) : R lp fl (⟨dst, .box x, none, anc⟩ :: os) N a ⟨h, nx⟩ := by subst hx; exact r_go rfl hn
theorem r_alloc {z : List HV} (hn : R lp fl os N (a.put dst (.ptr (some (nx, 0)))) ⟨h.set nx (some (.cells z .exact)), nx + 1⟩) : R lp fl (⟨dst, .alloc z, none, anc⟩ :: os) N a ⟨h, nx⟩ := r_go rfl hn
theorem r_fa {off : Nat} {x : Lo} {b o : Nat} {σ : HS} (hx : a.ev x = .ptr (some (b, o))) (hn : R lp fl os N (a.put dst (.ptr (some (b, o + off)))) σ) : R lp fl (⟨dst, .fieldAddr off x, none, anc⟩ :: os) N a σ :=
  r_go (by show oFieldAddr off x a σ = _; unfold oFieldAddr; rw [hx]; rfl) hn
theorem read_one {b o : Nat} {cs : List HV} {k : BK} {v : HV} (hg : h.get b = some (.cells cs k)) (hv : cs[o]? = some v) : (⟨h, nx⟩ : HS).read (b, o) 1 = some [v] := by
  unfold HS.read HS.cells
  simp only [hg, Option.bind_eq_bind, Option.bind_some]
  have hlt : o < cs.length := by
    rcases Nat.lt_or_ge o cs.length with h | h
    · exact h
    · rw [List.getElem?_eq_none h] at hv; cases hv
  rw [List.drop_eq_getElem_cons hlt]
  rw [List.getElem?_eq_getElem hlt] at hv
  cases hv
  simp [takeN]
theorem r_ld1 {x : Lo} {b o : Nat} {cs : List HV} {k : BK} {v : HV} (hx : a.ev x = .ptr (some (b, o))) (hg : h.get b = some (.cells cs k)) (hv : cs[o]? = some v) (hn : R lp fl os N (a.put dst v) ⟨h, nx⟩) : R lp fl (⟨dst, .load false 1 x, none, anc⟩ :: os) N a ⟨h, nx⟩ :=
  r_go (by show oLoad false 1 x a _ = _; unfold oLoad; rw [hx]; simp only [read_one hg hv]; rfl) hn
theorem r_ldn {n : Nat} {x : Lo} {b o : Nat} {cs vs : List HV} {k : BK} (hx : a.ev x = .ptr (some (b, o))) (hg : h.get b = some (.cells cs k)) (hv : takeN n (cs.drop o) = some vs) (hn : R lp fl os N (a.put dst (.agg vs)) ⟨h, nx⟩) : R lp fl (⟨dst, .load true n x, none, anc⟩ :: os) N a ⟨h, nx⟩ :=
  r_go (by
    show oLoad true n x a _ = _
    unfold oLoad; rw [hx]
    have : (⟨h, nx⟩ : HS).read (b, o) n = some vs := by unfold HS.read HS.cells; simp only [hg, Option.bind_eq_bind, Option.bind_some]; exact hv
    simp only [this]; rfl) hn
def Own : BK → Prop
  | .ro => False
  | _ => True
theorem r_st {n : Nat} {x y : Lo} {b o : Nat} {cs cs' : List HV} {k : BK} {v : HV} (hx : a.ev x = .ptr (some (b, o))) (hy : a.ev y = v) (hg : h.get b = some (.cells cs k)) (hk : Own k) (hl : v.cells.length = n) (h1 : v.cells.all HV.one = true) (hw : overwrite cs o v.cells = some cs') (hfl : fl ≤ b)
    (hn : R lp fl os N (a.put dst .undef) ⟨h.set b (some (.cells cs' k)), nx⟩) : R lp fl (⟨dst, .store n x y, none, anc⟩ :: os) N a ⟨h, nx⟩ :=
  r_go (by
    show oStore fl n x y a _ = _
    subst hy
    unfold oStore; rw [hx]
    have hb : Nat.ble fl b = true := by rw [Nat.ble_eq]; exact hfl
    have : (⟨h, nx⟩ : HS).write fl (b, o) (a.ev y).cells = some ⟨h.set b (some (.cells cs' k)), nx⟩ := by
      unfold HS.write
      simp only [hg]
      cases k with
      | ro => exact hk.elim
      | exact => simp only [hb, h1, Bool.and_self, cond_true, hw, Option.map_some]; rfl
      | opn s => simp only [hb, h1, Bool.and_self, cond_true, hw, Option.map_some]; rfl
    simp only [hl, Nat.beq_refl, cond_true, this]) hn
theorem r_add {x y : Lo} {m n : Int} {σ : HS} (hx : a.ev x = i64 m) (hy : a.ev y = i64 n) (h1 : -9223372036854775808 ≤ m + n) (h2 : m + n < 9223372036854775808) (hn : R lp fl os N (a.put dst (i64 (m + n))) σ) : R lp fl (⟨dst, .bin .add x y, none, anc⟩ :: os) N a σ :=
  r_go (by show keep σ (binH .add _ _) = _; rw [hx, hy]; simp only [binH, i64, isShift, cond_false, sameK, cond_true, intFast, wr_eq]; rw [show Int.add m n = m + n from rfl, wrap_small _ h1 h2]; rfl) hn
theorem r_sub {x y : Lo} {m n : Int} {σ : HS} (hx : a.ev x = i64 m) (hy : a.ev y = i64 n) (h1 : -9223372036854775808 ≤ m - n) (h2 : m - n < 9223372036854775808) (hn : R lp fl os N (a.put dst (i64 (m - n))) σ) : R lp fl (⟨dst, .bin .sub x y, none, anc⟩ :: os) N a σ :=
  r_go (by show keep σ (binH .sub _ _) = _; rw [hx, hy]; simp only [binH, i64, isShift, cond_false, sameK, cond_true, intFast, wr_eq]; rw [show Int.sub m n = m - n from rfl, wrap_small _ h1 h2]; rfl) hn
theorem r_mul {x y : Lo} {m n : Int} {σ : HS} (hx : a.ev x = i64 m) (hy : a.ev y = i64 n) (h1 : -9223372036854775808 ≤ m * n) (h2 : m * n < 9223372036854775808) (hn : R lp fl os N (a.put dst (i64 (m * n))) σ) : R lp fl (⟨dst, .bin .mul x y, none, anc⟩ :: os) N a σ :=
  r_go (by show keep σ (binH .mul _ _) = _; rw [hx, hy]; simp only [binH, i64, isShift, cond_false, sameK, cond_true, intFast, wr_eq]; rw [show Int.mul m n = m * n from rfl, wrap_small _ h1 h2]; rfl) hn
theorem r_bool {op : LOp} {b : Bool} {σ : HS} (hop : opH lp (exec lp 0) fl op a σ = some (.bool b, σ)) (ht : b = true → R lp fl os N (a.put dst (.bool true)) σ) (hf : b = false → R lp fl os N (a.put dst (.bool false)) σ) : R lp fl (⟨dst, op, none, anc⟩ :: os) N a σ := by
  cases b with
  | true => exact r_go hop (ht rfl)
  | false => exact r_go hop (hf rfl)
theorem r_lss {x y : Lo} {m n : Int} {σ : HS} (hx : a.ev x = i64 m) (hy : a.ev y = i64 n) (ht : m < n → R lp fl os N (a.put dst (.bool true)) σ) (hf : ¬ m < n → R lp fl os N (a.put dst (.bool false)) σ) : R lp fl (⟨dst, .bin .lss x y, none, anc⟩ :: os) N a σ :=
  r_bool (b := decide (m < n)) (by show keep σ (binH .lss _ _) = _; rw [hx, hy]; simp only [binH, i64, isShift, cond_false, sameK, cond_true, intFast, ltI_eq]; rfl) (fun h => ht (of_decide_eq_true h)) (fun h => hf (of_decide_eq_false h))
theorem r_leq {x y : Lo} {m n : Int} {σ : HS} (hx : a.ev x = i64 m) (hy : a.ev y = i64 n) (ht : m ≤ n → R lp fl os N (a.put dst (.bool true)) σ) (hf : ¬ m ≤ n → R lp fl os N (a.put dst (.bool false)) σ) : R lp fl (⟨dst, .bin .leq x y, none, anc⟩ :: os) N a σ :=
  r_bool (b := decide (m ≤ n)) (by show keep σ (binH .leq _ _) = _; rw [hx, hy]; simp only [binH, i64, isShift, cond_false, sameK, cond_true, intFast, ltI_eq]; show some _ = some _; simp; by_cases e : n < m <;> simp [e] <;> omega) (fun h => ht (of_decide_eq_true h)) (fun h => hf (of_decide_eq_false h))
theorem r_gtr {x y : Lo} {m n : Int} {σ : HS} (hx : a.ev x = i64 m) (hy : a.ev y = i64 n) (ht : n < m → R lp fl os N (a.put dst (.bool true)) σ) (hf : ¬ n < m → R lp fl os N (a.put dst (.bool false)) σ) : R lp fl (⟨dst, .bin .gtr x y, none, anc⟩ :: os) N a σ :=
  r_bool (b := decide (n < m)) (by show keep σ (binH .gtr _ _) = _; rw [hx, hy]; simp only [binH, i64, isShift, cond_false, sameK, cond_true, intFast, ltI_eq]; rfl) (fun h => ht (of_decide_eq_true h)) (fun h => hf (of_decide_eq_false h))
theorem r_geq {x y : Lo} {m n : Int} {σ : HS} (hx : a.ev x = i64 m) (hy : a.ev y = i64 n) (ht : n ≤ m → R lp fl os N (a.put dst (.bool true)) σ) (hf : ¬ n ≤ m → R lp fl os N (a.put dst (.bool false)) σ) : R lp fl (⟨dst, .bin .geq x y, none, anc⟩ :: os) N a σ :=
  r_bool (b := decide (n ≤ m)) (by show keep σ (binH .geq _ _) = _; rw [hx, hy]; simp only [binH, i64, isShift, cond_false, sameK, cond_true, intFast, ltI_eq]; show some _ = some _; simp; by_cases e : m < n <;> simp [e] <;> omega) (fun h => ht (of_decide_eq_true h)) (fun h => hf (of_decide_eq_false h))
theorem r_eq {x y : Lo} {m n : Int} {σ : HS} (hx : a.ev x = i64 m) (hy : a.ev y = i64 n) (ht : m = n → R lp fl os N (a.put dst (.bool true)) σ) (hf : m ≠ n → R lp fl os N (a.put dst (.bool false)) σ) : R lp fl (⟨dst, .eq (.cell (.i .i64)) false x y, none, anc⟩ :: os) N a σ :=
  r_bool (b := decide (m = n)) (by show oEq _ _ _ _ _ _ = _; unfold oEq; rw [hx, hy]; simp [eqH, eqLeaf, i64]; exact Bool.eq_iff_iff.2 (by simp)) (fun h => ht (of_decide_eq_true h)) (fun h => hf (of_decide_eq_false h))
theorem r_ne {x y : Lo} {m n : Int} {σ : HS} (hx : a.ev x = i64 m) (hy : a.ev y = i64 n) (ht : m ≠ n → R lp fl os N (a.put dst (.bool true)) σ) (hf : m = n → R lp fl os N (a.put dst (.bool false)) σ) : R lp fl (⟨dst, .eq (.cell (.i .i64)) true x y, none, anc⟩ :: os) N a σ :=
  r_bool (b := decide (m ≠ n)) (by show oEq _ _ _ _ _ _ = _; unfold oEq; rw [hx, hy]; simp [eqH, eqLeaf, i64]; exact Bool.eq_iff_iff.2 (by simp)) (fun h => ht (of_decide_eq_true h)) (fun h => hf (by simpa using of_decide_eq_false h))
theorem r_eqb {neg : Bool} {x y : Lo} {m n : Bool} {σ : HS} (hx : a.ev x = .bool m) (hy : a.ev y = .bool n) (hn : R lp fl os N (a.put dst (.bool ((m == n) != neg))) σ) : R lp fl (⟨dst, .eq (.cell .b) neg x y, none, anc⟩ :: os) N a σ :=
  r_go (by show oEq _ _ _ _ _ _ = _; unfold oEq; rw [hx, hy]; simp [eqH, eqLeaf]) hn
theorem r_not1 {x : Lo} {b : Bool} {σ : HS} (hx : a.ev x = .bool b) (hn : R lp fl os N (a.put dst (.bool (!b))) σ) : R lp fl (⟨dst, .un .not x, none, anc⟩ :: os) N a σ :=
  r_go (by show keep σ (unH .not _) = _; rw [hx]; rfl) hn
theorem r_pt {c x y : Lo} {v : HV} {σ : HS} (hc : a.ev c = .bool true) (hx : a.ev x = v) (hn : R lp fl os N (a.put dst v) σ) : R lp fl (⟨dst, .pick c x y, none, anc⟩ :: os) N a σ :=
  r_go (by show oPick c x y a σ = _; unfold oPick; rw [hc, ← hx]; rfl) hn
theorem r_pf {c x y : Lo} {v : HV} {σ : HS} (hc : a.ev c = .bool false) (hy : a.ev y = v) (hn : R lp fl os N (a.put dst v) σ) : R lp fl (⟨dst, .pick c x y, none, anc⟩ :: os) N a σ :=
  r_go (by show oPick c x y a σ = _; unfold oPick; rw [hc, ← hy]; rfl) hn
theorem r_len {x : Lo} {p : Option (Nat × Nat)} {n c : Nat} {σ : HS} (hx : a.ev x = .slice p n c) (hn : R lp fl os N (a.put dst (i64 n)) σ) : R lp fl (⟨dst, .len .slice x, none, anc⟩ :: os) N a σ :=
  r_go (by show keep σ (lenH σ .slice _) = _; rw [hx]; rfl) hn
theorem r_ixs {size : Nat} {x i : Lo} {b o n c j : Nat} {σ : HS} (hx : a.ev x = .slice (some (b, o)) n c) (hi : a.ev i = i64 (j : Int)) (hj : j < n) (hn : R lp fl os N (a.put dst (.ptr (some (b, o + j * size)))) σ) : R lp fl (⟨dst, .indexAddrS size x i, none, anc⟩ :: os) N a σ :=
  r_go (by
    show oIndexAddrS size x i a σ = _
    unfold oIndexAddrS; rw [hx, hi]
    have : Nat.blt j n = true := by rw [Nat.blt_eq]; exact hj
    show stepTo b o size n (natOf (.int .i64 (Int.ofNat j))) σ = _
    simp only [natOf, stepTo, this, cond_true]; rfl) hn
theorem r_ixa {len size : Nat} {x i : Lo} {b o j : Nat} {σ : HS} (hx : a.ev x = .ptr (some (b, o))) (hi : a.ev i = i64 (j : Int)) (hj : j < len) (hn : R lp fl os N (a.put dst (.ptr (some (b, o + j * size)))) σ) : R lp fl (⟨dst, .indexAddrA len size x i, none, anc⟩ :: os) N a σ :=
  r_go (by
    show oIndexAddrA len size x i a σ = _
    unfold oIndexAddrA; rw [hx, hi]
    have : Nat.blt j len = true := by rw [Nat.blt_eq]; exact hj
    show stepTo b o size len (natOf (.int .i64 (Int.ofNat j))) σ = _
    simp only [natOf, stepTo, this, cond_true]; rfl) hn
theorem r_build {z cs : List HV} {ps : List (Nat × Nat × Lo)} {σ : HS} (hf : fillH z (evParts a ps) = some cs) (hn : R lp fl os N (a.put dst (.agg cs)) σ) : R lp fl (⟨dst, .build z ps, none, anc⟩ :: os) N a σ :=
  r_go (by show oBuild z ps a σ = _; unfold oBuild; rw [hf]) hn
theorem r_bs {len : Nat} {z cs : List HV} {ps : List (Nat × Nat × Lo)} (hf : fillH (repl len z) (evParts a ps) = some cs) (hn : R lp fl os N (a.put dst (.slice (some (nx, 0)) len len)) ⟨h.set nx (some (.cells cs .exact)), nx + 1⟩) : R lp fl (⟨dst, .buildSlice len z ps, none, anc⟩ :: os) N a ⟨h, nx⟩ :=
  r_go (by show oBuildSlice len z ps a _ = _; unfold oBuildSlice; rw [hf]; rfl) hn
theorem r_ext {x : Lo} {i : Nat} {vs : List HV} {v : HV} {σ : HS} (hx : a.ev x = .tuple vs) (hv : vs[i]? = some v) (hn : R lp fl os N (a.put dst v) σ) : R lp fl (⟨dst, .extract x i, none, anc⟩ :: os) N a σ :=
  r_go (by show oExtract x i a σ = _; unfold oExtract; rw [hx]; simp only [hv, keep]) hn
theorem r_fld {n off : Nat} {x : Lo} {cs vs : List HV} {σ : HS} (hx : a.ev x = .agg cs) (hv : takeN n (cs.drop off) = some vs) (hn : R lp fl os N (a.put dst (.agg vs)) σ) : R lp fl (⟨dst, .field true n off x, none, anc⟩ :: os) N a σ :=
  r_go (by show oField true n off x a σ = _; unfold oField; rw [hx]; simp only [partH, cond_true, hv, Option.map_some, keep]) hn
theorem r_fld1 {n off : Nat} {x : Lo} {cs : List HV} {v : HV} {σ : HS} (hx : a.ev x = .agg cs) (hv : cs[off]? = some v) (hn : R lp fl os N (a.put dst v) σ) : R lp fl (⟨dst, .field false n off x, none, anc⟩ :: os) N a σ :=
  r_go (by show oField false n off x a σ = _; unfold oField; rw [hx]; simp only [partH, cond_false, hv, keep]) hn
theorem r_mf {f : Nat} {first captured : List Lo} {u w : List HV} {σ : HS} (h1 : first.map a.ev = u) (h2 : captured.map a.ev = w) (hn : R lp fl os N (a.put dst (.func f u w)) σ) : R lp fl (⟨dst, .makeFunc f first captured, none, anc⟩ :: os) N a σ :=
  r_go (by show some _ = _; rw [h1, h2]) hn
theorem r_nc {x : Lo} {p : Nat × Nat} {σ : HS} (hx : a.ev x = .ptr (some p)) (hn : R lp fl os N (a.put dst (.ptr (some p))) σ) : R lp fl (⟨dst, .nilCheck x, none, anc⟩ :: os) N a σ :=
  r_go (by show oNilCheck x a σ = _; unfold oNilCheck; rw [hx]) hn
attribute [irreducible] Fin
end Go.Hx
