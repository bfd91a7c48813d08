/- Layer 1: what may be said of how much higher one mark is than another: matrices that are closed. -/
import Derived.Test.YtojkmobfhkjfnaaH06
import Derived.Test.YtojkmobfhkjfnaaH05
import Derived.Test.YtojkmobfhkjfnaaH08
import Derived.Test.YtojkmobfhkjfnaaH04
set_option linter.all false
/- Layer 1: what may be said of how much higher one mark is than another: matrices that are closed. -/
namespace Go.Hx
/-- No way over another mark says more. -/
structure Good (n : Nat) (M : Mx) : Prop where
  tri : ∀ i j k, i ≤ n → j ≤ n → k ≤ n → M i k ≤ M i j + M j k
  dg : ∀ i, i ≤ n → M i i = 0
  ub : ∀ i j, i ≤ n → j ≤ n → M i j ≤ 2000
  out : ∀ i j, ¬ (i ≤ n ∧ j ≤ n) → M i j = 0
theorem Good.cyc {n : Nat} {M : Mx} (h : Good n M) {i j : Nat} (hi : i ≤ n) (hj : j ≤ n) : 0 ≤ M i j + M j i := by
  have := h.tri i j i hi hj hi
  have := h.dg i hi
  omega
theorem Good.bds {n : Nat} {M : Mx} (h : Good n M) : BdS M := fun i j => by
  by_cases hij : i ≤ n ∧ j ≤ n
  · have := h.ub i j hij.1 hij.2
    have := h.ub j i hij.2 hij.1
    have := h.cyc hij.1 hij.2
    omega
  · rw [h.out i j hij]; omega
theorem Good.lb {n : Nat} {M : Mx} (h : Good n M) {i j : Nat} (hi : i ≤ n) (hj : j ≤ n) : -2000 ≤ M i j := by
  have := h.ub j i hj hi
  have := h.cyc hi hj
  omega
theorem good_lim {n f g : Nat} {m : Int} {M : Mx} (h : Good n M) (hf : f ≤ n) (hg : g ≤ n) (hm : 0 ≤ m + M g f) : Good n (limM n f g m M) := by
  have e : ∀ i j, i ≤ n → j ≤ n → limM n f g m M i j = min (M i j) (M i f + m + M g j) := fun i j hi hj => by
    unfold limM; rw [if_pos ⟨hi, hj⟩]
  refine ⟨fun i j k hi hj hk => ?_, fun i hi => ?_, fun i j hi hj => ?_, fun i j hij => ?_⟩
  · rw [e i k hi hk, e i j hi hj, e j k hj hk]
    have := h.tri i j k hi hj hk
    have := h.tri i j f hi hj hf
    have := h.tri g j k hg hj hk
    have := h.tri g j f hg hj hf
    omega
  · rw [e i i hi hi, h.dg i hi]
    have := h.tri g i f hg hi hf
    omega
  · rw [e i j hi hj]
    have := h.ub i j hi hj
    omega
  · unfold limM
    rw [if_neg hij]
    exact h.out i j hij
theorem F_max {a b d : Int} (h : a ≤ b) : d * (if 0 ≤ d then b else a) = max (d * a) (d * b) := by
  by_cases hd : 0 ≤ d
  · rw [if_pos hd]
    have := Int.mul_le_mul_of_nonneg_left h hd
    omega
  · rw [if_neg hd]
    have := Int.mul_le_mul_of_nonneg_left h (show 0 ≤ -d by omega)
    rw [Int.neg_mul, Int.neg_mul] at this
    omega
theorem u0_at {n i j : Nat} {a b : Int} (h : a ≤ b) (hi : i ≤ n) (hj : j ≤ n) : u0 n a b i j = max (((j : Int) - i) * a) (((j : Int) - i) * b) := by
  unfold u0
  rw [if_pos ⟨hi, hj⟩, ← F_max h]
  congr 1
  by_cases e : i ≤ j
  · rw [if_pos e, if_pos (by omega)]
  · rw [if_neg e, if_neg (by omega)]
theorem mulb' {i j n : Nat} {a : Int} (hi : i ≤ n) (hj : j ≤ n) (hn : n ≤ 10) (ha : 0 ≤ a ∧ a ≤ 200) : ((j : Int) - i) * a ≤ 2000 := by
  by_cases h : (j : Int) - i ≤ 0
  · have := Int.mul_le_mul_of_nonneg_right h ha.1
    rw [Int.zero_mul] at this
    omega
  · have h1 : ((j : Int) - i) * a ≤ 10 * a := Int.mul_le_mul_of_nonneg_right (by omega) ha.1
    omega
theorem good_u0 {n : Nat} {a b : Int} (hn : n ≤ 10) (h1 : 1 ≤ a) (h2 : a ≤ b) (h3 : b ≤ 200) : Good n (u0 n a b) := by
  refine ⟨fun i j k hi hj hk => ?_, fun i hi => ?_, fun i j hi hj => ?_, fun i j hij => ?_⟩
  · rw [u0_at h2 hi hk, u0_at h2 hi hj, u0_at h2 hj hk]
    rw [show (k : Int) - i = ((j : Int) - i) + ((k : Int) - j) by omega, Int.add_mul, Int.add_mul]
    omega
  · rw [u0_at h2 hi hi, show (i : Int) - i = 0 by omega, Int.zero_mul, Int.zero_mul]; rfl
  · have e1 := mulb' (a := a) hi hj hn ⟨by omega, by omega⟩
    have e2 := mulb' (a := b) hi hj hn ⟨by omega, by omega⟩
    rw [u0_at h2 hi hj]; omega
  · unfold u0; rw [if_neg hij]
theorem unr_eq {n : Nat} {t : Tb} (hn1 : 1 ≤ n) (hn : n ≤ 10) (h1 : 1 ≤ t.a) (h2 : t.a ≤ t.b) (h3 : t.b ≤ 200) (h4 : n * t.a ≤ t.t) (h5 : t.t ≤ n * t.b) : unrM n t = limM n n 0 (-t.t) (limM n 0 n t.t (u0 n t.a t.b)) ∧ Good n (limM n 0 n t.t (u0 n t.a t.b)) ∧ Good n (unrM n t) := by
  have g0 := good_u0 hn h1 h2 h3
  have c1 : 0 ≤ t.t + u0 n t.a t.b n 0 := by
    rw [u0_at h2 (Nat.le_refl _) (Nat.zero_le _), show ((0 : Nat) : Int) - n = -n by omega, Int.neg_mul, Int.neg_mul]; omega
  have g1 := good_lim g0 (Nat.zero_le _) (Nat.le_refl _) c1
  have c2 : 0 ≤ -t.t + limM n 0 n t.t (u0 n t.a t.b) 0 n := by
    unfold limM
    rw [if_pos ⟨Nat.zero_le _, Nat.le_refl _⟩, g0.dg 0 (Nat.zero_le _), g0.dg n (Nat.le_refl _), u0_at h2 (Nat.zero_le _) (Nat.le_refl _), show (n : Int) - ((0 : Nat) : Int) = n by omega]; omega
  have e : unrM n t = limM n n 0 (-t.t) (limM n 0 n t.t (u0 n t.a t.b)) := by
    unfold unrM
    rw [if_pos c1]
    dsimp only
    rw [if_pos c2]
  exact ⟨e, g1, by rw [e]; exact good_lim g1 (Nat.le_refl _) (Nat.zero_le _) c2⟩
end Go.Hx

namespace Go.Hx
set_option linter.unusedSimpArgs false
set_option linter.unusedVariables false
set_option maxRecDepth 20000
set_option maxHeartbeats 4000000
attribute [local irreducible] W R C thenH inBlockH
/-- One reading more. -/
def withM (n : Nat) (r : Rd) (M : Mx) : Option Mx :=
  if 0 ≤ r.hi + M r.g.toNat r.f.toNat then
    if r.g.toNat < n then
      if 0 ≤ -r.lo - 1 + limM n r.f.toNat r.g.toNat r.hi M r.f.toNat (r.g.toNat + 1) then some (limM n (r.g.toNat + 1) r.f.toNat (-r.lo - 1) (limM n r.f.toNat r.g.toNat r.hi M)) else none
    else some (limM n r.f.toNat r.g.toNat r.hi M)
  else none
theorem withM_good {n : Nat} {r : Rd} {M M' : Mx} (h : Good n M) (hr : RdOk2 n r) (hw : withM n r M = some M') : Good n M' := by
  unfold RdOk2 at hr
  unfold withM at hw
  split at hw
  · rename_i h1
    have g1 := good_lim h (f := r.f.toNat) (g := r.g.toNat) (by omega) (by omega) h1
    split at hw
    · split at hw
      · rename_i h3
        cases hw
        exact good_lim g1 (by omega) (by omega) h3
      · cases hw
    · cases hw; exact g1
  · cases hw
noncomputable def withO (t : Tb) : Option Mx → HV
  | some M => .tuple [.agg (bcells t M), .bool true]
  | none => .tuple [.agg (Zr 125), .bool false]
theorem withV_eq {t : Tb} {n : Nat} {r : Rd} {M : Mx} : withV t n r.f.toNat r.g.toNat r.lo r.hi M = withO t (withM n r M) := by
  unfold withV withM
  split
  · split
    · split <;> rfl
    · rfl
  · rfl
theorem flat_withO (t : Tb) : ∀ o : Option Mx, flatV (withO t o) = true
  | some M => by show ((bcells t M).all flat1 && (true && true)) = true; rw [bc_flat]; rfl
  | none => by show ((Zr 125).all flat1 && (true && true)) = true; rw [zr_flat]; rfl
theorem c_withM {fl : Nat} {t : Tb} {n : Nat} {r : Rd} {M : Mx} (hn : n ≤ 10) (htc : t.c = n) (hB : Good n M) (hr : RdOk2 t.c r) {h : Tr HBlk} {nx : Nat} (hd : D h nx) :
    C LW fl 96 [.agg (bcells t M), .agg r.enc] ⟨h, nx⟩ (Sc (· = withO t (withM n r M)) ⟨h, nx⟩) := by
  unfold RdOk2 at hr
  have := c_with lw96 lw100 lw88 (fl := fl) (f := r.f.toNat) (g := r.g.toNat) (lo := r.lo) (hi := r.hi) hn (by omega) (by omega) htc hB.bds (by omega) (by omega) hd
  rw [withV_eq] at this
  have e : r.enc = [i64 (r.f.toNat : Int), i64 (r.g.toNat : Int), i64 r.lo, i64 r.hi] := by
    unfold Rd.enc; rw [show (r.f.toNat : Int) = r.f by omega, show (r.g.toNat : Int) = r.g by omega]
  rw [e]; exact this
/-- The readings, one by one; those that come twice say nothing more. -/
def readGo (n : Nat) : List Rd → List Rd → Mx → Option Mx
  | _, [], M => some M
  | seen, r :: rs, M => if r ∈ seen then readGo n seen rs M else match withM n r M with
    | some M' => readGo n (seen ++ [r]) rs M'
    | none => none
/-- Which readings have come, as a map. -/
def seenL (seen : List Rd) : List (HV × HV) := seen.map fun r => (.agg r.enc, .bool true)
abbrev rdEd : ED := .row [.i .i64, .i .i64, .i .i64, .i .i64]
theorem eq_rd (r s : Rd) : eqH rdEd (.agg r.enc) (.agg s.enc) = some (decide (r = s)) := by
  obtain ⟨a, b, c, d⟩ := r
  obtain ⟨a', b', c', d'⟩ := s
  show some (a == a' && (b == b' && (c == c' && (d == d' && true)))) = _
  congr 1
  rw [Bool.eq_iff_iff]
  simp
theorem key_rd (r : Rd) : keyOk rdEd (.agg r.enc) = true := by unfold keyOk; rw [eq_rd]; rfl
theorem find_seen (r : Rd) : ∀ seen : List Rd, findH rdEd (.agg r.enc) (seenL seen) = some (if r ∈ seen then some (.bool true) else none)
  | [] => rfl
  | s :: seen => by
    show (match eqH rdEd (.agg r.enc) (.agg s.enc) with | some true => _ | some false => _ | none => _) = _
    rw [eq_rd]
    by_cases e : r = s
    · rw [decide_eq_true e, if_pos (by rw [e]; exact List.mem_cons_self ..)]
    · rw [decide_eq_false e]
      show findH rdEd (.agg r.enc) (seenL seen) = _
      rw [find_seen r seen]
      by_cases h : r ∈ seen
      · rw [if_pos h, if_pos (List.mem_cons_of_mem _ h)]
      · rw [if_neg h, if_neg (by simp [e, h])]
theorem upd_seen (r : Rd) : ∀ seen : List Rd, r ∉ seen → updH rdEd (.agg r.enc) (.bool true) (seenL seen) = some (seenL (seen ++ [r]))
  | [], _ => rfl
  | s :: seen, hn => by
    show (match eqH rdEd (.agg r.enc) (.agg s.enc) with | some true => _ | some false => _ | none => _) = _
    rw [eq_rd, decide_eq_false (fun e => hn (by rw [e]; exact List.mem_cons_self ..))]
    show (updH rdEd (.agg r.enc) (.bool true) (seenL seen)).map _ = _
    rw [upd_seen r seen (fun e => hn (List.mem_cons_of_mem _ e))]
    rfl
/-- What 'read' hands back. -/
noncomputable def readO (t : Tb) (n : Nat) (l : List Rd) : Option Mx := readGo n [] l (unrM n t)
/- 89 -/
theorem loop89 {fl : Nat} {h0 : Tr HBlk} {n0 : Nat} {Q : HExit → HAct → HS → Prop} {p : Option (Nat × Nat)} {l : List Rd} {cp bk mp rb : Nat} {t : Tb} {n : Nat} (hn : n ≤ 10) (htc : t.c = n) (hlen : l.length < 1000000) (hl : ∀ r ∈ l, RdOk2 t.c r) (hflr : fl ≤ rb) (hbn : bk < n0) (hmn : mp < n0) (hrn : rb < n0) (h1 : rb < bk) (h2 : bk < mp) (hfb : n0 ≤ n0) (hrow : Row Rd.enc 4 h0 rb p l) :
    ∀ (m i : Nat) (a : HAct) (h : Tr HBlk) (nx : Nat) (M : Mx) (seen : List Rd), m + i = l.length → n0 ≤ nx → D h nx → (∀ b, b < n0 → b ≠ bk → b ≠ mp → h.get b = h0.get b) → h.get rb = some (.cells (Zr 125) .exact) → h.get bk = some (.cells (bcells t M) .exact) → h.get mp = some (.map (seenL seen)) → Good n M →
      a.nt = 36 → a.defers = [] → a.tmp 4 = .ptr (some (rb, 0)) → a.tmp 6 = .ptr (some (bk, 0)) → a.tmp 8 = .map (some mp) → a.tmp 14 = .slice p l.length cp → a.tmp 15 = i64 l.length → a.tmp 16 = i64 i →
      (∀ a' h' n' M', n0 ≤ n' → readGo n seen (l.drop i) M = some M' → h'.get rb = some (.cells (Zr 125) .exact) → h'.get bk = some (.cells (bcells t M') .exact) → a'.nt = 36 → a'.defers = [] → a'.tmp 4 = .ptr (some (rb, 0)) → a'.tmp 6 = .ptr (some (bk, 0)) → Q .normal a' ⟨h', n'⟩) →
      (∀ a' h' n', n0 ≤ n' → readGo n seen (l.drop i) M = none → h'.get rb = some (.cells (Zr 125) .exact) → a'.nt = 36 → a'.defers = [] → a'.tmp 4 = .ptr (some (rb, 0)) → a'.tmp 5 = .bool false → Q .ret a' ⟨h', n'⟩) →
      W LW fl none (.loop L89w0) (inBlockH 0 Q) a ⟨h, nx⟩
  | 0, i, a, h, nx, M, seen, hm, hnx, hd, hs, hgr, hgb, hgm, hG, hnt, hds, h4, h6, h8, h14, h15, h16, hq, hr => by
    have hi : i = l.length := by omega
    subst hi
    refine w_it (show L89w0 = _ by unfold L89w0; exact rfl) ?_
    repeat' first
     | refine r_nil ?_
     | refine th_n ?_
     | refine th_r ?_
     | refine th_e ?_
     | refine ib_n ?_
     | refine ib_r ?_
     | refine ib_e ?_
     | refine ib_x (by decide) ?_
     | refine w_exit ?_
     | refine w_seq ?_
     | refine w_reg ?_
     | refine w_ret ?_
     | refine w_skip ?_
     | refine w_block ?_
     | refine w_t (by simp (disch:=first|decide|(simp only[zF,zG,hnt, h4, h6, h8, h14, h15, h16];decide)) only [zA,zB,zC,zD,zE,zF,zG,zH,zI,zJ,zK,HV.cells,hnt, h4, h6, h8, h14, h15, h16]; first|done|exact rfl) ?_
     | refine w_f (by simp (disch:=first|decide|(simp only[zF,zG,hnt, h4, h6, h8, h14, h15, h16];decide)) only [zA,zB,zC,zD,zE,zF,zG,zH,zI,zJ,zK,HV.cells,hnt, h4, h6, h8, h14, h15, h16]; first|done|exact rfl) ?_
     | refine r_take (by simp (disch:=first|decide|(simp only[zF,zG,hnt, h4, h6, h8, h14, h15, h16];decide)) only [zA,zB,zC,zD,zE,zF,zG,zH,zI,zJ,zK,HV.cells,hnt, h4, h6, h8, h14, h15, h16]; first|done|exact rfl) ?_
     | refine r_drop (by simp (disch:=first|decide|(simp only[zF,zG,Bool.not_true,Bool.not_false,hnt, h4, h6, h8, h14, h15, h16];decide)) only [zA,zB,zC,zD,zE,zF,zG,zH,zI,zJ,zK,HV.cells,Bool.not_true,Bool.not_false,hnt, h4, h6, h8, h14, h15, h16]; first|done|exact rfl) ?_
     | refine r_move (by simp (disch:=first|decide|(simp only[zF,zG,hnt, h4, h6, h8, h14, h15, h16];decide)) only [zA,zB,zC,zD,zE,zF,zG,zH,zI,zJ,zK,HV.cells,hnt, h4, h6, h8, h14, h15, h16]; try exact rfl) ?_
     | refine r_ldn (by simp (disch:=first|decide|(simp only[zF,zG,hnt, h4, h6, h8, h14, h15, h16];decide)) only [zA,zB,zC,zD,zE,zF,zG,zH,zI,zJ,zK,HV.cells,hnt, h4, h6, h8, h14, h15, h16]; try exact rfl) (by first|assumption|(simp (disch:=omega) only [get_same,get_other,hnt, h4, h6, h8, h14, h15, h16]; first|done|exact rfl)) (by first|assumption|rfl|(simp only [zI,zJ,HV.cells,hnt, h4, h6, h8, h14, h15, h16]; exact rfl)) ?_
     | refine r_box (by simp (disch:=first|decide|(simp only[zF,zG,hnt, h4, h6, h8, h14, h15, h16];decide)) only [zA,zB,zC,zD,zE,zF,zG,zH,zI,zJ,zK,HV.cells,hnt, h4, h6, h8, h14, h15, h16]; try exact rfl) ?_
     | refine r_alloc ?_
     | refine r_st (cs' := _) (by simp (disch:=first|decide|(simp only[zF,zG,hnt, h4, h6, h8, h14, h15, h16];decide)) only [zA,zB,zC,zD,zE,zF,zG,zH,zI,zJ,zK,HV.cells,hnt, h4, h6, h8, h14, h15, h16]; try exact rfl) (by simp (disch:=first|decide|(simp only[zF,zG,hnt, h4, h6, h8, h14, h15, h16];decide)) only [zA,zB,zC,zD,zE,zF,zG,zH,zI,zJ,zK,HV.cells,hnt, h4, h6, h8, h14, h15, h16]; try exact rfl) (by first|assumption|(simp (disch:=omega) only [get_same,get_other,hnt, h4, h6, h8, h14, h15, h16]; first|done|exact rfl)) (by exact True.intro) (by rfl) (by rfl) (by first|assumption|rfl|(simp only [zI,zJ,HV.cells,hnt, h4, h6, h8, h14, h15, h16]; exact rfl)) (by omega) ?_
     | refine r_add (by simp (disch:=first|decide|(simp only[zF,zG,hnt, h4, h6, h8, h14, h15, h16];decide)) only [zA,zB,zC,zD,zE,zF,zG,zH,zI,zJ,zK,HV.cells,hnt, h4, h6, h8, h14, h15, h16]; try exact rfl) (by simp (disch:=first|decide|(simp only[zF,zG,hnt, h4, h6, h8, h14, h15, h16];decide)) only [zA,zB,zC,zD,zE,zF,zG,zH,zI,zJ,zK,HV.cells,hnt, h4, h6, h8, h14, h15, h16]; try exact rfl) (by omega) (by omega) ?_
     | refine r_lss (by simp (disch:=first|decide|(simp only[zF,zG,hnt, h4, h6, h8, h14, h15, h16];decide)) only [zA,zB,zC,zD,zE,zF,zG,zH,zI,zJ,zK,HV.cells,hnt, h4, h6, h8, h14, h15, h16]; try exact rfl) (by simp (disch:=first|decide|(simp only[zF,zG,hnt, h4, h6, h8, h14, h15, h16];decide)) only [zA,zB,zC,zD,zE,zF,zG,zH,zI,zJ,zK,HV.cells,hnt, h4, h6, h8, h14, h15, h16]; try exact rfl) (fun hc => ?_) (fun hc => ?_) <;> (try (exfalso; omega))
     | refine r_not1 (by simp (disch:=first|decide|(simp only[zF,zG,hnt, h4, h6, h8, h14, h15, h16];decide)) only [zA,zB,zC,zD,zE,zF,zG,zH,zI,zJ,zK,HV.cells,hnt, h4, h6, h8, h14, h15, h16]; try exact rfl) ?_
     | refine r_len (by simp (disch:=first|decide|(simp only[zF,zG,hnt, h4, h6, h8, h14, h15, h16];decide)) only [zA,zB,zC,zD,zE,zF,zG,zH,zI,zJ,zK,HV.cells,hnt, h4, h6, h8, h14, h15, h16]; try exact rfl) ?_
     | refine r_ixs (by simp (disch:=first|decide|(simp only[zF,zG,hnt, h4, h6, h8, h14, h15, h16];decide)) only [zA,zB,zC,zD,zE,zF,zG,zH,zI,zJ,zK,HV.cells,hnt, h4, h6, h8, h14, h15, h16]; try exact rfl) (by simp (disch:=first|decide|(simp only[zF,zG,hnt, h4, h6, h8, h14, h15, h16];decide)) only [zA,zB,zC,zD,zE,zF,zG,zH,zI,zJ,zK,HV.cells,hnt, h4, h6, h8, h14, h15, h16]; try exact rfl) (by omega) ?_
     | refine r_ext (by simp (disch:=first|decide|(simp only[zF,zG,hnt, h4, h6, h8, h14, h15, h16];decide)) only [zA,zB,zC,zD,zE,zF,zG,zH,zI,zJ,zK,HV.cells,hnt, h4, h6, h8, h14, h15, h16]; try exact rfl) (by first|assumption|rfl|(simp only [zI,zJ,HV.cells,hnt, h4, h6, h8, h14, h15, h16]; exact rfl)) ?_
     | refine r_build (by simp (disch:=first|decide|(simp only[zF,zG,hnt, h4, h6, h8, h14, h15, h16];decide)) only [evParts,List.map_cons,List.map_nil,List.nil_append,List.cons_append,List.append_nil,zA,zB,zC,zD,zE,zF,zG,zH,zI,zJ,zK,HV.cells,hnt, h4, h6, h8, h14, h15, h16]; try exact rfl) ?_
     | refine r_mm ?_
     | fail
    refine hq _ _ _ M hnx (by rw [List.drop_of_length_le (Nat.le_refl _)]; rfl) hgr hgb ?_ ?_ ?_ ?_
    all_goals first|(simp only [zL,zM,zF,zG,hnt, hds, h4, h6];done)|(simp (disch:=first|decide|(simp only[zF,zG,hnt, hds, h4, h6];decide)) only [zA,zB,zC,zD,zE,zF,zG,zH,zI,zJ,zK,HV.cells,hnt, hds, h4, h6];first|done|exact rfl)|assumption
  | m + 1, i, a, h, nx, M, seen, hm, hnx, hd, hs, hgr, hgb, hgm, hG, hnt, hds, h4, h6, h8, h14, h15, h16, hq, hr => by
    have hi : i < l.length := by omega
    have hrow0 := hrow
    obtain ⟨b, o, cs, kk, rfl, hb, hg0, hcs⟩ := hrow (by intro e; rw [e] at hi; simp at hi)
    have hg : h.get b = some (.cells cs kk) := by rw [hs b (by omega) (by omega) (by omega)]; exact hg0
    have hy : l[i]? = some l[i] := by simp [hi]
    have e0 := hcs i _ hy
    have hdrop := List.drop_eq_getElem_cons hi
    have ow : overwrite [i64 0, i64 0, i64 0, i64 0] 0 (HV.agg l[i].enc).cells = some l[i].enc := rfl
    have tk : takeN 4 (l[i].enc.drop 0) = some l[i].enc := rfl
    have hfs := find_seen l[i] seen
    have hkey := key_rd l[i]
    refine w_it (show L89w0 = _ by unfold L89w0; exact rfl) ?_
    by_cases hin : l[i] ∈ seen
    · rw [if_pos hin] at hfs
      repeat' first
       | refine r_nil ?_
       | refine th_n ?_
       | refine th_r ?_
       | refine th_e ?_
       | refine ib_n ?_
       | refine ib_r ?_
       | refine ib_e ?_
       | refine ib_x (by decide) ?_
       | refine w_exit ?_
       | refine w_seq ?_
       | refine w_reg ?_
       | refine w_ret ?_
       | refine w_skip ?_
       | refine w_block ?_
       | refine w_t (by simp (disch:=first|decide|(simp only[zF,zG,hnt, h4, h6, h8, h14, h15, h16, hgm];decide)) only [zA,zB,zC,zD,zE,zF,zG,zH,zI,zJ,zK,HV.cells,hnt, h4, h6, h8, h14, h15, h16, hgm]; first|done|exact rfl) ?_
       | refine w_f (by simp (disch:=first|decide|(simp only[zF,zG,hnt, h4, h6, h8, h14, h15, h16, hgm];decide)) only [zA,zB,zC,zD,zE,zF,zG,zH,zI,zJ,zK,HV.cells,hnt, h4, h6, h8, h14, h15, h16, hgm]; first|done|exact rfl) ?_
       | refine r_take (by simp (disch:=first|decide|(simp only[zF,zG,hnt, h4, h6, h8, h14, h15, h16, hgm];decide)) only [zA,zB,zC,zD,zE,zF,zG,zH,zI,zJ,zK,HV.cells,hnt, h4, h6, h8, h14, h15, h16, hgm]; first|done|exact rfl) ?_
       | refine r_drop (by simp (disch:=first|decide|(simp only[zF,zG,Bool.not_true,Bool.not_false,hnt, h4, h6, h8, h14, h15, h16, hgm];decide)) only [zA,zB,zC,zD,zE,zF,zG,zH,zI,zJ,zK,HV.cells,Bool.not_true,Bool.not_false,hnt, h4, h6, h8, h14, h15, h16, hgm]; first|done|exact rfl) ?_
       | refine r_move (by simp (disch:=first|decide|(simp only[zF,zG,hnt, h4, h6, h8, h14, h15, h16, hgm];decide)) only [zA,zB,zC,zD,zE,zF,zG,zH,zI,zJ,zK,HV.cells,hnt, h4, h6, h8, h14, h15, h16, hgm]; try exact rfl) ?_
       | refine r_ldn (by simp (disch:=first|decide|(simp only[zF,zG,hnt, h4, h6, h8, h14, h15, h16, hgm];decide)) only [zA,zB,zC,zD,zE,zF,zG,zH,zI,zJ,zK,HV.cells,hnt, h4, h6, h8, h14, h15, h16, hgm]; try exact rfl) (by first|assumption|(simp (disch:=omega) only [get_same,get_other,hnt, h4, h6, h8, h14, h15, h16, hgm]; first|done|exact rfl)) (by first|assumption|rfl|(simp only [zI,zJ,HV.cells,hnt, h4, h6, h8, h14, h15, h16, hgm]; exact rfl)) ?_
       | refine r_box (by simp (disch:=first|decide|(simp only[zF,zG,hnt, h4, h6, h8, h14, h15, h16, hgm];decide)) only [zA,zB,zC,zD,zE,zF,zG,zH,zI,zJ,zK,HV.cells,hnt, h4, h6, h8, h14, h15, h16, hgm]; try exact rfl) ?_
       | refine r_alloc ?_
       | refine r_st (cs' := _) (by simp (disch:=first|decide|(simp only[zF,zG,hnt, h4, h6, h8, h14, h15, h16, hgm];decide)) only [zA,zB,zC,zD,zE,zF,zG,zH,zI,zJ,zK,HV.cells,hnt, h4, h6, h8, h14, h15, h16, hgm]; try exact rfl) (by simp (disch:=first|decide|(simp only[zF,zG,hnt, h4, h6, h8, h14, h15, h16, hgm];decide)) only [zA,zB,zC,zD,zE,zF,zG,zH,zI,zJ,zK,HV.cells,hnt, h4, h6, h8, h14, h15, h16, hgm]; try exact rfl) (by first|assumption|(simp (disch:=omega) only [get_same,get_other,hnt, h4, h6, h8, h14, h15, h16, hgm]; first|done|exact rfl)) (by exact True.intro) (by rfl) (by rfl) (by first|assumption|rfl|(simp only [zI,zJ,HV.cells,hnt, h4, h6, h8, h14, h15, h16, hgm]; exact rfl)) (by omega) ?_
       | refine r_add (by simp (disch:=first|decide|(simp only[zF,zG,hnt, h4, h6, h8, h14, h15, h16, hgm];decide)) only [zA,zB,zC,zD,zE,zF,zG,zH,zI,zJ,zK,HV.cells,hnt, h4, h6, h8, h14, h15, h16, hgm]; try exact rfl) (by simp (disch:=first|decide|(simp only[zF,zG,hnt, h4, h6, h8, h14, h15, h16, hgm];decide)) only [zA,zB,zC,zD,zE,zF,zG,zH,zI,zJ,zK,HV.cells,hnt, h4, h6, h8, h14, h15, h16, hgm]; try exact rfl) (by omega) (by omega) ?_
       | refine r_lss (by simp (disch:=first|decide|(simp only[zF,zG,hnt, h4, h6, h8, h14, h15, h16, hgm];decide)) only [zA,zB,zC,zD,zE,zF,zG,zH,zI,zJ,zK,HV.cells,hnt, h4, h6, h8, h14, h15, h16, hgm]; try exact rfl) (by simp (disch:=first|decide|(simp only[zF,zG,hnt, h4, h6, h8, h14, h15, h16, hgm];decide)) only [zA,zB,zC,zD,zE,zF,zG,zH,zI,zJ,zK,HV.cells,hnt, h4, h6, h8, h14, h15, h16, hgm]; try exact rfl) (fun hc => ?_) (fun hc => ?_) <;> (try (exfalso; omega))
       | refine r_not1 (by simp (disch:=first|decide|(simp only[zF,zG,hnt, h4, h6, h8, h14, h15, h16, hgm];decide)) only [zA,zB,zC,zD,zE,zF,zG,zH,zI,zJ,zK,HV.cells,hnt, h4, h6, h8, h14, h15, h16, hgm]; try exact rfl) ?_
       | refine r_len (by simp (disch:=first|decide|(simp only[zF,zG,hnt, h4, h6, h8, h14, h15, h16, hgm];decide)) only [zA,zB,zC,zD,zE,zF,zG,zH,zI,zJ,zK,HV.cells,hnt, h4, h6, h8, h14, h15, h16, hgm]; try exact rfl) ?_
       | refine r_ixs (by simp (disch:=first|decide|(simp only[zF,zG,hnt, h4, h6, h8, h14, h15, h16, hgm];decide)) only [zA,zB,zC,zD,zE,zF,zG,zH,zI,zJ,zK,HV.cells,hnt, h4, h6, h8, h14, h15, h16, hgm]; try exact rfl) (by simp (disch:=first|decide|(simp only[zF,zG,hnt, h4, h6, h8, h14, h15, h16, hgm];decide)) only [zA,zB,zC,zD,zE,zF,zG,zH,zI,zJ,zK,HV.cells,hnt, h4, h6, h8, h14, h15, h16, hgm]; try exact rfl) (by omega) ?_
       | refine r_ext (by simp (disch:=first|decide|(simp only[zF,zG,hnt, h4, h6, h8, h14, h15, h16, hgm];decide)) only [zA,zB,zC,zD,zE,zF,zG,zH,zI,zJ,zK,HV.cells,hnt, h4, h6, h8, h14, h15, h16, hgm]; try exact rfl) (by first|assumption|rfl|(simp only [zI,zJ,HV.cells,hnt, h4, h6, h8, h14, h15, h16, hgm]; exact rfl)) ?_
       | refine r_build (by simp (disch:=first|decide|(simp only[zF,zG,hnt, h4, h6, h8, h14, h15, h16, hgm];decide)) only [evParts,List.map_cons,List.map_nil,List.nil_append,List.cons_append,List.append_nil,zA,zB,zC,zD,zE,zF,zG,zH,zI,zJ,zK,HV.cells,hnt, h4, h6, h8, h14, h15, h16, hgm]; try exact rfl) ?_
       | refine r_mm ?_
       | refine r_lku (o := some (.bool true)) (kv := .agg l[i].enc) (r := mp) (es := seenL seen) (by simp (disch:=first|decide|(simp only[zF,zG,hnt, h4, h6, h8, h14, h15, h16, hgm];decide)) only [zA,zB,zC,zD,zE,zF,zG,zH,zI,zJ,zK,HV.cells,hnt, h4, h6, h8, h14, h15, h16, hgm]; try exact rfl) (by simp (disch:=first|decide|(simp only[zF,zG,hnt, h4, h6, h8, h14, h15, h16, hgm];decide)) only [zA,zB,zC,zD,zE,zF,zG,zH,zI,zJ,zK,HV.cells,hnt, h4, h6, h8, h14, h15, h16, hgm]; try exact rfl) hkey (by first|assumption|(simp (disch:=omega) only [get_same,get_other,hnt, h4, h6, h8, h14, h15, h16, hgm]; first|done|exact rfl)) hfs ?_
       | fail
      have e5 : readGo n seen (l.drop i) M = readGo n seen (l.drop (i + 1)) M := by rw [hdrop]; show (if _ then _ else _) = _; rw [if_pos hin]
      refine loop89 (cp := cp) (bk := bk) (mp := mp) (rb := rb) (t := t) hn htc hlen hl hflr hbn hmn hrn h1 h2 hfb hrow0 m (i + 1) _ _ (nx + 1) M seen (by omega) (by omega) (by repeat' first|assumption|refine D.upd ?_ (by omega)|exact D.mono (by assumption) (by omega)) (fun b hb hb1 hb2 => ?_) (by first|assumption|(simp (disch:=omega) only [get_same,get_other,hgr]; first|done|exact rfl)) (by first|assumption|(simp (disch:=omega) only [get_same,get_other,hgb]; first|done|exact rfl)) (by first|assumption|(simp (disch:=omega) only [get_same,get_other,hgm]; first|done|exact rfl)) hG ?_ ?_ ?_ ?_ ?_ ?_ ?_ ?_ (fun a' h' n' M' g0 g1 => hq a' h' n' M' g0 (by rw [e5]; exact g1)) (fun a' h' n' g0 g1 => hr a' h' n' g0 (by rw [e5]; exact g1))
      all_goals try first|(simp only [zL,zM,zF,zG,hnt, hds, h4, h6, h8, h14, h15, h16];done)|(simp (disch:=first|decide|(simp only[zF,zG,hnt, hds, h4, h6, h8, h14, h15, h16];decide)) only [zA,zB,zC,zD,zE,zF,zG,zH,zI,zJ,zK,HV.cells,hnt, hds, h4, h6, h8, h14, h15, h16];first|done|exact rfl)|assumption
      rw [get_other _ _ (by omega), get_other _ _ (by omega)]; exact hs b hb hb1 hb2
    · rw [if_neg hin] at hfs
      have hus := upd_seen l[i] seen hin
      have hmo : mp ≠ nx := by omega
      have e5 : readGo n seen (l.drop i) M = (match withM n l[i] M with | some M' => readGo n (seen ++ [l[i]]) (l.drop (i + 1)) M' | none => none) := by rw [hdrop]; show (if _ then _ else _) = _; rw [if_neg hin]
      have tkb := take_bc t M
      have ow2 : overwrite (Zr 125) 0 (HV.agg (Zr 125)).cells = some (Zr 125) := ow_all _ _ rfl
      cases hW : withM n l[i] M with
      | none =>
        rw [hW] at e5
        have cW : ∀ fl h' n', D h' n' → C LW fl 96 [.agg (bcells t M), .agg l[i].enc] ⟨h', n'⟩ (Sc (· = .tuple [.agg (Zr 125), .bool false]) ⟨h', n'⟩) := fun fl h' n' hd' => by
          have := c_withM (fl := fl) (M := M) hn htc hG (hl _ (List.getElem_mem hi)) hd'
          rw [hW] at this; exact this
        have ow1 : overwrite (bcells t M) 0 (HV.agg (Zr 125)).cells = some (Zr 125) := ow_all _ _ (by show (bcells t M).length = (Zr 125).length; rw [bc_len, zr_len])
        repeat' first
         | refine r_nil ?_
         | refine th_n ?_
         | refine th_r ?_
         | refine th_e ?_
         | refine ib_n ?_
         | refine ib_r ?_
         | refine ib_e ?_
         | refine ib_x (by decide) ?_
         | refine w_exit ?_
         | refine w_seq ?_
         | refine w_reg ?_
         | refine w_ret ?_
         | refine w_skip ?_
         | refine w_block ?_
         | refine w_t (by simp (disch:=first|decide|(simp only[zF,zG,hnt, h4, h6, h8, h14, h15, h16, hgm, hgb, hgr];decide)) only [zA,zB,zC,zD,zE,zF,zG,zH,zI,zJ,zK,HV.cells,hnt, h4, h6, h8, h14, h15, h16, hgm, hgb, hgr]; first|done|exact rfl) ?_
         | refine w_f (by simp (disch:=first|decide|(simp only[zF,zG,hnt, h4, h6, h8, h14, h15, h16, hgm, hgb, hgr];decide)) only [zA,zB,zC,zD,zE,zF,zG,zH,zI,zJ,zK,HV.cells,hnt, h4, h6, h8, h14, h15, h16, hgm, hgb, hgr]; first|done|exact rfl) ?_
         | refine r_take (by simp (disch:=first|decide|(simp only[zF,zG,hnt, h4, h6, h8, h14, h15, h16, hgm, hgb, hgr];decide)) only [zA,zB,zC,zD,zE,zF,zG,zH,zI,zJ,zK,HV.cells,hnt, h4, h6, h8, h14, h15, h16, hgm, hgb, hgr]; first|done|exact rfl) ?_
         | refine r_drop (by simp (disch:=first|decide|(simp only[zF,zG,Bool.not_true,Bool.not_false,hnt, h4, h6, h8, h14, h15, h16, hgm, hgb, hgr];decide)) only [zA,zB,zC,zD,zE,zF,zG,zH,zI,zJ,zK,HV.cells,Bool.not_true,Bool.not_false,hnt, h4, h6, h8, h14, h15, h16, hgm, hgb, hgr]; first|done|exact rfl) ?_
         | refine r_move (by simp (disch:=first|decide|(simp only[zF,zG,hnt, h4, h6, h8, h14, h15, h16, hgm, hgb, hgr];decide)) only [zA,zB,zC,zD,zE,zF,zG,zH,zI,zJ,zK,HV.cells,hnt, h4, h6, h8, h14, h15, h16, hgm, hgb, hgr]; try exact rfl) ?_
         | refine r_ldn (by simp (disch:=first|decide|(simp only[zF,zG,hnt, h4, h6, h8, h14, h15, h16, hgm, hgb, hgr];decide)) only [zA,zB,zC,zD,zE,zF,zG,zH,zI,zJ,zK,HV.cells,hnt, h4, h6, h8, h14, h15, h16, hgm, hgb, hgr]; try exact rfl) (by first|assumption|(simp (disch:=omega) only [get_same,get_other,hnt, h4, h6, h8, h14, h15, h16, hgm, hgb, hgr]; first|done|exact rfl)) (by first|assumption|rfl|(simp only [zI,zJ,HV.cells,hnt, h4, h6, h8, h14, h15, h16, hgm, hgb, hgr]; exact rfl)) ?_
         | refine r_box (by simp (disch:=first|decide|(simp only[zF,zG,hnt, h4, h6, h8, h14, h15, h16, hgm, hgb, hgr];decide)) only [zA,zB,zC,zD,zE,zF,zG,zH,zI,zJ,zK,HV.cells,hnt, h4, h6, h8, h14, h15, h16, hgm, hgb, hgr]; try exact rfl) ?_
         | refine r_alloc ?_
         | refine r_st (cs' := _) (by simp (disch:=first|decide|(simp only[zF,zG,hnt, h4, h6, h8, h14, h15, h16, hgm, hgb, hgr];decide)) only [zA,zB,zC,zD,zE,zF,zG,zH,zI,zJ,zK,HV.cells,hnt, h4, h6, h8, h14, h15, h16, hgm, hgb, hgr]; try exact rfl) (by simp (disch:=first|decide|(simp only[zF,zG,hnt, h4, h6, h8, h14, h15, h16, hgm, hgb, hgr];decide)) only [zA,zB,zC,zD,zE,zF,zG,zH,zI,zJ,zK,HV.cells,hnt, h4, h6, h8, h14, h15, h16, hgm, hgb, hgr]; try exact rfl) (by first|assumption|(simp (disch:=omega) only [get_same,get_other,hnt, h4, h6, h8, h14, h15, h16, hgm, hgb, hgr]; first|done|exact rfl)) (by exact True.intro) (by rfl) (by rfl) (by first|assumption|rfl|(simp only [zI,zJ,HV.cells,hnt, h4, h6, h8, h14, h15, h16, hgm, hgb, hgr]; exact rfl)) (by omega) ?_
         | refine r_add (by simp (disch:=first|decide|(simp only[zF,zG,hnt, h4, h6, h8, h14, h15, h16, hgm, hgb, hgr];decide)) only [zA,zB,zC,zD,zE,zF,zG,zH,zI,zJ,zK,HV.cells,hnt, h4, h6, h8, h14, h15, h16, hgm, hgb, hgr]; try exact rfl) (by simp (disch:=first|decide|(simp only[zF,zG,hnt, h4, h6, h8, h14, h15, h16, hgm, hgb, hgr];decide)) only [zA,zB,zC,zD,zE,zF,zG,zH,zI,zJ,zK,HV.cells,hnt, h4, h6, h8, h14, h15, h16, hgm, hgb, hgr]; try exact rfl) (by omega) (by omega) ?_
         | refine r_lss (by simp (disch:=first|decide|(simp only[zF,zG,hnt, h4, h6, h8, h14, h15, h16, hgm, hgb, hgr];decide)) only [zA,zB,zC,zD,zE,zF,zG,zH,zI,zJ,zK,HV.cells,hnt, h4, h6, h8, h14, h15, h16, hgm, hgb, hgr]; try exact rfl) (by simp (disch:=first|decide|(simp only[zF,zG,hnt, h4, h6, h8, h14, h15, h16, hgm, hgb, hgr];decide)) only [zA,zB,zC,zD,zE,zF,zG,zH,zI,zJ,zK,HV.cells,hnt, h4, h6, h8, h14, h15, h16, hgm, hgb, hgr]; try exact rfl) (fun hc => ?_) (fun hc => ?_) <;> (try (exfalso; omega))
         | refine r_not1 (by simp (disch:=first|decide|(simp only[zF,zG,hnt, h4, h6, h8, h14, h15, h16, hgm, hgb, hgr];decide)) only [zA,zB,zC,zD,zE,zF,zG,zH,zI,zJ,zK,HV.cells,hnt, h4, h6, h8, h14, h15, h16, hgm, hgb, hgr]; try exact rfl) ?_
         | refine r_len (by simp (disch:=first|decide|(simp only[zF,zG,hnt, h4, h6, h8, h14, h15, h16, hgm, hgb, hgr];decide)) only [zA,zB,zC,zD,zE,zF,zG,zH,zI,zJ,zK,HV.cells,hnt, h4, h6, h8, h14, h15, h16, hgm, hgb, hgr]; try exact rfl) ?_
         | refine r_ixs (by simp (disch:=first|decide|(simp only[zF,zG,hnt, h4, h6, h8, h14, h15, h16, hgm, hgb, hgr];decide)) only [zA,zB,zC,zD,zE,zF,zG,zH,zI,zJ,zK,HV.cells,hnt, h4, h6, h8, h14, h15, h16, hgm, hgb, hgr]; try exact rfl) (by simp (disch:=first|decide|(simp only[zF,zG,hnt, h4, h6, h8, h14, h15, h16, hgm, hgb, hgr];decide)) only [zA,zB,zC,zD,zE,zF,zG,zH,zI,zJ,zK,HV.cells,hnt, h4, h6, h8, h14, h15, h16, hgm, hgb, hgr]; try exact rfl) (by omega) ?_
         | refine r_ext (by simp (disch:=first|decide|(simp only[zF,zG,hnt, h4, h6, h8, h14, h15, h16, hgm, hgb, hgr];decide)) only [zA,zB,zC,zD,zE,zF,zG,zH,zI,zJ,zK,HV.cells,hnt, h4, h6, h8, h14, h15, h16, hgm, hgb, hgr]; try exact rfl) (by first|assumption|rfl|(simp only [zI,zJ,HV.cells,hnt, h4, h6, h8, h14, h15, h16, hgm, hgb, hgr]; exact rfl)) ?_
         | refine r_build (by simp (disch:=first|decide|(simp only[zF,zG,hnt, h4, h6, h8, h14, h15, h16, hgm, hgb, hgr];decide)) only [evParts,List.map_cons,List.map_nil,List.nil_append,List.cons_append,List.append_nil,zA,zB,zC,zD,zE,zF,zG,zH,zI,zJ,zK,HV.cells,hnt, h4, h6, h8, h14, h15, h16, hgm, hgb, hgr]; try exact rfl) ?_
         | refine r_mm ?_
         | refine r_lku (o := none) (kv := .agg l[i].enc) (r := mp) (es := seenL seen) (by simp (disch:=first|decide|(simp only[zF,zG,hnt, h4, h6, h8, h14, h15, h16, hgm, hgb, hgr];decide)) only [zA,zB,zC,zD,zE,zF,zG,zH,zI,zJ,zK,HV.cells,hnt, h4, h6, h8, h14, h15, h16, hgm, hgb, hgr]; try exact rfl) (by simp (disch:=first|decide|(simp only[zF,zG,hnt, h4, h6, h8, h14, h15, h16, hgm, hgb, hgr];decide)) only [zA,zB,zC,zD,zE,zF,zG,zH,zI,zJ,zK,HV.cells,hnt, h4, h6, h8, h14, h15, h16, hgm, hgb, hgr]; try exact rfl) hkey (by first|assumption|(simp (disch:=omega) only [get_same,get_other,hnt, h4, h6, h8, h14, h15, h16, hgm, hgb, hgr]; first|done|exact rfl)) hfs ?_
         | refine r_mup (kv := .agg l[i].enc) (vv := .bool true) (r := mp) (es := seenL seen) (by simp (disch:=first|decide|(simp only[zF,zG,hnt, h4, h6, h8, h14, h15, h16, hgm, hgb, hgr];decide)) only [zA,zB,zC,zD,zE,zF,zG,zH,zI,zJ,zK,HV.cells,hnt, h4, h6, h8, h14, h15, h16, hgm, hgb, hgr]; try exact rfl) (by simp (disch:=first|decide|(simp only[zF,zG,hnt, h4, h6, h8, h14, h15, h16, hgm, hgb, hgr];decide)) only [zA,zB,zC,zD,zE,zF,zG,zH,zI,zJ,zK,HV.cells,hnt, h4, h6, h8, h14, h15, h16, hgm, hgb, hgr]; try exact rfl) (by simp (disch:=first|decide|(simp only[zF,zG,hnt, h4, h6, h8, h14, h15, h16, hgm, hgb, hgr];decide)) only [zA,zB,zC,zD,zE,zF,zG,zH,zI,zJ,zK,HV.cells,hnt, h4, h6, h8, h14, h15, h16, hgm, hgb, hgr]; try exact rfl) hkey (by first|assumption|(simp (disch:=omega) only [get_same,get_other,hnt, h4, h6, h8, h14, h15, h16, hgm, hgb, hgr]; first|done|exact rfl)) (by omega) hus ?_
         | refine r_calls (by simp (disch:=first|decide|(simp only[zF,zG,hnt, h4, h6, h8, h14, h15, h16, hgm, hgb, hgr];decide)) only [zA,zB,zC,zD,zE,zF,zG,zH,zI,zJ,zK,HV.cells,hnt, h4, h6, h8, h14, h15, h16, hgm, hgb, hgr]; try exact rfl) (by simp (disch:=first|decide|(simp only[zF,zG,hnt, h4, h6, h8, h14, h15, h16, hgm, hgb, hgr];decide)) only [List.map_cons,List.map_nil,List.nil_append,List.cons_append,List.append_nil,zA,zB,zC,zD,zE,zF,zG,zH,zI,zJ,zK,HV.cells,hnt, h4, h6, h8, h14, h15, h16, hgm, hgb, hgr]; try exact rfl) (cW _ _ _ (by repeat' first|assumption|refine D.upd ?_ (by omega)|exact D.mono (by assumption) (by omega))) (fun n' hn' => ?_)
         | fail
        refine hr _ _ n' (by omega) e5 (get_same _ _ _) ?_ ?_ ?_ ?_
        all_goals first|(simp only [zL,zM,zF,zG,hnt, hds, h4];done)|(simp (disch:=first|decide|(simp only[zF,zG,hnt, hds, h4];decide)) only [zA,zB,zC,zD,zE,zF,zG,zH,zI,zJ,zK,HV.cells,hnt, hds, h4];first|done|exact rfl)|assumption
      | some M1 =>
        rw [hW] at e5
        have cW : ∀ fl h' n', D h' n' → C LW fl 96 [.agg (bcells t M), .agg l[i].enc] ⟨h', n'⟩ (Sc (· = .tuple [.agg (bcells t M1), .bool true]) ⟨h', n'⟩) := fun fl h' n' hd' => by
          have := c_withM (fl := fl) (M := M) hn htc hG (hl _ (List.getElem_mem hi)) hd'
          rw [hW] at this; exact this
        have ow1 : overwrite (bcells t M) 0 (HV.agg (bcells t M1)).cells = some (bcells t M1) := ow_all _ _ (by show (bcells t M).length = (bcells t M1).length; rw [bc_len, bc_len])
        have hr1 := hl _ (List.getElem_mem hi)
        rw [htc] at hr1
        have hG1 := withM_good hG hr1 hW
        repeat' first
         | refine r_nil ?_
         | refine th_n ?_
         | refine th_r ?_
         | refine th_e ?_
         | refine ib_n ?_
         | refine ib_r ?_
         | refine ib_e ?_
         | refine ib_x (by decide) ?_
         | refine w_exit ?_
         | refine w_seq ?_
         | refine w_reg ?_
         | refine w_ret ?_
         | refine w_skip ?_
         | refine w_block ?_
         | refine w_t (by simp (disch:=first|decide|(simp only[zF,zG,hnt, h4, h6, h8, h14, h15, h16, hgm, hgb, hgr];decide)) only [zA,zB,zC,zD,zE,zF,zG,zH,zI,zJ,zK,HV.cells,hnt, h4, h6, h8, h14, h15, h16, hgm, hgb, hgr]; first|done|exact rfl) ?_
         | refine w_f (by simp (disch:=first|decide|(simp only[zF,zG,hnt, h4, h6, h8, h14, h15, h16, hgm, hgb, hgr];decide)) only [zA,zB,zC,zD,zE,zF,zG,zH,zI,zJ,zK,HV.cells,hnt, h4, h6, h8, h14, h15, h16, hgm, hgb, hgr]; first|done|exact rfl) ?_
         | refine r_take (by simp (disch:=first|decide|(simp only[zF,zG,hnt, h4, h6, h8, h14, h15, h16, hgm, hgb, hgr];decide)) only [zA,zB,zC,zD,zE,zF,zG,zH,zI,zJ,zK,HV.cells,hnt, h4, h6, h8, h14, h15, h16, hgm, hgb, hgr]; first|done|exact rfl) ?_
         | refine r_drop (by simp (disch:=first|decide|(simp only[zF,zG,Bool.not_true,Bool.not_false,hnt, h4, h6, h8, h14, h15, h16, hgm, hgb, hgr];decide)) only [zA,zB,zC,zD,zE,zF,zG,zH,zI,zJ,zK,HV.cells,Bool.not_true,Bool.not_false,hnt, h4, h6, h8, h14, h15, h16, hgm, hgb, hgr]; first|done|exact rfl) ?_
         | refine r_move (by simp (disch:=first|decide|(simp only[zF,zG,hnt, h4, h6, h8, h14, h15, h16, hgm, hgb, hgr];decide)) only [zA,zB,zC,zD,zE,zF,zG,zH,zI,zJ,zK,HV.cells,hnt, h4, h6, h8, h14, h15, h16, hgm, hgb, hgr]; try exact rfl) ?_
         | refine r_ldn (by simp (disch:=first|decide|(simp only[zF,zG,hnt, h4, h6, h8, h14, h15, h16, hgm, hgb, hgr];decide)) only [zA,zB,zC,zD,zE,zF,zG,zH,zI,zJ,zK,HV.cells,hnt, h4, h6, h8, h14, h15, h16, hgm, hgb, hgr]; try exact rfl) (by first|assumption|(simp (disch:=omega) only [get_same,get_other,hnt, h4, h6, h8, h14, h15, h16, hgm, hgb, hgr]; first|done|exact rfl)) (by first|assumption|rfl|(simp only [zI,zJ,HV.cells,hnt, h4, h6, h8, h14, h15, h16, hgm, hgb, hgr]; exact rfl)) ?_
         | refine r_box (by simp (disch:=first|decide|(simp only[zF,zG,hnt, h4, h6, h8, h14, h15, h16, hgm, hgb, hgr];decide)) only [zA,zB,zC,zD,zE,zF,zG,zH,zI,zJ,zK,HV.cells,hnt, h4, h6, h8, h14, h15, h16, hgm, hgb, hgr]; try exact rfl) ?_
         | refine r_alloc ?_
         | refine r_st (cs' := _) (by simp (disch:=first|decide|(simp only[zF,zG,hnt, h4, h6, h8, h14, h15, h16, hgm, hgb, hgr];decide)) only [zA,zB,zC,zD,zE,zF,zG,zH,zI,zJ,zK,HV.cells,hnt, h4, h6, h8, h14, h15, h16, hgm, hgb, hgr]; try exact rfl) (by simp (disch:=first|decide|(simp only[zF,zG,hnt, h4, h6, h8, h14, h15, h16, hgm, hgb, hgr];decide)) only [zA,zB,zC,zD,zE,zF,zG,zH,zI,zJ,zK,HV.cells,hnt, h4, h6, h8, h14, h15, h16, hgm, hgb, hgr]; try exact rfl) (by first|assumption|(simp (disch:=omega) only [get_same,get_other,hnt, h4, h6, h8, h14, h15, h16, hgm, hgb, hgr]; first|done|exact rfl)) (by exact True.intro) (by rfl) (by rfl) (by first|assumption|rfl|(simp only [zI,zJ,HV.cells,hnt, h4, h6, h8, h14, h15, h16, hgm, hgb, hgr]; exact rfl)) (by omega) ?_
         | refine r_add (by simp (disch:=first|decide|(simp only[zF,zG,hnt, h4, h6, h8, h14, h15, h16, hgm, hgb, hgr];decide)) only [zA,zB,zC,zD,zE,zF,zG,zH,zI,zJ,zK,HV.cells,hnt, h4, h6, h8, h14, h15, h16, hgm, hgb, hgr]; try exact rfl) (by simp (disch:=first|decide|(simp only[zF,zG,hnt, h4, h6, h8, h14, h15, h16, hgm, hgb, hgr];decide)) only [zA,zB,zC,zD,zE,zF,zG,zH,zI,zJ,zK,HV.cells,hnt, h4, h6, h8, h14, h15, h16, hgm, hgb, hgr]; try exact rfl) (by omega) (by omega) ?_
         | refine r_lss (by simp (disch:=first|decide|(simp only[zF,zG,hnt, h4, h6, h8, h14, h15, h16, hgm, hgb, hgr];decide)) only [zA,zB,zC,zD,zE,zF,zG,zH,zI,zJ,zK,HV.cells,hnt, h4, h6, h8, h14, h15, h16, hgm, hgb, hgr]; try exact rfl) (by simp (disch:=first|decide|(simp only[zF,zG,hnt, h4, h6, h8, h14, h15, h16, hgm, hgb, hgr];decide)) only [zA,zB,zC,zD,zE,zF,zG,zH,zI,zJ,zK,HV.cells,hnt, h4, h6, h8, h14, h15, h16, hgm, hgb, hgr]; try exact rfl) (fun hc => ?_) (fun hc => ?_) <;> (try (exfalso; omega))
         | refine r_not1 (by simp (disch:=first|decide|(simp only[zF,zG,hnt, h4, h6, h8, h14, h15, h16, hgm, hgb, hgr];decide)) only [zA,zB,zC,zD,zE,zF,zG,zH,zI,zJ,zK,HV.cells,hnt, h4, h6, h8, h14, h15, h16, hgm, hgb, hgr]; try exact rfl) ?_
         | refine r_len (by simp (disch:=first|decide|(simp only[zF,zG,hnt, h4, h6, h8, h14, h15, h16, hgm, hgb, hgr];decide)) only [zA,zB,zC,zD,zE,zF,zG,zH,zI,zJ,zK,HV.cells,hnt, h4, h6, h8, h14, h15, h16, hgm, hgb, hgr]; try exact rfl) ?_
         | refine r_ixs (by simp (disch:=first|decide|(simp only[zF,zG,hnt, h4, h6, h8, h14, h15, h16, hgm, hgb, hgr];decide)) only [zA,zB,zC,zD,zE,zF,zG,zH,zI,zJ,zK,HV.cells,hnt, h4, h6, h8, h14, h15, h16, hgm, hgb, hgr]; try exact rfl) (by simp (disch:=first|decide|(simp only[zF,zG,hnt, h4, h6, h8, h14, h15, h16, hgm, hgb, hgr];decide)) only [zA,zB,zC,zD,zE,zF,zG,zH,zI,zJ,zK,HV.cells,hnt, h4, h6, h8, h14, h15, h16, hgm, hgb, hgr]; try exact rfl) (by omega) ?_
         | refine r_ext (by simp (disch:=first|decide|(simp only[zF,zG,hnt, h4, h6, h8, h14, h15, h16, hgm, hgb, hgr];decide)) only [zA,zB,zC,zD,zE,zF,zG,zH,zI,zJ,zK,HV.cells,hnt, h4, h6, h8, h14, h15, h16, hgm, hgb, hgr]; try exact rfl) (by first|assumption|rfl|(simp only [zI,zJ,HV.cells,hnt, h4, h6, h8, h14, h15, h16, hgm, hgb, hgr]; exact rfl)) ?_
         | refine r_build (by simp (disch:=first|decide|(simp only[zF,zG,hnt, h4, h6, h8, h14, h15, h16, hgm, hgb, hgr];decide)) only [evParts,List.map_cons,List.map_nil,List.nil_append,List.cons_append,List.append_nil,zA,zB,zC,zD,zE,zF,zG,zH,zI,zJ,zK,HV.cells,hnt, h4, h6, h8, h14, h15, h16, hgm, hgb, hgr]; try exact rfl) ?_
         | refine r_mm ?_
         | refine r_lku (o := none) (kv := .agg l[i].enc) (r := mp) (es := seenL seen) (by simp (disch:=first|decide|(simp only[zF,zG,hnt, h4, h6, h8, h14, h15, h16, hgm, hgb, hgr];decide)) only [zA,zB,zC,zD,zE,zF,zG,zH,zI,zJ,zK,HV.cells,hnt, h4, h6, h8, h14, h15, h16, hgm, hgb, hgr]; try exact rfl) (by simp (disch:=first|decide|(simp only[zF,zG,hnt, h4, h6, h8, h14, h15, h16, hgm, hgb, hgr];decide)) only [zA,zB,zC,zD,zE,zF,zG,zH,zI,zJ,zK,HV.cells,hnt, h4, h6, h8, h14, h15, h16, hgm, hgb, hgr]; try exact rfl) hkey (by first|assumption|(simp (disch:=omega) only [get_same,get_other,hnt, h4, h6, h8, h14, h15, h16, hgm, hgb, hgr]; first|done|exact rfl)) hfs ?_
         | refine r_mup (kv := .agg l[i].enc) (vv := .bool true) (r := mp) (es := seenL seen) (by simp (disch:=first|decide|(simp only[zF,zG,hnt, h4, h6, h8, h14, h15, h16, hgm, hgb, hgr];decide)) only [zA,zB,zC,zD,zE,zF,zG,zH,zI,zJ,zK,HV.cells,hnt, h4, h6, h8, h14, h15, h16, hgm, hgb, hgr]; try exact rfl) (by simp (disch:=first|decide|(simp only[zF,zG,hnt, h4, h6, h8, h14, h15, h16, hgm, hgb, hgr];decide)) only [zA,zB,zC,zD,zE,zF,zG,zH,zI,zJ,zK,HV.cells,hnt, h4, h6, h8, h14, h15, h16, hgm, hgb, hgr]; try exact rfl) (by simp (disch:=first|decide|(simp only[zF,zG,hnt, h4, h6, h8, h14, h15, h16, hgm, hgb, hgr];decide)) only [zA,zB,zC,zD,zE,zF,zG,zH,zI,zJ,zK,HV.cells,hnt, h4, h6, h8, h14, h15, h16, hgm, hgb, hgr]; try exact rfl) hkey (by first|assumption|(simp (disch:=omega) only [get_same,get_other,hnt, h4, h6, h8, h14, h15, h16, hgm, hgb, hgr]; first|done|exact rfl)) (by omega) hus ?_
         | refine r_calls (by simp (disch:=first|decide|(simp only[zF,zG,hnt, h4, h6, h8, h14, h15, h16, hgm, hgb, hgr];decide)) only [zA,zB,zC,zD,zE,zF,zG,zH,zI,zJ,zK,HV.cells,hnt, h4, h6, h8, h14, h15, h16, hgm, hgb, hgr]; try exact rfl) (by simp (disch:=first|decide|(simp only[zF,zG,hnt, h4, h6, h8, h14, h15, h16, hgm, hgb, hgr];decide)) only [List.map_cons,List.map_nil,List.nil_append,List.cons_append,List.append_nil,zA,zB,zC,zD,zE,zF,zG,zH,zI,zJ,zK,HV.cells,hnt, h4, h6, h8, h14, h15, h16, hgm, hgb, hgr]; try exact rfl) (cW _ _ _ (by repeat' first|assumption|refine D.upd ?_ (by omega)|exact D.mono (by assumption) (by omega))) (fun n' hn' => ?_)
         | fail
        refine loop89 (cp := cp) (bk := bk) (mp := mp) (rb := rb) (t := t) hn htc hlen hl hflr hbn hmn hrn h1 h2 hfb hrow0 m (i + 1) _ _ n' M1 (seen ++ [l[i]]) (by omega) (by omega) (by repeat' first|assumption|refine D.upd ?_ (by omega)|exact D.mono (by assumption) (by omega)) (fun b hb hb1 hb2 => ?_) (by first|assumption|(simp (disch:=omega) only [get_same,get_other,hgr]; first|done|exact rfl)) (by first|assumption|(simp (disch:=omega) only [get_same,get_other]; first|done|exact rfl)) (by first|assumption|(simp (disch:=omega) only [get_same,get_other]; first|done|exact rfl)) hG1 ?_ ?_ ?_ ?_ ?_ ?_ ?_ ?_ (fun a' h' n' M' g0 g1 => hq a' h' n' M' g0 (by rw [e5]; exact g1)) (fun a' h' n' g0 g1 => hr a' h' n' g0 (by rw [e5]; exact g1))
        all_goals try first|(simp only [zL,zM,zF,zG,hnt, hds, h4, h6, h8, h14, h15, h16];done)|(simp (disch:=first|decide|(simp only[zF,zG,hnt, hds, h4, h6, h8, h14, h15, h16];decide)) only [zA,zB,zC,zD,zE,zF,zG,zH,zI,zJ,zK,HV.cells,hnt, hds, h4, h6, h8, h14, h15, h16];first|done|exact rfl)|assumption
        rw [get_other _ _ (by omega), get_other _ _ (by omega), get_other _ _ (by omega), get_other _ _ (by omega)]; exact hs b hb hb1 hb2
theorem unr_ok {n : Nat} {t : Tb} (htc : t.c = n) (ht : TubeOk t.c t.t t.a t.b) : 1 ≤ n ∧ n ≤ 10 ∧ Good n (unrM n t) := by
  unfold TubeOk at ht
  rw [htc] at ht
  exact ⟨by omega, by omega, (unr_eq (by omega) (by omega) (by omega) (by omega) (by omega) (by omega) (by omega)).2.2⟩
theorem c_read {fl : Nat} {h : Tr HBlk} {nx : Nat} (hd : D h nx) {t : Tb} {n : Nat} {p : Option (Nat × Nat)} {l : List Rd} {m cp : Nat} (htc : t.c = n) (ht : TubeOk t.c t.t t.a t.b) (hm : m = l.length) (hlen : l.length < 1000000) (hl : ∀ r ∈ l, RdOk2 t.c r) (hrow : Row Rd.enc 4 h nx p l) :
    C LW fl 89 [.agg t.cells, .slice p m cp] ⟨h, nx⟩ (Sc (· = withO t (readO t n l)) ⟨h, nx⟩) := by
  subst hm
  obtain ⟨hn1, hn, hG⟩ := unr_ok htc ht
  have hT := ht
  unfold TubeOk at hT
  have m1 := mulr (c := t.c) (b := t.a) (by omega) (by omega)
  have tk : takeN 4 (t.cells.drop 0) = some t.cells := rfl
  have ow0 : overwrite (Zr 125) 0 (HV.agg (bcells t (unrM n t))).cells = some (bcells t (unrM n t)) := ow_bc t (unrM n t)
  have cU : ∀ fl h' n', D h' n' → C LW fl 97 [.agg t.cells] ⟨h', n'⟩ (Sc (· = .agg (bcells t (unrM n t))) ⟨h', n'⟩) := fun fl h' n' hd' => c_unread lw97 lw100 lw88 hn htc (by omega) (by omega) (by omega) hd'
  refine c_in lw89 rfl rfl rfl ?_
  dsimp only [L89]
  repeat' first
   | refine r_nil ?_
   | refine th_n ?_
   | refine th_r ?_
   | refine th_e ?_
   | refine ib_n ?_
   | refine ib_r ?_
   | refine ib_e ?_
   | refine ib_x (by decide) ?_
   | refine w_exit ?_
   | refine w_seq ?_
   | refine w_reg ?_
   | refine w_ret ?_
   | refine w_skip ?_
   | refine w_block ?_
   | refine w_t (by simp (disch:=first|decide|(simp only[zF,zG];decide)) only [zA,zB,zC,zD,zE,zF,zG,zH,zI,zJ,zK,HV.cells]; first|done|exact rfl) ?_
   | refine w_f (by simp (disch:=first|decide|(simp only[zF,zG];decide)) only [zA,zB,zC,zD,zE,zF,zG,zH,zI,zJ,zK,HV.cells]; first|done|exact rfl) ?_
   | refine r_take (by simp (disch:=first|decide|(simp only[zF,zG];decide)) only [zA,zB,zC,zD,zE,zF,zG,zH,zI,zJ,zK,HV.cells]; first|done|exact rfl) ?_
   | refine r_drop (by simp (disch:=first|decide|(simp only[zF,zG,Bool.not_true,Bool.not_false];decide)) only [zA,zB,zC,zD,zE,zF,zG,zH,zI,zJ,zK,HV.cells,Bool.not_true,Bool.not_false]; first|done|exact rfl) ?_
   | refine r_move (by simp (disch:=first|decide|(simp only[zF,zG];decide)) only [zA,zB,zC,zD,zE,zF,zG,zH,zI,zJ,zK,HV.cells]; try exact rfl) ?_
   | refine r_ldn (by simp (disch:=first|decide|(simp only[zF,zG];decide)) only [zA,zB,zC,zD,zE,zF,zG,zH,zI,zJ,zK,HV.cells]; try exact rfl) (by first|assumption|(simp (disch:=omega) only [get_same,get_other]; first|done|exact rfl)) (by first|assumption|rfl|(simp only [zI,zJ,HV.cells]; exact rfl)) ?_
   | refine r_box (by simp (disch:=first|decide|(simp only[zF,zG];decide)) only [zA,zB,zC,zD,zE,zF,zG,zH,zI,zJ,zK,HV.cells]; try exact rfl) ?_
   | refine r_alloc ?_
   | refine r_st (cs' := _) (by simp (disch:=first|decide|(simp only[zF,zG];decide)) only [zA,zB,zC,zD,zE,zF,zG,zH,zI,zJ,zK,HV.cells]; try exact rfl) (by simp (disch:=first|decide|(simp only[zF,zG];decide)) only [zA,zB,zC,zD,zE,zF,zG,zH,zI,zJ,zK,HV.cells]; try exact rfl) (by first|assumption|(simp (disch:=omega) only [get_same,get_other]; first|done|exact rfl)) (by exact True.intro) (by rfl) (by rfl) (by first|assumption|rfl|(simp only [zI,zJ,HV.cells]; exact rfl)) (by omega) ?_
   | refine r_add (by simp (disch:=first|decide|(simp only[zF,zG];decide)) only [zA,zB,zC,zD,zE,zF,zG,zH,zI,zJ,zK,HV.cells]; try exact rfl) (by simp (disch:=first|decide|(simp only[zF,zG];decide)) only [zA,zB,zC,zD,zE,zF,zG,zH,zI,zJ,zK,HV.cells]; try exact rfl) (by omega) (by omega) ?_
   | refine r_lss (by simp (disch:=first|decide|(simp only[zF,zG];decide)) only [zA,zB,zC,zD,zE,zF,zG,zH,zI,zJ,zK,HV.cells]; try exact rfl) (by simp (disch:=first|decide|(simp only[zF,zG];decide)) only [zA,zB,zC,zD,zE,zF,zG,zH,zI,zJ,zK,HV.cells]; try exact rfl) (fun hc => ?_) (fun hc => ?_) <;> (try (exfalso; omega))
   | refine r_not1 (by simp (disch:=first|decide|(simp only[zF,zG];decide)) only [zA,zB,zC,zD,zE,zF,zG,zH,zI,zJ,zK,HV.cells]; try exact rfl) ?_
   | refine r_len (by simp (disch:=first|decide|(simp only[zF,zG];decide)) only [zA,zB,zC,zD,zE,zF,zG,zH,zI,zJ,zK,HV.cells]; try exact rfl) ?_
   | refine r_ixs (by simp (disch:=first|decide|(simp only[zF,zG];decide)) only [zA,zB,zC,zD,zE,zF,zG,zH,zI,zJ,zK,HV.cells]; try exact rfl) (by simp (disch:=first|decide|(simp only[zF,zG];decide)) only [zA,zB,zC,zD,zE,zF,zG,zH,zI,zJ,zK,HV.cells]; try exact rfl) (by omega) ?_
   | refine r_ext (by simp (disch:=first|decide|(simp only[zF,zG];decide)) only [zA,zB,zC,zD,zE,zF,zG,zH,zI,zJ,zK,HV.cells]; try exact rfl) (by first|assumption|rfl|(simp only [zI,zJ,HV.cells]; exact rfl)) ?_
   | refine r_build (by simp (disch:=first|decide|(simp only[zF,zG];decide)) only [evParts,List.map_cons,List.map_nil,List.nil_append,List.cons_append,List.append_nil,zA,zB,zC,zD,zE,zF,zG,zH,zI,zJ,zK,HV.cells]; try exact rfl) ?_
   | refine r_mm ?_
   | refine r_calls (by simp (disch:=first|decide|(simp only[zF,zG];decide)) only [zA,zB,zC,zD,zE,zF,zG,zH,zI,zJ,zK,HV.cells]; try exact rfl) (by simp (disch:=first|decide|(simp only[zF,zG];decide)) only [List.map_cons,List.map_nil,List.nil_append,List.cons_append,List.append_nil,zA,zB,zC,zD,zE,zF,zG,zH,zI,zJ,zK,HV.cells]; try exact rfl) (cU _ _ _ (by repeat' first|assumption|refine D.upd ?_ (by omega)|exact D.mono (by assumption) (by omega))) (fun n' hn' => ?_)
   | fail
  have hrow1 : Row Rd.enc 4 (((((h.set nx (some (.cells t.cells .exact))).set (nx + 1) (some (.cells (Zr 125) .exact))).set n' (some (.cells (Zr 125) .exact))).set n' (some (.cells (bcells t (unrM n t)) .exact))).set (n' + 1) (some (.map []))) (nx + 1) p l := by
    intro hne
    obtain ⟨b, o, cs, k, e, hb, hg, hc⟩ := hrow hne
    exact ⟨b, o, cs, k, e, by omega, by rw [get_other _ _ (by omega), get_other _ _ (by omega), get_other _ _ (by omega), get_other _ _ (by omega), get_other _ _ (by omega)]; exact hg, hc⟩
  refine loop89 (cp := cp) (bk := n') (mp := n' + 1) (rb := nx + 1) (t := t) (n0 := n' + 1 + 1) hn htc hlen hl (by omega) (by omega) (by omega) (by omega) (by omega) (by omega) (Nat.le_refl _) hrow1 l.length 0 _ _ (n' + 1 + 1) (unrM n t) [] (by omega) (Nat.le_refl _) (by repeat' first|assumption|refine D.upd ?_ (by omega)|exact D.mono (by assumption) (by omega)) (fun b _ _ _ => rfl) (by first|assumption|(simp (disch:=omega) only [get_same,get_other]; first|done|exact rfl)) (by first|assumption|(simp (disch:=omega) only [get_same,get_other]; first|done|exact rfl)) (by first|assumption|(simp (disch:=omega) only [get_same,get_other]; first|done|exact rfl)) hG ?_ ?_ ?_ ?_ ?_ ?_ ?_ ?_ (fun a' h' n2 M' g0 g1 g2 g3 g4 g5 g6 g7 => ?_) (fun a' h' n2 g0 g1 g2 g4 g5 g6 g7 => ?_)
  all_goals try first|(simp only [zL,zM,zF,zG];done)|(simp (disch:=first|decide|(simp only[zF,zG];decide)) only [zA,zB,zC,zD,zE,zF,zG,zH,zI,zJ,zK,HV.cells];first|done|exact rfl)|assumption
  · have tkb := take_bc t M'
    have owb := ow_bc t M'
    have e : readO t n l = some M' := by unfold readO; simpa using g1
    repeat' first
     | refine r_nil ?_
     | refine th_n ?_
     | refine th_r ?_
     | refine th_e ?_
     | refine ib_n ?_
     | refine ib_r ?_
     | refine ib_e ?_
     | refine ib_x (by decide) ?_
     | refine w_exit ?_
     | refine w_seq ?_
     | refine w_reg ?_
     | refine w_ret ?_
     | refine w_skip ?_
     | refine w_block ?_
     | refine w_t (by simp (disch:=first|decide|(simp only[zF,zG,g4, g6, g7, g2, g3];decide)) only [zA,zB,zC,zD,zE,zF,zG,zH,zI,zJ,zK,HV.cells,g4, g6, g7, g2, g3]; first|done|exact rfl) ?_
     | refine w_f (by simp (disch:=first|decide|(simp only[zF,zG,g4, g6, g7, g2, g3];decide)) only [zA,zB,zC,zD,zE,zF,zG,zH,zI,zJ,zK,HV.cells,g4, g6, g7, g2, g3]; first|done|exact rfl) ?_
     | refine r_take (by simp (disch:=first|decide|(simp only[zF,zG,g4, g6, g7, g2, g3];decide)) only [zA,zB,zC,zD,zE,zF,zG,zH,zI,zJ,zK,HV.cells,g4, g6, g7, g2, g3]; first|done|exact rfl) ?_
     | refine r_drop (by simp (disch:=first|decide|(simp only[zF,zG,Bool.not_true,Bool.not_false,g4, g6, g7, g2, g3];decide)) only [zA,zB,zC,zD,zE,zF,zG,zH,zI,zJ,zK,HV.cells,Bool.not_true,Bool.not_false,g4, g6, g7, g2, g3]; first|done|exact rfl) ?_
     | refine r_move (by simp (disch:=first|decide|(simp only[zF,zG,g4, g6, g7, g2, g3];decide)) only [zA,zB,zC,zD,zE,zF,zG,zH,zI,zJ,zK,HV.cells,g4, g6, g7, g2, g3]; try exact rfl) ?_
     | refine r_ldn (by simp (disch:=first|decide|(simp only[zF,zG,g4, g6, g7, g2, g3];decide)) only [zA,zB,zC,zD,zE,zF,zG,zH,zI,zJ,zK,HV.cells,g4, g6, g7, g2, g3]; try exact rfl) (by first|assumption|(simp (disch:=omega) only [get_same,get_other,g4, g6, g7, g2, g3]; first|done|exact rfl)) (by first|assumption|rfl|(simp only [zI,zJ,HV.cells,g4, g6, g7, g2, g3]; exact rfl)) ?_
     | refine r_box (by simp (disch:=first|decide|(simp only[zF,zG,g4, g6, g7, g2, g3];decide)) only [zA,zB,zC,zD,zE,zF,zG,zH,zI,zJ,zK,HV.cells,g4, g6, g7, g2, g3]; try exact rfl) ?_
     | refine r_alloc ?_
     | refine r_st (cs' := _) (by simp (disch:=first|decide|(simp only[zF,zG,g4, g6, g7, g2, g3];decide)) only [zA,zB,zC,zD,zE,zF,zG,zH,zI,zJ,zK,HV.cells,g4, g6, g7, g2, g3]; try exact rfl) (by simp (disch:=first|decide|(simp only[zF,zG,g4, g6, g7, g2, g3];decide)) only [zA,zB,zC,zD,zE,zF,zG,zH,zI,zJ,zK,HV.cells,g4, g6, g7, g2, g3]; try exact rfl) (by first|assumption|(simp (disch:=omega) only [get_same,get_other,g4, g6, g7, g2, g3]; first|done|exact rfl)) (by exact True.intro) (by rfl) (by rfl) (by first|assumption|rfl|(simp only [zI,zJ,HV.cells,g4, g6, g7, g2, g3]; exact rfl)) (by omega) ?_
     | refine r_add (by simp (disch:=first|decide|(simp only[zF,zG,g4, g6, g7, g2, g3];decide)) only [zA,zB,zC,zD,zE,zF,zG,zH,zI,zJ,zK,HV.cells,g4, g6, g7, g2, g3]; try exact rfl) (by simp (disch:=first|decide|(simp only[zF,zG,g4, g6, g7, g2, g3];decide)) only [zA,zB,zC,zD,zE,zF,zG,zH,zI,zJ,zK,HV.cells,g4, g6, g7, g2, g3]; try exact rfl) (by omega) (by omega) ?_
     | refine r_lss (by simp (disch:=first|decide|(simp only[zF,zG,g4, g6, g7, g2, g3];decide)) only [zA,zB,zC,zD,zE,zF,zG,zH,zI,zJ,zK,HV.cells,g4, g6, g7, g2, g3]; try exact rfl) (by simp (disch:=first|decide|(simp only[zF,zG,g4, g6, g7, g2, g3];decide)) only [zA,zB,zC,zD,zE,zF,zG,zH,zI,zJ,zK,HV.cells,g4, g6, g7, g2, g3]; try exact rfl) (fun hc => ?_) (fun hc => ?_) <;> (try (exfalso; omega))
     | refine r_not1 (by simp (disch:=first|decide|(simp only[zF,zG,g4, g6, g7, g2, g3];decide)) only [zA,zB,zC,zD,zE,zF,zG,zH,zI,zJ,zK,HV.cells,g4, g6, g7, g2, g3]; try exact rfl) ?_
     | refine r_len (by simp (disch:=first|decide|(simp only[zF,zG,g4, g6, g7, g2, g3];decide)) only [zA,zB,zC,zD,zE,zF,zG,zH,zI,zJ,zK,HV.cells,g4, g6, g7, g2, g3]; try exact rfl) ?_
     | refine r_ixs (by simp (disch:=first|decide|(simp only[zF,zG,g4, g6, g7, g2, g3];decide)) only [zA,zB,zC,zD,zE,zF,zG,zH,zI,zJ,zK,HV.cells,g4, g6, g7, g2, g3]; try exact rfl) (by simp (disch:=first|decide|(simp only[zF,zG,g4, g6, g7, g2, g3];decide)) only [zA,zB,zC,zD,zE,zF,zG,zH,zI,zJ,zK,HV.cells,g4, g6, g7, g2, g3]; try exact rfl) (by omega) ?_
     | refine r_ext (by simp (disch:=first|decide|(simp only[zF,zG,g4, g6, g7, g2, g3];decide)) only [zA,zB,zC,zD,zE,zF,zG,zH,zI,zJ,zK,HV.cells,g4, g6, g7, g2, g3]; try exact rfl) (by first|assumption|rfl|(simp only [zI,zJ,HV.cells,g4, g6, g7, g2, g3]; exact rfl)) ?_
     | refine r_build (by simp (disch:=first|decide|(simp only[zF,zG,g4, g6, g7, g2, g3];decide)) only [evParts,List.map_cons,List.map_nil,List.nil_append,List.cons_append,List.append_nil,zA,zB,zC,zD,zE,zF,zG,zH,zI,zJ,zK,HV.cells,g4, g6, g7, g2, g3]; try exact rfl) ?_
     | refine r_mm ?_
     | fail
    refine fin_m (by simp only [zL, g5]) (res_c (by simp (disch:=first|decide|(simp only[zF,zG,g4, g6];decide)) only [zA,zB,zC,zD,zE,zF,zG,zH,zI,zJ,zK,HV.cells,g4, g6]; try exact rfl) (by first|assumption|(simp (disch:=omega) only [get_same,get_other]; first|done|exact rfl)) tkb (res_t (by simp (disch:=first|decide|(simp only[zF,zG,g4];decide)) only [zA,zB,zC,zD,zE,zF,zG,zH,zI,zJ,zK,HV.cells,g4]; try exact rfl) res_nil)) (sc_flat ?_ (by dsimp only; omega) ?_)
    · rw [e]; exact flat_withO _ _
    · rw [e]; rfl
  · have e : readO t n l = none := by unfold readO; simpa using g1
    repeat' first
     | refine r_nil ?_
     | refine th_n ?_
     | refine th_r ?_
     | refine th_e ?_
     | refine ib_n ?_
     | refine ib_r ?_
     | refine ib_e ?_
     | refine ib_x (by decide) ?_
     | refine w_exit ?_
     | refine w_seq ?_
     | refine w_reg ?_
     | refine w_ret ?_
     | refine w_skip ?_
     | refine w_block ?_
     | refine w_t (by simp (disch:=first|decide|(simp only[zF,zG,g4, g6, g7, g2];decide)) only [zA,zB,zC,zD,zE,zF,zG,zH,zI,zJ,zK,HV.cells,g4, g6, g7, g2]; first|done|exact rfl) ?_
     | refine w_f (by simp (disch:=first|decide|(simp only[zF,zG,g4, g6, g7, g2];decide)) only [zA,zB,zC,zD,zE,zF,zG,zH,zI,zJ,zK,HV.cells,g4, g6, g7, g2]; first|done|exact rfl) ?_
     | refine r_take (by simp (disch:=first|decide|(simp only[zF,zG,g4, g6, g7, g2];decide)) only [zA,zB,zC,zD,zE,zF,zG,zH,zI,zJ,zK,HV.cells,g4, g6, g7, g2]; first|done|exact rfl) ?_
     | refine r_drop (by simp (disch:=first|decide|(simp only[zF,zG,Bool.not_true,Bool.not_false,g4, g6, g7, g2];decide)) only [zA,zB,zC,zD,zE,zF,zG,zH,zI,zJ,zK,HV.cells,Bool.not_true,Bool.not_false,g4, g6, g7, g2]; first|done|exact rfl) ?_
     | refine r_move (by simp (disch:=first|decide|(simp only[zF,zG,g4, g6, g7, g2];decide)) only [zA,zB,zC,zD,zE,zF,zG,zH,zI,zJ,zK,HV.cells,g4, g6, g7, g2]; try exact rfl) ?_
     | refine r_ldn (by simp (disch:=first|decide|(simp only[zF,zG,g4, g6, g7, g2];decide)) only [zA,zB,zC,zD,zE,zF,zG,zH,zI,zJ,zK,HV.cells,g4, g6, g7, g2]; try exact rfl) (by first|assumption|(simp (disch:=omega) only [get_same,get_other,g4, g6, g7, g2]; first|done|exact rfl)) (by first|assumption|rfl|(simp only [zI,zJ,HV.cells,g4, g6, g7, g2]; exact rfl)) ?_
     | refine r_box (by simp (disch:=first|decide|(simp only[zF,zG,g4, g6, g7, g2];decide)) only [zA,zB,zC,zD,zE,zF,zG,zH,zI,zJ,zK,HV.cells,g4, g6, g7, g2]; try exact rfl) ?_
     | refine r_alloc ?_
     | refine r_st (cs' := _) (by simp (disch:=first|decide|(simp only[zF,zG,g4, g6, g7, g2];decide)) only [zA,zB,zC,zD,zE,zF,zG,zH,zI,zJ,zK,HV.cells,g4, g6, g7, g2]; try exact rfl) (by simp (disch:=first|decide|(simp only[zF,zG,g4, g6, g7, g2];decide)) only [zA,zB,zC,zD,zE,zF,zG,zH,zI,zJ,zK,HV.cells,g4, g6, g7, g2]; try exact rfl) (by first|assumption|(simp (disch:=omega) only [get_same,get_other,g4, g6, g7, g2]; first|done|exact rfl)) (by exact True.intro) (by rfl) (by rfl) (by first|assumption|rfl|(simp only [zI,zJ,HV.cells,g4, g6, g7, g2]; exact rfl)) (by omega) ?_
     | refine r_add (by simp (disch:=first|decide|(simp only[zF,zG,g4, g6, g7, g2];decide)) only [zA,zB,zC,zD,zE,zF,zG,zH,zI,zJ,zK,HV.cells,g4, g6, g7, g2]; try exact rfl) (by simp (disch:=first|decide|(simp only[zF,zG,g4, g6, g7, g2];decide)) only [zA,zB,zC,zD,zE,zF,zG,zH,zI,zJ,zK,HV.cells,g4, g6, g7, g2]; try exact rfl) (by omega) (by omega) ?_
     | refine r_lss (by simp (disch:=first|decide|(simp only[zF,zG,g4, g6, g7, g2];decide)) only [zA,zB,zC,zD,zE,zF,zG,zH,zI,zJ,zK,HV.cells,g4, g6, g7, g2]; try exact rfl) (by simp (disch:=first|decide|(simp only[zF,zG,g4, g6, g7, g2];decide)) only [zA,zB,zC,zD,zE,zF,zG,zH,zI,zJ,zK,HV.cells,g4, g6, g7, g2]; try exact rfl) (fun hc => ?_) (fun hc => ?_) <;> (try (exfalso; omega))
     | refine r_not1 (by simp (disch:=first|decide|(simp only[zF,zG,g4, g6, g7, g2];decide)) only [zA,zB,zC,zD,zE,zF,zG,zH,zI,zJ,zK,HV.cells,g4, g6, g7, g2]; try exact rfl) ?_
     | refine r_len (by simp (disch:=first|decide|(simp only[zF,zG,g4, g6, g7, g2];decide)) only [zA,zB,zC,zD,zE,zF,zG,zH,zI,zJ,zK,HV.cells,g4, g6, g7, g2]; try exact rfl) ?_
     | refine r_ixs (by simp (disch:=first|decide|(simp only[zF,zG,g4, g6, g7, g2];decide)) only [zA,zB,zC,zD,zE,zF,zG,zH,zI,zJ,zK,HV.cells,g4, g6, g7, g2]; try exact rfl) (by simp (disch:=first|decide|(simp only[zF,zG,g4, g6, g7, g2];decide)) only [zA,zB,zC,zD,zE,zF,zG,zH,zI,zJ,zK,HV.cells,g4, g6, g7, g2]; try exact rfl) (by omega) ?_
     | refine r_ext (by simp (disch:=first|decide|(simp only[zF,zG,g4, g6, g7, g2];decide)) only [zA,zB,zC,zD,zE,zF,zG,zH,zI,zJ,zK,HV.cells,g4, g6, g7, g2]; try exact rfl) (by first|assumption|rfl|(simp only [zI,zJ,HV.cells,g4, g6, g7, g2]; exact rfl)) ?_
     | refine r_build (by simp (disch:=first|decide|(simp only[zF,zG,g4, g6, g7, g2];decide)) only [evParts,List.map_cons,List.map_nil,List.nil_append,List.cons_append,List.append_nil,zA,zB,zC,zD,zE,zF,zG,zH,zI,zJ,zK,HV.cells,g4, g6, g7, g2]; try exact rfl) ?_
     | refine r_mm ?_
     | fail
    refine fin_m (by simp only [zL, g5]) (res_c (by simp (disch:=first|decide|(simp only[zF,zG,g4, g6];decide)) only [zA,zB,zC,zD,zE,zF,zG,zH,zI,zJ,zK,HV.cells,g4, g6]; try exact rfl) g2 tk_z (res_t (by simp (disch:=first|decide|(simp only[zF,zG,g4, g7];decide)) only [zA,zB,zC,zD,zE,zF,zG,zH,zI,zJ,zK,HV.cells,g4, g7]; try exact rfl) res_nil)) (sc_flat ?_ (by dsimp only; omega) ?_)
    · rw [e]; exact flat_withO t none
    · rw [e]; rfl
end Go.Hx

/- Layer 1: what a closed matrix says of heights: just what all threads allow. -/
namespace Go.Hx
/-- Heights that a matrix allows. -/
def Feas (n : Nat) (M : Mx) (H : Nat → Int) : Prop := ∀ i j, i ≤ n → j ≤ n → H j - H i ≤ M i j
/-- Is a reading right, by heights? -/
def RightC (n : Nat) (r : Rd) (H : Nat → Int) : Prop := H r.g.toNat - H r.f.toNat ≤ r.hi ∧ (r.g.toNat < n → H r.f.toNat - H (r.g.toNat + 1) ≤ -r.lo - 1)
theorem feas_lim {n f g : Nat} {m : Int} {M : Mx} {H : Nat → Int} (h : Good n M) (hf : f ≤ n) (hg : g ≤ n) : Feas n (limM n f g m M) H ↔ Feas n M H ∧ H g - H f ≤ m := by
  have e : ∀ i j, i ≤ n → j ≤ n → limM n f g m M i j = min (M i j) (M i f + m + M g j) := fun i j hi hj => by
    unfold limM; rw [if_pos ⟨hi, hj⟩]
  constructor
  · intro hF
    refine ⟨fun i j hi hj => ?_, ?_⟩
    · have := hF i j hi hj
      rw [e i j hi hj] at this
      omega
    · have := hF f g hf hg
      rw [e f g hf hg, h.dg f hf, h.dg g hg] at this
      omega
  · rintro ⟨hF, hm⟩ i j hi hj
    rw [e i j hi hj]
    have := hF i j hi hj
    have := hF i f hi hf
    have := hF g j hg hj
    omega
theorem withM_feas {n : Nat} {r : Rd} {M M' : Mx} {H : Nat → Int} (h : Good n M) (hr : RdOk2 n r) (hw : withM n r M = some M') : Feas n M' H ↔ Feas n M H ∧ RightC n r H := by
  unfold RdOk2 at hr
  unfold withM at hw
  unfold RightC
  split at hw
  · rename_i h1
    have g1 := good_lim h (f := r.f.toNat) (g := r.g.toNat) (by omega) (by omega) h1
    split at hw
    · rename_i h2
      split at hw
      · cases hw
        rw [feas_lim g1 (by omega) (by omega), feas_lim h (by omega) (by omega)]
        constructor
        · rintro ⟨⟨a, b⟩, c⟩; exact ⟨a, b, fun _ => c⟩
        · rintro ⟨a, b, c⟩; exact ⟨⟨a, b⟩, c h2⟩
      · cases hw
    · rename_i h2
      cases hw
      rw [feas_lim h (by omega) (by omega)]
      constructor
      · rintro ⟨a, b⟩; exact ⟨a, b, fun h3 => absurd h3 h2⟩
      · rintro ⟨a, b, _⟩; exact ⟨a, b⟩
  · cases hw
theorem withM_none {n : Nat} {r : Rd} {M : Mx} {H : Nat → Int} (h : Good n M) (hr : RdOk2 n r) (hw : withM n r M = none) : ¬ (Feas n M H ∧ RightC n r H) := by
  unfold RdOk2 at hr
  unfold withM at hw
  rintro ⟨hF, hR⟩
  unfold RightC at hR
  split at hw
  · split at hw
    · rename_i h2
      split at hw
      · cases hw
      · rename_i h3
        have hF1 : Feas n (limM n r.f.toNat r.g.toNat r.hi M) H := (feas_lim h (by omega) (by omega)).2 ⟨hF, hR.1⟩
        have h4 := hF1 r.f.toNat (r.g.toNat + 1) (by omega) (by omega)
        have h5 := hR.2 h2
        generalize limM n r.f.toNat r.g.toNat r.hi M r.f.toNat (r.g.toNat + 1) = z at h3 h4
        omega
    · cases hw
  · rename_i h1
    have := hF r.g.toNat r.f.toNat (by omega) (by omega)
    omega
theorem readGo_feas {n : Nat} {H : Nat → Int} : ∀ (l seen : List Rd) (M M' : Mx), (∀ r ∈ l, RdOk2 n r) → Good n M → (∀ r ∈ seen, Feas n M H → RightC n r H) → readGo n seen l M = some M' → (Feas n M' H ↔ Feas n M H ∧ ∀ r ∈ l, RightC n r H)
  | [], seen, M, M', _, _, _, h => by cases h; exact ⟨fun h => ⟨h, fun r hr => by cases hr⟩, fun h => h.1⟩
  | r :: rs, seen, M, M', hl, hG, hs, h => by
    unfold readGo at h
    have hrs : ∀ x ∈ rs, RdOk2 n x := fun x hx => hl x (List.mem_cons_of_mem _ hx)
    split at h
    · rename_i hin
      rw [readGo_feas rs seen M M' hrs hG hs h]
      constructor
      · rintro ⟨a, b⟩
        refine ⟨a, fun x hx => ?_⟩
        rcases List.mem_cons.1 hx with e | e
        · rw [e]; exact hs r hin a
        · exact b x e
      · rintro ⟨a, b⟩; exact ⟨a, fun x hx => b x (List.mem_cons_of_mem _ hx)⟩
    · split at h
      · rename_i M1 h1
        have hr := hl r (List.mem_cons_self ..)
        have hG1 := withM_good hG hr h1
        have e1 := withM_feas (H := H) hG hr h1
        rw [readGo_feas rs _ M1 M' hrs hG1 (fun x hx hF => ?_) h, e1]
        · constructor
          · rintro ⟨⟨a, b⟩, c⟩
            refine ⟨a, fun x hx => ?_⟩
            rcases List.mem_cons.1 hx with e | e
            · rw [e]; exact b
            · exact c x e
          · rintro ⟨a, b⟩; exact ⟨⟨a, b r (List.mem_cons_self ..)⟩, fun x hx => b x (List.mem_cons_of_mem _ hx)⟩
        · rcases List.mem_append.1 hx with e | e
          · exact hs x e (e1.1 hF).1
          · simp at e; rw [e]; exact (e1.1 hF).2
      · cases h
theorem readGo_none {n : Nat} {H : Nat → Int} : ∀ (l seen : List Rd) (M : Mx), (∀ r ∈ l, RdOk2 n r) → Good n M → readGo n seen l M = none → ¬ (Feas n M H ∧ ∀ r ∈ l, RightC n r H)
  | [], seen, M, _, _, h => by cases h
  | r :: rs, seen, M, hl, hG, h => by
    unfold readGo at h
    have hrs : ∀ x ∈ rs, RdOk2 n x := fun x hx => hl x (List.mem_cons_of_mem _ hx)
    rintro ⟨a, b⟩
    split at h
    · exact readGo_none rs seen M hrs hG h ⟨a, fun x hx => b x (List.mem_cons_of_mem _ hx)⟩
    · split at h
      · rename_i M1 h1
        have hr := hl r (List.mem_cons_self ..)
        exact readGo_none rs _ M1 hrs (withM_good hG hr h1) h ⟨(withM_feas hG hr h1).2 ⟨a, b r (List.mem_cons_self ..)⟩, fun x hx => b x (List.mem_cons_of_mem _ hx)⟩
      · rename_i h1
        exact withM_none hG (hl r (List.mem_cons_self ..)) h1 ⟨a, b r (List.mem_cons_self ..)⟩
/-- All marks as high as they can be, and all as low. -/
theorem feas_hi {n : Nat} {M : Mx} (h : Good n M) : Feas n M (fun i => M 0 i) := fun i j hi hj => by
  have := h.tri 0 i j (Nat.zero_le _) hi hj
  show M 0 j - M 0 i ≤ _
  omega
theorem feas_lo {n : Nat} {M : Mx} (h : Good n M) : Feas n M (fun i => -(M i 0)) := fun i j hi hj => by
  have := h.tri i j 0 hi hj (Nat.zero_le _)
  show -(M j 0) - -(M i 0) ≤ _
  omega
end Go.Hx

/- What is kept behind a call of lists that it hands back, whoever has laid them. -/
namespace Go.Hx
theorem keepV_has {h1 : Tr HBlk} {nx b : Nat} {k : List HV → Tr HBlk → Tr HBlk} (hk : ∀ vs h, h.get b = h1.get b → (k vs h).get b = h1.get b) {h : Tr HBlk} (hb : h.get b = h1.get b) (v : HV) : (keepV h1 nx k h v).get b = h1.get b := by
  have put : ∀ (c : Nat) (x : HBlk), h1.get c = some x → (h.set c (some x)).get b = h1.get b := fun c x hx => by
    rw [Tr.get_set]
    by_cases e : b = c
    · rw [if_pos e, e, hx]
    · rw [if_neg e]; exact hb
  unfold keepV
  split
  · rename_i c _ _ _
    cases Nat.blt c nx with
    | true => exact hb
    | false =>
      simp only [cond_false]
      split
      · rename_i hg; exact hk _ _ (put _ _ hg)
      · exact hb
  · rename_i c _
    cases Nat.blt c nx with
    | true => exact hb
    | false =>
      simp only [cond_false]
      split
      · rename_i hg; exact hk _ _ (put _ _ hg)
      · exact hb
  · rename_i c
    cases Nat.blt c nx with
    | true => exact hb
    | false =>
      simp only [cond_false]
      split
      · rename_i hg; exact hk _ _ (put _ _ hg)
      · exact hb
  · exact hk _ _ hb
  · exact hk _ _ hb
  · exact hk _ _ hb
  · exact hb
theorem keepD_has {h1 : Tr HBlk} {nx b : Nat} : ∀ (d : Nat) (vs : List HV) (h : Tr HBlk), h.get b = h1.get b → (keepD h1 nx d vs h).get b = h1.get b
  | 0, vs, h, hb => hb
  | d + 1, [], h, hb => hb
  | d + 1, v :: vs, h, hb => by
    unfold keepD
    rw [List.foldl_cons]
    exact keepD_has (d + 1) vs _ (keepV_has (keepD_has d) hb v)
theorem keepV_first {h1 h : Tr HBlk} {nx b o n c d : Nat} {cs : List HV} {bk : BK} (hg : h1.get b = some (.cells cs bk)) (hs : b < nx → h.get b = h1.get b) : (keepV h1 nx (keepD h1 nx d) h (.slice (some (b, o)) n c)).get b = h1.get b := by
  show (bif Nat.blt b nx then h else (match h1.get b with | some (.cells cs bk) => keepD h1 nx d cs (h.set b (some (.cells cs bk))) | _ => h)).get b = _
  cases e : Nat.blt b nx with
  | true => rw [Nat.blt_eq] at e; exact hs e
  | false =>
    simp only [cond_false, hg]
    rw [← hg]
    exact keepD_has d cs _ (by rw [get_same])
theorem gc_ext {h0 h : Tr HBlk} {n0 nx : Nat} (hd0 : D h0 n0) (e : Ext h0 n0 h nx) (v : HV) : ∃ h', gcH ⟨h0, n0⟩ ⟨h, nx⟩ v = ⟨h', nx⟩ ∧ Ext h0 n0 h' nx := by
  refine ⟨_, rfl, e.le, ?_, fun b hb => ((kept_d h n0 5 [v] h0) b).1 hb⟩
  have hd := e.d
  have hle := e.le
  unfold D at hd hd0 ⊢
  intro b hb
  cases hx : (keepD h n0 5 [v] h0).get b with
  | none => rfl
  | some x =>
    rcases ((kept_d h n0 5 [v] h0) b).2 x hx with h1 | h1
    · rw [hd0 b (by omega)] at h1; cases h1
    · rw [hd b hb] at h1; cases h1.2
/-- A list in front of what is handed back. -/
theorem gc_tup {α : Type} {enc : α → List HV} {sz : Nat} {h0 h : Tr HBlk} {n0 nx : Nat} {p : Option (Nat × Nat)} {n c : Nat} {rest : List HV} {l : List α} (hd0 : D h0 n0) (e : Ext h0 n0 h nx) (hr : Row enc sz h nx p l) :
    ∃ h', gcH ⟨h0, n0⟩ ⟨h, nx⟩ (.tuple (.slice p n c :: rest)) = ⟨h', nx⟩ ∧ Ext h0 n0 h' nx ∧ Row enc sz h' nx p l := by
  obtain ⟨h', h1, h2⟩ := gc_ext hd0 e (.tuple (.slice p n c :: rest))
  refine ⟨h', h1, h2, fun hne => ?_⟩
  obtain ⟨b, o, cs, k, rfl, hb, hg, hc⟩ := hr hne
  refine ⟨b, o, cs, k, rfl, hb, ?_, hc⟩
  have e1 : h' = keepD h n0 5 [.tuple (.slice (some (b, o)) n c :: rest)] h0 := by
    have : (⟨h', nx⟩ : HS).h = (gcH ⟨h0, n0⟩ ⟨h, nx⟩ (.tuple (.slice (some (b, o)) n c :: rest))).h := by rw [h1]
    exact this
  rw [e1, ← hg]
  show (keepD h n0 4 (.slice (some (b, o)) n c :: rest) h0).get b = _
  unfold keepD
  rw [List.foldl_cons]
  exact keepD_has 4 rest _ (keepV_first hg fun hlt => (e.same b hlt).symm)
end Go.Hx

namespace Go.Hx
set_option linter.unusedSimpArgs false
set_option linter.unusedVariables false
set_option maxRecDepth 20000
set_option maxHeartbeats 4000000
attribute [local irreducible] W R C thenH inBlockH
/-- What 'readFor' hands back. -/
noncomputable def forO (t : Tb) (n : Nat) (l : List Rd) (ok : Bool) : HV :=
  if errOf t.c t.t t.a t.b l = 0 then
    if ok = true then
      match readO t n l with
      | some M => .tuple [.agg (bcells t M), i64 0]
      | none => .tuple [.agg (Zr 125), i64 9]
    else .tuple [.agg (Zr 125), i64 2]
  else .tuple [.agg (Zr 125), i64 (errOf t.c t.t t.a t.b l)]
theorem flat_bc2 (t : Tb) (M : Mx) (e : Int) : flatV (.tuple [.agg (bcells t M), i64 e]) = true := by show ((bcells t M).all flat1 && (true && true)) = true; rw [bc_flat]; rfl
theorem flat_z2 (e : Int) : flatV (.tuple [.agg (Zr 125), i64 e]) = true := by show ((Zr 125).all flat1 && (true && true)) = true; rw [zr_flat]; rfl
/- 72 -/
theorem c_readFor {fl : Nat} {h : Tr HBlk} {nx : Nat} (hd : D h nx) {t : Tb} {n : Nat} {p : Option (Nat × Nat)} {l : List Rd} {m cp : Nat} {ok : Bool} (htc : TubeOk t.c t.t t.a t.b → t.c = n) (hm : m = l.length) (hlen : l.length < 1000000) (hrow : Row Rd.enc 4 h nx p l) :
    C LW fl 72 [.agg t.cells, .slice p m cp, .bool ok] ⟨h, nx⟩ (Sc (· = forO t n l ok) ⟨h, nx⟩) := by
  subst hm
  have tk : takeN 4 (t.cells.drop 0) = some t.cells := rfl
  have owz : overwrite (Zr 125) 0 (HV.agg (Zr 125)).cells = some (Zr 125) := ow_all _ _ rfl
  have cC : ∀ fl h' n', Ext h nx h' n' → C LW fl 64 [.agg t.cells, .slice p l.length cp] ⟨h', n'⟩ (Sc (· = i64 (errOf t.c t.t t.a t.b l)) ⟨h', n'⟩) := fun fl h' n' e => c_check e.d rfl (by omega) (hrow.ext e)
  refine c_in lw72 rfl rfl rfl ?_
  dsimp only [L72]
  by_cases hE : errOf t.c t.t t.a t.b l = 0
  · obtain ⟨hT, hL, hR⟩ := errOf_zero hE
    have cC1 : ∀ fl h' n', Ext h nx h' n' → C LW fl 64 [.agg t.cells, .slice p l.length cp] ⟨h', n'⟩ (Sc (· = i64 0) ⟨h', n'⟩) := fun fl h' n' e => by have := cC fl h' n' e; rwa [hE] at this
    cases ok with
    | false =>
      repeat' first
       | refine r_nil ?_
       | refine th_n ?_
       | refine th_r ?_
       | refine w_seq ?_
       | refine w_reg ?_
       | refine w_ret ?_
       | refine w_skip ?_
       | refine w_t (by simp (disch:=first|decide|(simp only[zF,zG];decide)) only [zA,zB,zC,zD,zE,zF,zG,zH,zI,zJ,zK,HV.cells]; first|done|exact rfl) ?_
       | refine w_f (by simp (disch:=first|decide|(simp only[zF,zG];decide)) only [zA,zB,zC,zD,zE,zF,zG,zH,zI,zJ,zK,HV.cells]; first|done|exact rfl) ?_
       | refine r_move (by simp (disch:=first|decide|(simp only[zF,zG];decide)) only [zA,zB,zC,zD,zE,zF,zG,zH,zI,zJ,zK,HV.cells]; try exact rfl) ?_
       | refine r_ldn (by simp (disch:=first|decide|(simp only[zF,zG];decide)) only [zA,zB,zC,zD,zE,zF,zG,zH,zI,zJ,zK,HV.cells]; try exact rfl) (by first|assumption|(simp (disch:=omega) only [get_same,get_other]; first|done|exact rfl)) (by first|assumption|rfl|(simp only [zI,zJ,HV.cells]; exact rfl)) ?_
       | refine r_box (by simp (disch:=first|decide|(simp only[zF,zG];decide)) only [zA,zB,zC,zD,zE,zF,zG,zH,zI,zJ,zK,HV.cells]; try exact rfl) ?_
       | refine r_alloc ?_
       | refine r_st (cs' := _) (by simp (disch:=first|decide|(simp only[zF,zG];decide)) only [zA,zB,zC,zD,zE,zF,zG,zH,zI,zJ,zK,HV.cells]; try exact rfl) (by simp (disch:=first|decide|(simp only[zF,zG];decide)) only [zA,zB,zC,zD,zE,zF,zG,zH,zI,zJ,zK,HV.cells]; try exact rfl) (by first|assumption|(simp (disch:=omega) only [get_same,get_other]; first|done|exact rfl)) (by exact True.intro) (by rfl) (by rfl) (by first|assumption|rfl|(simp only [zI,zJ,HV.cells]; exact rfl)) (by omega) ?_
       | refine r_eq (by simp (disch:=first|decide|(simp only[zF,zG];decide)) only [zA,zB,zC,zD,zE,zF,zG,zH,zI,zJ,zK,HV.cells]; try exact rfl) (by simp (disch:=first|decide|(simp only[zF,zG];decide)) only [zA,zB,zC,zD,zE,zF,zG,zH,zI,zJ,zK,HV.cells]; try exact rfl) (fun hc => ?_) (fun hc => ?_) <;> (try (exfalso; omega))
       | refine r_ne (by simp (disch:=first|decide|(simp only[zF,zG];decide)) only [zA,zB,zC,zD,zE,zF,zG,zH,zI,zJ,zK,HV.cells]; try exact rfl) (by simp (disch:=first|decide|(simp only[zF,zG];decide)) only [zA,zB,zC,zD,zE,zF,zG,zH,zI,zJ,zK,HV.cells]; try exact rfl) (fun hc => ?_) (fun hc => ?_) <;> (try (exfalso; omega))
       | refine r_eqb (by simp (disch:=first|decide|(simp only[zF,zG];decide)) only [zA,zB,zC,zD,zE,zF,zG,zH,zI,zJ,zK,HV.cells]; try exact rfl) (by simp (disch:=first|decide|(simp only[zF,zG];decide)) only [zA,zB,zC,zD,zE,zF,zG,zH,zI,zJ,zK,HV.cells]; try exact rfl) ?_
       | refine r_not1 (by simp (disch:=first|decide|(simp only[zF,zG];decide)) only [zA,zB,zC,zD,zE,zF,zG,zH,zI,zJ,zK,HV.cells]; try exact rfl) ?_
       | refine r_ext (by simp (disch:=first|decide|(simp only[zF,zG];decide)) only [zA,zB,zC,zD,zE,zF,zG,zH,zI,zJ,zK,HV.cells]; try exact rfl) (by first|assumption|rfl|(simp only [zI,zJ,HV.cells]; exact rfl)) ?_
       | refine r_build (by simp (disch:=first|decide|(simp only[zF,zG];decide)) only [evParts,List.map_cons,List.map_nil,List.nil_append,List.cons_append,List.append_nil,zA,zB,zC,zD,zE,zF,zG,zH,zI,zJ,zK,HV.cells]; try exact rfl) ?_
       | refine r_calls (by simp (disch:=first|decide|(simp only[zF,zG];decide)) only [zA,zB,zC,zD,zE,zF,zG,zH,zI,zJ,zK,HV.cells]; try exact rfl) (by simp (disch:=first|decide|(simp only[zF,zG];decide)) only [List.map_cons,List.map_nil,List.nil_append,List.cons_append,List.append_nil,zA,zB,zC,zD,zE,zF,zG,zH,zI,zJ,zK,HV.cells]; try exact rfl) (cC1 _ _ _ (by repeat' first|assumption|refine Ext.put ?_ (by omega) (by omega)|exact Ext.up (by assumption) (by omega)|exact Ext.nx (by assumption) (by omega))) (fun n' hn' => ?_)
       | fail
      refine fin_m (by simp only [zL,zM]) (res_c (by simp (disch:=first|decide|(simp only[zF,zG];decide)) only [zA,zB,zC,zD,zE,zF,zG,zH,zI,zJ,zK,HV.cells]; try exact rfl) (by first|assumption|(simp (disch:=omega) only [get_same,get_other]; first|done|exact rfl)) tk_z (res_t (by simp (disch:=first|decide|(simp only[zF,zG];decide)) only [zA,zB,zC,zD,zE,zF,zG,zH,zI,zJ,zK,HV.cells]; try exact rfl) res_nil)) (sc_flat ?_ (by dsimp only; omega) ?_)
      · unfold forO; rw [if_pos hE, if_neg (by simp)]; exact flat_z2 2
      · unfold forO; rw [if_pos hE, if_neg (by simp)]; rfl
    | true =>
      have cR : ∀ fl h' n', Ext h nx h' n' → C LW fl 89 [.agg t.cells, .slice p l.length cp] ⟨h', n'⟩ (Sc (· = withO t (readO t n l)) ⟨h', n'⟩) := fun fl h' n' e => c_read e.d (htc hT) hT rfl hlen hR (hrow.ext e)
      cases hO : readO t n l with
      | none =>
        have cR1 : ∀ fl h' n', Ext h nx h' n' → C LW fl 89 [.agg t.cells, .slice p l.length cp] ⟨h', n'⟩ (Sc (· = .tuple [.agg (Zr 125), .bool false]) ⟨h', n'⟩) := fun fl h' n' e => by have := cR fl h' n' e; rw [hO] at this; exact this
        repeat' first
         | refine r_nil ?_
         | refine th_n ?_
         | refine th_r ?_
         | refine w_seq ?_
         | refine w_reg ?_
         | refine w_ret ?_
         | refine w_skip ?_
         | refine w_t (by simp (disch:=first|decide|(simp only[zF,zG];decide)) only [zA,zB,zC,zD,zE,zF,zG,zH,zI,zJ,zK,HV.cells]; first|done|exact rfl) ?_
         | refine w_f (by simp (disch:=first|decide|(simp only[zF,zG];decide)) only [zA,zB,zC,zD,zE,zF,zG,zH,zI,zJ,zK,HV.cells]; first|done|exact rfl) ?_
         | refine r_move (by simp (disch:=first|decide|(simp only[zF,zG];decide)) only [zA,zB,zC,zD,zE,zF,zG,zH,zI,zJ,zK,HV.cells]; try exact rfl) ?_
         | refine r_ldn (by simp (disch:=first|decide|(simp only[zF,zG];decide)) only [zA,zB,zC,zD,zE,zF,zG,zH,zI,zJ,zK,HV.cells]; try exact rfl) (by first|assumption|(simp (disch:=omega) only [get_same,get_other]; first|done|exact rfl)) (by first|assumption|rfl|(simp only [zI,zJ,HV.cells]; exact rfl)) ?_
         | refine r_box (by simp (disch:=first|decide|(simp only[zF,zG];decide)) only [zA,zB,zC,zD,zE,zF,zG,zH,zI,zJ,zK,HV.cells]; try exact rfl) ?_
         | refine r_alloc ?_
         | refine r_st (cs' := _) (by simp (disch:=first|decide|(simp only[zF,zG];decide)) only [zA,zB,zC,zD,zE,zF,zG,zH,zI,zJ,zK,HV.cells]; try exact rfl) (by simp (disch:=first|decide|(simp only[zF,zG];decide)) only [zA,zB,zC,zD,zE,zF,zG,zH,zI,zJ,zK,HV.cells]; try exact rfl) (by first|assumption|(simp (disch:=omega) only [get_same,get_other]; first|done|exact rfl)) (by exact True.intro) (by rfl) (by rfl) (by first|assumption|rfl|(simp only [zI,zJ,HV.cells]; exact rfl)) (by omega) ?_
         | refine r_eq (by simp (disch:=first|decide|(simp only[zF,zG];decide)) only [zA,zB,zC,zD,zE,zF,zG,zH,zI,zJ,zK,HV.cells]; try exact rfl) (by simp (disch:=first|decide|(simp only[zF,zG];decide)) only [zA,zB,zC,zD,zE,zF,zG,zH,zI,zJ,zK,HV.cells]; try exact rfl) (fun hc => ?_) (fun hc => ?_) <;> (try (exfalso; omega))
         | refine r_ne (by simp (disch:=first|decide|(simp only[zF,zG];decide)) only [zA,zB,zC,zD,zE,zF,zG,zH,zI,zJ,zK,HV.cells]; try exact rfl) (by simp (disch:=first|decide|(simp only[zF,zG];decide)) only [zA,zB,zC,zD,zE,zF,zG,zH,zI,zJ,zK,HV.cells]; try exact rfl) (fun hc => ?_) (fun hc => ?_) <;> (try (exfalso; omega))
         | refine r_eqb (by simp (disch:=first|decide|(simp only[zF,zG];decide)) only [zA,zB,zC,zD,zE,zF,zG,zH,zI,zJ,zK,HV.cells]; try exact rfl) (by simp (disch:=first|decide|(simp only[zF,zG];decide)) only [zA,zB,zC,zD,zE,zF,zG,zH,zI,zJ,zK,HV.cells]; try exact rfl) ?_
         | refine r_not1 (by simp (disch:=first|decide|(simp only[zF,zG];decide)) only [zA,zB,zC,zD,zE,zF,zG,zH,zI,zJ,zK,HV.cells]; try exact rfl) ?_
         | refine r_ext (by simp (disch:=first|decide|(simp only[zF,zG];decide)) only [zA,zB,zC,zD,zE,zF,zG,zH,zI,zJ,zK,HV.cells]; try exact rfl) (by first|assumption|rfl|(simp only [zI,zJ,HV.cells]; exact rfl)) ?_
         | refine r_build (by simp (disch:=first|decide|(simp only[zF,zG];decide)) only [evParts,List.map_cons,List.map_nil,List.nil_append,List.cons_append,List.append_nil,zA,zB,zC,zD,zE,zF,zG,zH,zI,zJ,zK,HV.cells]; try exact rfl) ?_
         | refine r_calls (by simp (disch:=first|decide|(simp only[zF,zG];decide)) only [zA,zB,zC,zD,zE,zF,zG,zH,zI,zJ,zK,HV.cells]; try exact rfl) (by simp (disch:=first|decide|(simp only[zF,zG];decide)) only [List.map_cons,List.map_nil,List.nil_append,List.cons_append,List.append_nil,zA,zB,zC,zD,zE,zF,zG,zH,zI,zJ,zK,HV.cells]; try exact rfl) (cC1 _ _ _ (by repeat' first|assumption|refine Ext.put ?_ (by omega) (by omega)|exact Ext.up (by assumption) (by omega)|exact Ext.nx (by assumption) (by omega))) (fun n' hn' => ?_)
         | refine r_calls (by simp (disch:=first|decide|(simp only[zF,zG];decide)) only [zA,zB,zC,zD,zE,zF,zG,zH,zI,zJ,zK,HV.cells]; try exact rfl) (by simp (disch:=first|decide|(simp only[zF,zG];decide)) only [List.map_cons,List.map_nil,List.nil_append,List.cons_append,List.append_nil,zA,zB,zC,zD,zE,zF,zG,zH,zI,zJ,zK,HV.cells]; try exact rfl) (cR1 _ _ _ (by repeat' first|assumption|refine Ext.put ?_ (by omega) (by omega)|exact Ext.up (by assumption) (by omega)|exact Ext.nx (by assumption) (by omega))) (fun n' hn' => ?_)
         | fail
        refine fin_m (by simp only [zL,zM]) (res_c (by simp (disch:=first|decide|(simp only[zF,zG];decide)) only [zA,zB,zC,zD,zE,zF,zG,zH,zI,zJ,zK,HV.cells]; try exact rfl) (by first|assumption|(simp (disch:=omega) only [get_same,get_other]; first|done|exact rfl)) tk_z (res_t (by simp (disch:=first|decide|(simp only[zF,zG];decide)) only [zA,zB,zC,zD,zE,zF,zG,zH,zI,zJ,zK,HV.cells]; try exact rfl) res_nil)) (sc_flat ?_ (by dsimp only; omega) ?_)
        · unfold forO; rw [if_pos hE, if_pos rfl, hO]; exact flat_z2 9
        · unfold forO; rw [if_pos hE, if_pos rfl, hO]; rfl
      | some M =>
        have tkb := take_bc t M
        have owb := ow_bc t M
        have cR1 : ∀ fl h' n', Ext h nx h' n' → C LW fl 89 [.agg t.cells, .slice p l.length cp] ⟨h', n'⟩ (Sc (· = .tuple [.agg (bcells t M), .bool true]) ⟨h', n'⟩) := fun fl h' n' e => by have := cR fl h' n' e; rw [hO] at this; exact this
        repeat' first
         | refine r_nil ?_
         | refine th_n ?_
         | refine th_r ?_
         | refine w_seq ?_
         | refine w_reg ?_
         | refine w_ret ?_
         | refine w_skip ?_
         | refine w_t (by simp (disch:=first|decide|(simp only[zF,zG];decide)) only [zA,zB,zC,zD,zE,zF,zG,zH,zI,zJ,zK,HV.cells]; first|done|exact rfl) ?_
         | refine w_f (by simp (disch:=first|decide|(simp only[zF,zG];decide)) only [zA,zB,zC,zD,zE,zF,zG,zH,zI,zJ,zK,HV.cells]; first|done|exact rfl) ?_
         | refine r_move (by simp (disch:=first|decide|(simp only[zF,zG];decide)) only [zA,zB,zC,zD,zE,zF,zG,zH,zI,zJ,zK,HV.cells]; try exact rfl) ?_
         | refine r_ldn (by simp (disch:=first|decide|(simp only[zF,zG];decide)) only [zA,zB,zC,zD,zE,zF,zG,zH,zI,zJ,zK,HV.cells]; try exact rfl) (by first|assumption|(simp (disch:=omega) only [get_same,get_other]; first|done|exact rfl)) (by first|assumption|rfl|(simp only [zI,zJ,HV.cells]; exact rfl)) ?_
         | refine r_box (by simp (disch:=first|decide|(simp only[zF,zG];decide)) only [zA,zB,zC,zD,zE,zF,zG,zH,zI,zJ,zK,HV.cells]; try exact rfl) ?_
         | refine r_alloc ?_
         | refine r_st (cs' := _) (by simp (disch:=first|decide|(simp only[zF,zG];decide)) only [zA,zB,zC,zD,zE,zF,zG,zH,zI,zJ,zK,HV.cells]; try exact rfl) (by simp (disch:=first|decide|(simp only[zF,zG];decide)) only [zA,zB,zC,zD,zE,zF,zG,zH,zI,zJ,zK,HV.cells]; try exact rfl) (by first|assumption|(simp (disch:=omega) only [get_same,get_other]; first|done|exact rfl)) (by exact True.intro) (by rfl) (by rfl) (by first|assumption|rfl|(simp only [zI,zJ,HV.cells]; exact rfl)) (by omega) ?_
         | refine r_eq (by simp (disch:=first|decide|(simp only[zF,zG];decide)) only [zA,zB,zC,zD,zE,zF,zG,zH,zI,zJ,zK,HV.cells]; try exact rfl) (by simp (disch:=first|decide|(simp only[zF,zG];decide)) only [zA,zB,zC,zD,zE,zF,zG,zH,zI,zJ,zK,HV.cells]; try exact rfl) (fun hc => ?_) (fun hc => ?_) <;> (try (exfalso; omega))
         | refine r_ne (by simp (disch:=first|decide|(simp only[zF,zG];decide)) only [zA,zB,zC,zD,zE,zF,zG,zH,zI,zJ,zK,HV.cells]; try exact rfl) (by simp (disch:=first|decide|(simp only[zF,zG];decide)) only [zA,zB,zC,zD,zE,zF,zG,zH,zI,zJ,zK,HV.cells]; try exact rfl) (fun hc => ?_) (fun hc => ?_) <;> (try (exfalso; omega))
         | refine r_eqb (by simp (disch:=first|decide|(simp only[zF,zG];decide)) only [zA,zB,zC,zD,zE,zF,zG,zH,zI,zJ,zK,HV.cells]; try exact rfl) (by simp (disch:=first|decide|(simp only[zF,zG];decide)) only [zA,zB,zC,zD,zE,zF,zG,zH,zI,zJ,zK,HV.cells]; try exact rfl) ?_
         | refine r_not1 (by simp (disch:=first|decide|(simp only[zF,zG];decide)) only [zA,zB,zC,zD,zE,zF,zG,zH,zI,zJ,zK,HV.cells]; try exact rfl) ?_
         | refine r_ext (by simp (disch:=first|decide|(simp only[zF,zG];decide)) only [zA,zB,zC,zD,zE,zF,zG,zH,zI,zJ,zK,HV.cells]; try exact rfl) (by first|assumption|rfl|(simp only [zI,zJ,HV.cells]; exact rfl)) ?_
         | refine r_build (by simp (disch:=first|decide|(simp only[zF,zG];decide)) only [evParts,List.map_cons,List.map_nil,List.nil_append,List.cons_append,List.append_nil,zA,zB,zC,zD,zE,zF,zG,zH,zI,zJ,zK,HV.cells]; try exact rfl) ?_
         | refine r_calls (by simp (disch:=first|decide|(simp only[zF,zG];decide)) only [zA,zB,zC,zD,zE,zF,zG,zH,zI,zJ,zK,HV.cells]; try exact rfl) (by simp (disch:=first|decide|(simp only[zF,zG];decide)) only [List.map_cons,List.map_nil,List.nil_append,List.cons_append,List.append_nil,zA,zB,zC,zD,zE,zF,zG,zH,zI,zJ,zK,HV.cells]; try exact rfl) (cC1 _ _ _ (by repeat' first|assumption|refine Ext.put ?_ (by omega) (by omega)|exact Ext.up (by assumption) (by omega)|exact Ext.nx (by assumption) (by omega))) (fun n' hn' => ?_)
         | refine r_calls (by simp (disch:=first|decide|(simp only[zF,zG];decide)) only [zA,zB,zC,zD,zE,zF,zG,zH,zI,zJ,zK,HV.cells]; try exact rfl) (by simp (disch:=first|decide|(simp only[zF,zG];decide)) only [List.map_cons,List.map_nil,List.nil_append,List.cons_append,List.append_nil,zA,zB,zC,zD,zE,zF,zG,zH,zI,zJ,zK,HV.cells]; try exact rfl) (cR1 _ _ _ (by repeat' first|assumption|refine Ext.put ?_ (by omega) (by omega)|exact Ext.up (by assumption) (by omega)|exact Ext.nx (by assumption) (by omega))) (fun n' hn' => ?_)
         | fail
        refine fin_m (by simp only [zL,zM]) (res_c (by simp (disch:=first|decide|(simp only[zF,zG];decide)) only [zA,zB,zC,zD,zE,zF,zG,zH,zI,zJ,zK,HV.cells]; try exact rfl) (by first|assumption|(simp (disch:=omega) only [get_same,get_other]; first|done|exact rfl)) tkb (res_t (by simp (disch:=first|decide|(simp only[zF,zG];decide)) only [zA,zB,zC,zD,zE,zF,zG,zH,zI,zJ,zK,HV.cells]; try exact rfl) res_nil)) (sc_flat ?_ (by dsimp only; omega) ?_)
        · unfold forO; rw [if_pos hE, if_pos rfl, hO]; exact flat_bc2 t M 0
        · unfold forO; rw [if_pos hE, if_pos rfl, hO]; rfl
  · repeat' first
     | refine r_nil ?_
     | refine th_n ?_
     | refine th_r ?_
     | refine w_seq ?_
     | refine w_reg ?_
     | refine w_ret ?_
     | refine w_skip ?_
     | refine w_t (by simp (disch:=first|decide|(simp only[zF,zG];decide)) only [zA,zB,zC,zD,zE,zF,zG,zH,zI,zJ,zK,HV.cells]; first|done|exact rfl) ?_
     | refine w_f (by simp (disch:=first|decide|(simp only[zF,zG];decide)) only [zA,zB,zC,zD,zE,zF,zG,zH,zI,zJ,zK,HV.cells]; first|done|exact rfl) ?_
     | refine r_move (by simp (disch:=first|decide|(simp only[zF,zG];decide)) only [zA,zB,zC,zD,zE,zF,zG,zH,zI,zJ,zK,HV.cells]; try exact rfl) ?_
     | refine r_ldn (by simp (disch:=first|decide|(simp only[zF,zG];decide)) only [zA,zB,zC,zD,zE,zF,zG,zH,zI,zJ,zK,HV.cells]; try exact rfl) (by first|assumption|(simp (disch:=omega) only [get_same,get_other]; first|done|exact rfl)) (by first|assumption|rfl|(simp only [zI,zJ,HV.cells]; exact rfl)) ?_
     | refine r_box (by simp (disch:=first|decide|(simp only[zF,zG];decide)) only [zA,zB,zC,zD,zE,zF,zG,zH,zI,zJ,zK,HV.cells]; try exact rfl) ?_
     | refine r_alloc ?_
     | refine r_st (cs' := _) (by simp (disch:=first|decide|(simp only[zF,zG];decide)) only [zA,zB,zC,zD,zE,zF,zG,zH,zI,zJ,zK,HV.cells]; try exact rfl) (by simp (disch:=first|decide|(simp only[zF,zG];decide)) only [zA,zB,zC,zD,zE,zF,zG,zH,zI,zJ,zK,HV.cells]; try exact rfl) (by first|assumption|(simp (disch:=omega) only [get_same,get_other]; first|done|exact rfl)) (by exact True.intro) (by rfl) (by rfl) (by first|assumption|rfl|(simp only [zI,zJ,HV.cells]; exact rfl)) (by omega) ?_
     | refine r_eq (by simp (disch:=first|decide|(simp only[zF,zG];decide)) only [zA,zB,zC,zD,zE,zF,zG,zH,zI,zJ,zK,HV.cells]; try exact rfl) (by simp (disch:=first|decide|(simp only[zF,zG];decide)) only [zA,zB,zC,zD,zE,zF,zG,zH,zI,zJ,zK,HV.cells]; try exact rfl) (fun hc => ?_) (fun hc => ?_) <;> (try (exfalso; omega))
     | refine r_ne (by simp (disch:=first|decide|(simp only[zF,zG];decide)) only [zA,zB,zC,zD,zE,zF,zG,zH,zI,zJ,zK,HV.cells]; try exact rfl) (by simp (disch:=first|decide|(simp only[zF,zG];decide)) only [zA,zB,zC,zD,zE,zF,zG,zH,zI,zJ,zK,HV.cells]; try exact rfl) (fun hc => ?_) (fun hc => ?_) <;> (try (exfalso; omega))
     | refine r_eqb (by simp (disch:=first|decide|(simp only[zF,zG];decide)) only [zA,zB,zC,zD,zE,zF,zG,zH,zI,zJ,zK,HV.cells]; try exact rfl) (by simp (disch:=first|decide|(simp only[zF,zG];decide)) only [zA,zB,zC,zD,zE,zF,zG,zH,zI,zJ,zK,HV.cells]; try exact rfl) ?_
     | refine r_not1 (by simp (disch:=first|decide|(simp only[zF,zG];decide)) only [zA,zB,zC,zD,zE,zF,zG,zH,zI,zJ,zK,HV.cells]; try exact rfl) ?_
     | refine r_ext (by simp (disch:=first|decide|(simp only[zF,zG];decide)) only [zA,zB,zC,zD,zE,zF,zG,zH,zI,zJ,zK,HV.cells]; try exact rfl) (by first|assumption|rfl|(simp only [zI,zJ,HV.cells]; exact rfl)) ?_
     | refine r_build (by simp (disch:=first|decide|(simp only[zF,zG];decide)) only [evParts,List.map_cons,List.map_nil,List.nil_append,List.cons_append,List.append_nil,zA,zB,zC,zD,zE,zF,zG,zH,zI,zJ,zK,HV.cells]; try exact rfl) ?_
     | refine r_calls (by simp (disch:=first|decide|(simp only[zF,zG];decide)) only [zA,zB,zC,zD,zE,zF,zG,zH,zI,zJ,zK,HV.cells]; try exact rfl) (by simp (disch:=first|decide|(simp only[zF,zG];decide)) only [List.map_cons,List.map_nil,List.nil_append,List.cons_append,List.append_nil,zA,zB,zC,zD,zE,zF,zG,zH,zI,zJ,zK,HV.cells]; try exact rfl) (cC _ _ _ (by repeat' first|assumption|refine Ext.put ?_ (by omega) (by omega)|exact Ext.up (by assumption) (by omega)|exact Ext.nx (by assumption) (by omega))) (fun n' hn' => ?_)
     | fail
    refine fin_m (by simp only [zL,zM]) (res_c (by simp (disch:=first|decide|(simp only[zF,zG];decide)) only [zA,zB,zC,zD,zE,zF,zG,zH,zI,zJ,zK,HV.cells]; try exact rfl) (by first|assumption|(simp (disch:=omega) only [get_same,get_other]; first|done|exact rfl)) tk_z (res_t (by simp (disch:=first|decide|(simp only[zF,zG];decide)) only [zA,zB,zC,zD,zE,zF,zG,zH,zI,zJ,zK,HV.cells]; try exact rfl) res_nil)) (sc_flat ?_ (by dsimp only; omega) ?_)
    · unfold forO; rw [if_neg hE]; exact flat_z2 _
    · unfold forO; rw [if_neg hE]; rfl
/- 90 -/
theorem c_lowest {fl : Nat} {h : Tr HBlk} {nx : Nat} {t : Tb} {n k : Nat} {M : Mx} (hG : Good n M) (hn : n ≤ 10) (hk : k ≤ n) : C LW fl 90 [.agg (bcells t M), i64 k] ⟨h, nx⟩ (Sc (· = i64 (-(M k 0))) ⟨h, nx⟩) := by
  have e1 : (bcells t M)[0 + 4 + k * 11 + 0 * 1]? = some (i64 (M k 0)) := bc_get t M (by omega) (by omega)
  have b1 := hG.ub k 0 hk (by omega)
  have b2 := hG.lb (i := k) (j := 0) hk (by omega)
  refine c_in lw90 rfl rfl rfl ?_
  dsimp only [L90]
  repeat' first
   | refine r_nil ?_
   | refine th_n ?_
   | refine th_r ?_
   | refine w_seq ?_
   | refine w_reg ?_
   | refine w_ret ?_
   | refine w_skip ?_
   | refine r_move (by simp (disch:=first|decide|(simp only[zF,zG];decide)) only [zA,zB,zC,zD,zE,zF,zG,zH,zI,zJ,zK,HV.cells]; try exact rfl) ?_
   | refine r_fa (by simp (disch:=first|decide|(simp only[zF,zG];decide)) only [zA,zB,zC,zD,zE,zF,zG,zH,zI,zJ,zK,HV.cells]; try exact rfl) ?_
   | refine r_ld1 (by simp (disch:=first|decide|(simp only[zF,zG];decide)) only [zA,zB,zC,zD,zE,zF,zG,zH,zI,zJ,zK,HV.cells]; try exact rfl) (by first|assumption|(simp (disch:=omega) only [get_same,get_other]; first|done|exact rfl)) (by first|assumption|rfl|(simp only [zI,zJ,HV.cells]; exact rfl)) ?_
   | refine r_box (by simp (disch:=first|decide|(simp only[zF,zG];decide)) only [zA,zB,zC,zD,zE,zF,zG,zH,zI,zJ,zK,HV.cells]; try exact rfl) ?_
   | refine r_neg (by simp (disch:=first|decide|(simp only[zF,zG];decide)) only [zA,zB,zC,zD,zE,zF,zG,zH,zI,zJ,zK,HV.cells]; try exact rfl) (by omega) (by omega) ?_
   | refine r_ixa (by simp (disch:=first|decide|(simp only[zF,zG];decide)) only [zA,zB,zC,zD,zE,zF,zG,zH,zI,zJ,zK,HV.cells]; try exact rfl) (by simp (disch:=first|decide|(simp only[zF,zG];decide)) only [zA,zB,zC,zD,zE,zF,zG,zH,zI,zJ,zK,HV.cells]; try exact rfl) (by omega) ?_
   | fail
  refine r_ixa (j := 0) (by simp (disch:=first|decide|(simp only[zF,zG];decide)) only [zA,zB,zC,zD,zE,zF,zG,zH,zI,zJ,zK,HV.cells]; try exact rfl) (by simp (disch:=first|decide|(simp only[zF,zG];decide)) only [zA,zB,zC,zD,zE,zF,zG,zH,zI,zJ,zK,HV.cells]; try exact rfl) (by omega) ?_
  repeat' first
   | refine r_nil ?_
   | refine th_n ?_
   | refine th_r ?_
   | refine w_seq ?_
   | refine w_reg ?_
   | refine w_ret ?_
   | refine w_skip ?_
   | refine r_move (by simp (disch:=first|decide|(simp only[zF,zG];decide)) only [zA,zB,zC,zD,zE,zF,zG,zH,zI,zJ,zK,HV.cells]; try exact rfl) ?_
   | refine r_fa (by simp (disch:=first|decide|(simp only[zF,zG];decide)) only [zA,zB,zC,zD,zE,zF,zG,zH,zI,zJ,zK,HV.cells]; try exact rfl) ?_
   | refine r_ld1 (by simp (disch:=first|decide|(simp only[zF,zG];decide)) only [zA,zB,zC,zD,zE,zF,zG,zH,zI,zJ,zK,HV.cells]; try exact rfl) (by first|assumption|(simp (disch:=omega) only [get_same,get_other]; first|done|exact rfl)) (by first|assumption|rfl|(simp only [zI,zJ,HV.cells]; exact rfl)) ?_
   | refine r_box (by simp (disch:=first|decide|(simp only[zF,zG];decide)) only [zA,zB,zC,zD,zE,zF,zG,zH,zI,zJ,zK,HV.cells]; try exact rfl) ?_
   | refine r_neg (by simp (disch:=first|decide|(simp only[zF,zG];decide)) only [zA,zB,zC,zD,zE,zF,zG,zH,zI,zJ,zK,HV.cells]; try exact rfl) (by omega) (by omega) ?_
   | refine r_ixa (by simp (disch:=first|decide|(simp only[zF,zG];decide)) only [zA,zB,zC,zD,zE,zF,zG,zH,zI,zJ,zK,HV.cells]; try exact rfl) (by simp (disch:=first|decide|(simp only[zF,zG];decide)) only [zA,zB,zC,zD,zE,zF,zG,zH,zI,zJ,zK,HV.cells]; try exact rfl) (by omega) ?_
   | fail
  refine fin_r (by simp only [zL,zM]) (by simp (disch:=first|decide|(simp only[zF,zG];decide)) only [zA,zB,zC,zD,zE,zF,zG,zH,zI,zJ,zK,HV.cells]; try exact rfl) (sc_flat rfl (by dsimp only; omega) ?_); rfl
/- 91 -/
theorem c_highest {fl : Nat} {h : Tr HBlk} {nx : Nat} {t : Tb} {n k : Nat} {M : Mx} (hn : n ≤ 10) (hk : k ≤ n) : C LW fl 91 [.agg (bcells t M), i64 k] ⟨h, nx⟩ (Sc (· = i64 (M 0 k)) ⟨h, nx⟩) := by
  have e1 : (bcells t M)[0 + 4 + 0 * 11 + k * 1]? = some (i64 (M 0 k)) := bc_get t M (by omega) (by omega)
  refine c_in lw91 rfl rfl rfl ?_
  dsimp only [L91]
  repeat' first
   | refine r_nil ?_
   | refine th_n ?_
   | refine th_r ?_
   | refine w_seq ?_
   | refine w_reg ?_
   | refine w_ret ?_
   | refine w_skip ?_
   | refine r_move (by simp (disch:=first|decide|(simp only[zF,zG];decide)) only [zA,zB,zC,zD,zE,zF,zG,zH,zI,zJ,zK,HV.cells]; try exact rfl) ?_
   | refine r_fa (by simp (disch:=first|decide|(simp only[zF,zG];decide)) only [zA,zB,zC,zD,zE,zF,zG,zH,zI,zJ,zK,HV.cells]; try exact rfl) ?_
   | refine r_ld1 (by simp (disch:=first|decide|(simp only[zF,zG];decide)) only [zA,zB,zC,zD,zE,zF,zG,zH,zI,zJ,zK,HV.cells]; try exact rfl) (by first|assumption|(simp (disch:=omega) only [get_same,get_other]; first|done|exact rfl)) (by first|assumption|rfl|(simp only [zI,zJ,HV.cells]; exact rfl)) ?_
   | refine r_box (by simp (disch:=first|decide|(simp only[zF,zG];decide)) only [zA,zB,zC,zD,zE,zF,zG,zH,zI,zJ,zK,HV.cells]; try exact rfl) ?_
   | refine r_ixa (by simp (disch:=first|decide|(simp only[zF,zG];decide)) only [zA,zB,zC,zD,zE,zF,zG,zH,zI,zJ,zK,HV.cells]; try exact rfl) (by simp (disch:=first|decide|(simp only[zF,zG];decide)) only [zA,zB,zC,zD,zE,zF,zG,zH,zI,zJ,zK,HV.cells]; try exact rfl) (by omega) ?_
   | fail
  refine r_ixa (j := 0) (by simp (disch:=first|decide|(simp only[zF,zG];decide)) only [zA,zB,zC,zD,zE,zF,zG,zH,zI,zJ,zK,HV.cells]; try exact rfl) (by simp (disch:=first|decide|(simp only[zF,zG];decide)) only [zA,zB,zC,zD,zE,zF,zG,zH,zI,zJ,zK,HV.cells]; try exact rfl) (by omega) ?_
  repeat' first
   | refine r_nil ?_
   | refine th_n ?_
   | refine th_r ?_
   | refine w_seq ?_
   | refine w_reg ?_
   | refine w_ret ?_
   | refine w_skip ?_
   | refine r_move (by simp (disch:=first|decide|(simp only[zF,zG];decide)) only [zA,zB,zC,zD,zE,zF,zG,zH,zI,zJ,zK,HV.cells]; try exact rfl) ?_
   | refine r_fa (by simp (disch:=first|decide|(simp only[zF,zG];decide)) only [zA,zB,zC,zD,zE,zF,zG,zH,zI,zJ,zK,HV.cells]; try exact rfl) ?_
   | refine r_ld1 (by simp (disch:=first|decide|(simp only[zF,zG];decide)) only [zA,zB,zC,zD,zE,zF,zG,zH,zI,zJ,zK,HV.cells]; try exact rfl) (by first|assumption|(simp (disch:=omega) only [get_same,get_other]; first|done|exact rfl)) (by first|assumption|rfl|(simp only [zI,zJ,HV.cells]; exact rfl)) ?_
   | refine r_box (by simp (disch:=first|decide|(simp only[zF,zG];decide)) only [zA,zB,zC,zD,zE,zF,zG,zH,zI,zJ,zK,HV.cells]; try exact rfl) ?_
   | refine r_ixa (by simp (disch:=first|decide|(simp only[zF,zG];decide)) only [zA,zB,zC,zD,zE,zF,zG,zH,zI,zJ,zK,HV.cells]; try exact rfl) (by simp (disch:=first|decide|(simp only[zF,zG];decide)) only [zA,zB,zC,zD,zE,zF,zG,zH,zI,zJ,zK,HV.cells]; try exact rfl) (by omega) ?_
   | fail
  refine fin_r (by simp only [zL,zM]) (by simp (disch:=first|decide|(simp only[zF,zG];decide)) only [zA,zB,zC,zD,zE,zF,zG,zH,zI,zJ,zK,HV.cells]; try exact rfl) (sc_flat rfl (by dsimp only; omega) ?_); rfl
/- 77 -/
theorem c_bothEnds {fl : Nat} {h : Tr HBlk} {nx : Nat} : C LW fl 77 [] ⟨h, nx⟩ (Sc (· = .agg [.func 90 [] [], .func 91 [] []]) ⟨h, nx⟩) := by
  have fi : fillH [.nilFunc, .nilFunc] [(0, 1, .func 90 [] []), (1, 1, .func 91 [] [])] = some [.func 90 [] [], .func 91 [] []] := rfl
  have ow : overwrite [.nilFunc, .nilFunc] 0 (HV.agg [.func 90 [] [], .func 91 [] []]).cells = some [.func 90 [] [], .func 91 [] []] := rfl
  refine c_in lw77 rfl rfl rfl ?_
  dsimp only [L77]
  repeat' first
   | refine r_nil ?_
   | refine th_n ?_
   | refine th_r ?_
   | refine w_seq ?_
   | refine w_reg ?_
   | refine w_ret ?_
   | refine w_skip ?_
   | refine r_alloc ?_
   | refine r_st (cs' := _) (by simp (disch:=first|decide|(simp only[zF,zG,fi];decide)) only [zA,zB,zC,zD,zE,zF,zG,zH,zI,zJ,zK,HV.cells,fi]; try exact rfl) (by simp (disch:=first|decide|(simp only[zF,zG,fi];decide)) only [zA,zB,zC,zD,zE,zF,zG,zH,zI,zJ,zK,HV.cells,fi]; try exact rfl) (by first|assumption|(simp (disch:=omega) only [get_same,get_other,fi]; first|done|exact rfl)) (by exact True.intro) (by rfl) (by rfl) (by first|assumption|rfl|(simp only [zI,zJ,HV.cells,fi]; exact rfl)) (by omega) ?_
   | refine r_build (by simp (disch:=first|decide|(simp only[zF,zG,fi];decide)) only [evParts,List.map_cons,List.map_nil,List.nil_append,List.cons_append,List.append_nil,zA,zB,zC,zD,zE,zF,zG,zH,zI,zJ,zK,HV.cells,fi]; try exact rfl) ?_
   | fail
  exact fin_m (by simp only [zL,zM]) (res_c (by simp (disch:=first|decide|(simp only[zF,zG];decide)) only [zA,zB,zC,zD,zE,zF,zG,zH,zI,zJ,zK,HV.cells]; try exact rfl) (by first|assumption|(simp (disch:=omega) only [get_same,get_other]; first|done|exact rfl)) rfl res_nil) (sc_flat rfl (by dsimp only; omega) rfl)
/-- A range as cells. -/
def renc (r : Int × Int) : List HV := [i64 r.1, i64 r.2]
theorem renc_len (r : Int × Int) : (renc r).length = 2 := rfl
theorem renc_flat (r : Int × Int) : (renc r).all flat1 = true := rfl
/-- The bounds of the first marks. -/
def BL (M : Mx) (k : Nat) : List (Int × Int) := (List.range k).map fun i => (-(M i 0), M 0 i)
theorem BL_len (M : Mx) (k : Nat) : (BL M k).length = k := by simp [BL]
theorem BL_succ (M : Mx) (k : Nat) : BL M (k + 1) = BL M k ++ [(-(M k 0), M 0 k)] := by simp [BL, List.range_succ]
theorem BL_get (M : Mx) {k i : Nat} (hi : i < k) : (BL M k)[i]? = some (-(M i 0), M 0 i) := by simp [BL, List.getElem?_range hi]
/-- Rows, and what is free behind them. -/
def FC {α : Type} (enc : α → List HV) (l : List α) (fr : Nat) : List HV := l.flatMap enc ++ List.replicate fr (i64 0)
theorem ow_many : ∀ (A Z B R : List HV), Z.length = R.length → overwrite (A ++ (Z ++ B)) A.length R = some (A ++ (R ++ B))
  | [], [], B, [], _ => by cases B <;> rfl
  | [], z :: Z, B, r :: R, h => by
    show (overwrite (Z ++ B) 0 R).map _ = _
    have := ow_many [] Z B R (by simpa using h)
    simp only [List.nil_append, List.length_nil] at this
    rw [this]; rfl
  | x :: A, Z, B, R, h => by
    cases R with
    | nil =>
      cases Z with
      | nil => rfl
      | cons z Z => simp at h
    | cons r R =>
      show (overwrite (A ++ (Z ++ B)) A.length (r :: R)).map _ = _
      rw [ow_many A Z B (r :: R) h]; rfl
theorem FC_ow {α : Type} {enc : α → List HV} {sz : Nat} (he : ∀ x, (enc x).length = sz) (l : List α) (x : α) (fr : Nat) : overwrite (FC enc l (sz + fr)) (0 + l.length * sz) (enc x) = some (FC enc (l ++ [x]) fr) := by
  unfold FC
  rw [← List.replicate_append_replicate, show 0 + l.length * sz = (l.flatMap enc).length by rw [flat_len he]; omega, ow_many _ _ _ _ (by rw [he]; simp), List.flatMap_append]
  simp
theorem repl_two : ∀ n : Nat, repl n [i64 0, i64 0] = List.replicate (2 * n) (i64 0)
  | 0 => rfl
  | n + 1 => by
    have := repl_two n
    unfold repl at this ⊢
    rw [List.replicate_succ, List.flatten_cons, this, show 2 * (n + 1) = 2 * n + 1 + 1 by omega, List.replicate_succ, List.replicate_succ]; rfl
/- 73 -/
theorem loop73 {fl : Nat} {h0 : Tr HBlk} {n0 : Nat} {Q : HExit → HAct → HS → Prop} {bb eb rb n : Nat} {t : Tb} {M : Mx} (hn : n ≤ 10) (htc : t.c = n) (hG : Good n M) (hfl : fl ≤ rb) (hb1 : bb < n0) (hb2 : eb < n0) (hb3 : rb < n0) (hb4 : bb ≠ rb) (hb5 : eb ≠ rb)
    (hgb : h0.get bb = some (.cells (bcells t M) .exact)) (hge : h0.get eb = some (.cells [.func 90 [] [], .func 91 [] []] .exact)) :
    ∀ (m i : Nat) (a : HAct) (h : Tr HBlk) (nx : Nat), m + i = n + 1 → n0 ≤ nx → D h nx → (∀ b, b < n0 → b ≠ rb → h.get b = h0.get b) → h.get rb = some (.cells (FC renc (BL M i) (2 * m)) .exact) →
      a.nt = 34 → a.defers = [] → a.tmp 1 = .ptr (some (bb, 0)) → a.tmp 3 = .ptr (some (eb, 0)) → a.tmp 4 = .slice (some (rb, 0)) i (n + 1) → a.tmp 5 = i64 i →
      (∀ a' h' n', n0 ≤ n' → h'.get rb = some (.cells (FC renc (BL M (n + 1)) 0) .exact) → a'.nt = 34 → a'.defers = [] → a'.tmp 4 = .slice (some (rb, 0)) (n + 1) (n + 1) → Q .normal a' ⟨h', n'⟩) → W LW fl none (.loop L73w0) (inBlockH 0 Q) a ⟨h, nx⟩
  | 0, i, a, h, nx, hm, hnx, hd, hs, hgr, hnt, hds, h1, h3, h4, h5, hq => by
    have hi : i = n + 1 := by omega
    subst hi
    have ec : (bcells t M)[0 + 0 + 0]? = some (i64 n) := by rw [← htc]; rfl
    have hgb' : h.get bb = some (.cells (bcells t M) .exact) := by rw [hs _ hb1 hb4]; exact hgb
    refine w_it (show L73w0 = _ by unfold L73w0; exact rfl) ?_
    repeat' first
     | refine r_nil ?_
     | refine th_n ?_
     | refine th_r ?_
     | refine th_e ?_
     | refine ib_n ?_
     | refine ib_r ?_
     | refine ib_e ?_
     | refine ib_x (by decide) ?_
     | refine w_exit ?_
     | refine w_seq ?_
     | refine w_reg ?_
     | refine w_ret ?_
     | refine w_skip ?_
     | refine w_block ?_
     | refine w_t (by simp (disch:=first|decide|(simp only[zF,zG,hnt, h1, h3, h4, h5];decide)) only [zA,zB,zC,zD,zE,zF,zG,zH,zI,zJ,zK,HV.cells,hnt, h1, h3, h4, h5]; first|done|exact rfl) ?_
     | refine w_f (by simp (disch:=first|decide|(simp only[zF,zG,hnt, h1, h3, h4, h5];decide)) only [zA,zB,zC,zD,zE,zF,zG,zH,zI,zJ,zK,HV.cells,hnt, h1, h3, h4, h5]; first|done|exact rfl) ?_
     | refine r_move (by simp (disch:=first|decide|(simp only[zF,zG,hnt, h1, h3, h4, h5];decide)) only [zA,zB,zC,zD,zE,zF,zG,zH,zI,zJ,zK,HV.cells,hnt, h1, h3, h4, h5]; try exact rfl) ?_
     | refine r_fa (by simp (disch:=first|decide|(simp only[zF,zG,hnt, h1, h3, h4, h5];decide)) only [zA,zB,zC,zD,zE,zF,zG,zH,zI,zJ,zK,HV.cells,hnt, h1, h3, h4, h5]; try exact rfl) ?_
     | refine r_ld1 (by simp (disch:=first|decide|(simp only[zF,zG,hnt, h1, h3, h4, h5];decide)) only [zA,zB,zC,zD,zE,zF,zG,zH,zI,zJ,zK,HV.cells,hnt, h1, h3, h4, h5]; try exact rfl) (by first|assumption|(simp (disch:=omega) only [get_same,get_other,hnt, h1, h3, h4, h5]; first|done|exact rfl)) (by first|assumption|rfl|(simp only [zI,zJ,HV.cells,hnt, h1, h3, h4, h5]; exact rfl)) ?_
     | refine r_ldn (by simp (disch:=first|decide|(simp only[zF,zG,hnt, h1, h3, h4, h5];decide)) only [zA,zB,zC,zD,zE,zF,zG,zH,zI,zJ,zK,HV.cells,hnt, h1, h3, h4, h5]; try exact rfl) (by first|assumption|(simp (disch:=omega) only [get_same,get_other,hnt, h1, h3, h4, h5]; first|done|exact rfl)) (by first|assumption|rfl|(simp only [zI,zJ,HV.cells,hnt, h1, h3, h4, h5]; exact rfl)) ?_
     | refine r_box (by simp (disch:=first|decide|(simp only[zF,zG,hnt, h1, h3, h4, h5];decide)) only [zA,zB,zC,zD,zE,zF,zG,zH,zI,zJ,zK,HV.cells,hnt, h1, h3, h4, h5]; try exact rfl) ?_
     | refine r_alloc ?_
     | refine r_st (cs' := _) (by simp (disch:=first|decide|(simp only[zF,zG,hnt, h1, h3, h4, h5];decide)) only [zA,zB,zC,zD,zE,zF,zG,zH,zI,zJ,zK,HV.cells,hnt, h1, h3, h4, h5]; try exact rfl) (by simp (disch:=first|decide|(simp only[zF,zG,hnt, h1, h3, h4, h5];decide)) only [zA,zB,zC,zD,zE,zF,zG,zH,zI,zJ,zK,HV.cells,hnt, h1, h3, h4, h5]; try exact rfl) (by first|assumption|(simp (disch:=omega) only [get_same,get_other,hnt, h1, h3, h4, h5]; first|done|exact rfl)) (by exact True.intro) (by rfl) (by rfl) (by first|assumption|rfl|(simp only [zI,zJ,HV.cells,hnt, h1, h3, h4, h5]; exact rfl)) (by omega) ?_
     | refine r_add (by simp (disch:=first|decide|(simp only[zF,zG,hnt, h1, h3, h4, h5];decide)) only [zA,zB,zC,zD,zE,zF,zG,zH,zI,zJ,zK,HV.cells,hnt, h1, h3, h4, h5]; try exact rfl) (by simp (disch:=first|decide|(simp only[zF,zG,hnt, h1, h3, h4, h5];decide)) only [zA,zB,zC,zD,zE,zF,zG,zH,zI,zJ,zK,HV.cells,hnt, h1, h3, h4, h5]; try exact rfl) (by omega) (by omega) ?_
     | refine r_leq (by simp (disch:=first|decide|(simp only[zF,zG,hnt, h1, h3, h4, h5];decide)) only [zA,zB,zC,zD,zE,zF,zG,zH,zI,zJ,zK,HV.cells,hnt, h1, h3, h4, h5]; try exact rfl) (by simp (disch:=first|decide|(simp only[zF,zG,hnt, h1, h3, h4, h5];decide)) only [zA,zB,zC,zD,zE,zF,zG,zH,zI,zJ,zK,HV.cells,hnt, h1, h3, h4, h5]; try exact rfl) (fun hc => ?_) (fun hc => ?_) <;> (try (exfalso; omega))
     | refine r_build (by simp (disch:=first|decide|(simp only[zF,zG,hnt, h1, h3, h4, h5];decide)) only [evParts,List.map_cons,List.map_nil,List.nil_append,List.cons_append,List.append_nil,zA,zB,zC,zD,zE,zF,zG,zH,zI,zJ,zK,HV.cells,hnt, h1, h3, h4, h5]; try exact rfl) ?_
     | refine r_bs (by simp (disch:=first|decide|(simp only[zF,zG,hnt, h1, h3, h4, h5];decide)) only [evParts,List.map_cons,List.map_nil,List.nil_append,List.cons_append,List.append_nil,zA,zB,zC,zD,zE,zF,zG,zH,zI,zJ,zK,HV.cells,hnt, h1, h3, h4, h5]; try exact rfl) ?_
     | refine w_draw (by omega) (by repeat' first|assumption|refine D.upd ?_ (by omega)|exact D.mono (by assumption) (by omega)) ?_
     | refine d_nil ?_
     | refine d_rest rfl ?_
     | refine d_bs rfl ?_
     | refine d_box rfl ?_
     | refine d_alloc rfl ?_
     | refine d_one rfl ?_
     | refine d_next (by omega) ?_
     | refine d_laid ?_
     | fail
    refine hq _ _ _ hnx hgr ?_ ?_ ?_
    all_goals first|(simp only [zL,zM,zF,zG,hnt, hds, h4];done)|(simp (disch:=first|decide|(simp only[zF,zG,hnt, hds, h4];decide)) only [zA,zB,zC,zD,zE,zF,zG,zH,zI,zJ,zK,HV.cells,hnt, hds, h4];first|done|exact rfl)|assumption
  | m + 1, i, a, h, nx, hm, hnx, hd, hs, hgr, hnt, hds, h1, h3, h4, h5, hq => by
    have hi : i ≤ n := by omega
    have ec : (bcells t M)[0 + 0 + 0]? = some (i64 n) := by rw [← htc]; rfl
    have tkb := take_bc t M
    have hgb' : h.get bb = some (.cells (bcells t M) .exact) := by rw [hs _ hb1 hb4]; exact hgb
    have hge' : h.get eb = some (.cells [.func 90 [] [], .func 91 [] []] .exact) := by rw [hs _ hb2 hb5]; exact hge
    have fi : fillH [i64 0, i64 0] [(0, 1, i64 (-(M i 0))), (1, 1, i64 (M 0 i))] = some (renc (-(M i 0), M 0 i)) := rfl
    have fi2 : fillH (repl 1 [i64 0, i64 0]) [(0, 2, .agg (renc (-(M i 0), M 0 i)))] = some (renc (-(M i 0), M 0 i)) := rfl
    refine w_it (show L73w0 = _ by unfold L73w0; exact rfl) ?_
    repeat' first
     | refine r_nil ?_
     | refine th_n ?_
     | refine th_r ?_
     | refine th_e ?_
     | refine ib_n ?_
     | refine ib_r ?_
     | refine ib_e ?_
     | refine ib_x (by decide) ?_
     | refine w_exit ?_
     | refine w_seq ?_
     | refine w_reg ?_
     | refine w_ret ?_
     | refine w_skip ?_
     | refine w_block ?_
     | refine w_t (by simp (disch:=first|decide|(simp only[zF,zG,hnt, h1, h3, h4, h5, fi, fi2];decide)) only [zA,zB,zC,zD,zE,zF,zG,zH,zI,zJ,zK,HV.cells,hnt, h1, h3, h4, h5, fi, fi2]; first|done|exact rfl) ?_
     | refine w_f (by simp (disch:=first|decide|(simp only[zF,zG,hnt, h1, h3, h4, h5, fi, fi2];decide)) only [zA,zB,zC,zD,zE,zF,zG,zH,zI,zJ,zK,HV.cells,hnt, h1, h3, h4, h5, fi, fi2]; first|done|exact rfl) ?_
     | refine r_move (by simp (disch:=first|decide|(simp only[zF,zG,hnt, h1, h3, h4, h5, fi, fi2];decide)) only [zA,zB,zC,zD,zE,zF,zG,zH,zI,zJ,zK,HV.cells,hnt, h1, h3, h4, h5, fi, fi2]; try exact rfl) ?_
     | refine r_fa (by simp (disch:=first|decide|(simp only[zF,zG,hnt, h1, h3, h4, h5, fi, fi2];decide)) only [zA,zB,zC,zD,zE,zF,zG,zH,zI,zJ,zK,HV.cells,hnt, h1, h3, h4, h5, fi, fi2]; try exact rfl) ?_
     | refine r_ld1 (by simp (disch:=first|decide|(simp only[zF,zG,hnt, h1, h3, h4, h5, fi, fi2];decide)) only [zA,zB,zC,zD,zE,zF,zG,zH,zI,zJ,zK,HV.cells,hnt, h1, h3, h4, h5, fi, fi2]; try exact rfl) (by first|assumption|(simp (disch:=omega) only [get_same,get_other,hnt, h1, h3, h4, h5, fi, fi2]; first|done|exact rfl)) (by first|assumption|rfl|(simp only [zI,zJ,HV.cells,hnt, h1, h3, h4, h5, fi, fi2]; exact rfl)) ?_
     | refine r_ldn (by simp (disch:=first|decide|(simp only[zF,zG,hnt, h1, h3, h4, h5, fi, fi2];decide)) only [zA,zB,zC,zD,zE,zF,zG,zH,zI,zJ,zK,HV.cells,hnt, h1, h3, h4, h5, fi, fi2]; try exact rfl) (by first|assumption|(simp (disch:=omega) only [get_same,get_other,hnt, h1, h3, h4, h5, fi, fi2]; first|done|exact rfl)) (by first|assumption|rfl|(simp only [zI,zJ,HV.cells,hnt, h1, h3, h4, h5, fi, fi2]; exact rfl)) ?_
     | refine r_box (by simp (disch:=first|decide|(simp only[zF,zG,hnt, h1, h3, h4, h5, fi, fi2];decide)) only [zA,zB,zC,zD,zE,zF,zG,zH,zI,zJ,zK,HV.cells,hnt, h1, h3, h4, h5, fi, fi2]; try exact rfl) ?_
     | refine r_alloc ?_
     | refine r_st (cs' := _) (by simp (disch:=first|decide|(simp only[zF,zG,hnt, h1, h3, h4, h5, fi, fi2];decide)) only [zA,zB,zC,zD,zE,zF,zG,zH,zI,zJ,zK,HV.cells,hnt, h1, h3, h4, h5, fi, fi2]; try exact rfl) (by simp (disch:=first|decide|(simp only[zF,zG,hnt, h1, h3, h4, h5, fi, fi2];decide)) only [zA,zB,zC,zD,zE,zF,zG,zH,zI,zJ,zK,HV.cells,hnt, h1, h3, h4, h5, fi, fi2]; try exact rfl) (by first|assumption|(simp (disch:=omega) only [get_same,get_other,hnt, h1, h3, h4, h5, fi, fi2]; first|done|exact rfl)) (by exact True.intro) (by rfl) (by rfl) (by first|assumption|rfl|(simp only [zI,zJ,HV.cells,hnt, h1, h3, h4, h5, fi, fi2]; exact rfl)) (by omega) ?_
     | refine r_add (by simp (disch:=first|decide|(simp only[zF,zG,hnt, h1, h3, h4, h5, fi, fi2];decide)) only [zA,zB,zC,zD,zE,zF,zG,zH,zI,zJ,zK,HV.cells,hnt, h1, h3, h4, h5, fi, fi2]; try exact rfl) (by simp (disch:=first|decide|(simp only[zF,zG,hnt, h1, h3, h4, h5, fi, fi2];decide)) only [zA,zB,zC,zD,zE,zF,zG,zH,zI,zJ,zK,HV.cells,hnt, h1, h3, h4, h5, fi, fi2]; try exact rfl) (by omega) (by omega) ?_
     | refine r_leq (by simp (disch:=first|decide|(simp only[zF,zG,hnt, h1, h3, h4, h5, fi, fi2];decide)) only [zA,zB,zC,zD,zE,zF,zG,zH,zI,zJ,zK,HV.cells,hnt, h1, h3, h4, h5, fi, fi2]; try exact rfl) (by simp (disch:=first|decide|(simp only[zF,zG,hnt, h1, h3, h4, h5, fi, fi2];decide)) only [zA,zB,zC,zD,zE,zF,zG,zH,zI,zJ,zK,HV.cells,hnt, h1, h3, h4, h5, fi, fi2]; try exact rfl) (fun hc => ?_) (fun hc => ?_) <;> (try (exfalso; omega))
     | refine r_build (by simp (disch:=first|decide|(simp only[zF,zG,hnt, h1, h3, h4, h5, fi, fi2];decide)) only [evParts,List.map_cons,List.map_nil,List.nil_append,List.cons_append,List.append_nil,zA,zB,zC,zD,zE,zF,zG,zH,zI,zJ,zK,HV.cells,hnt, h1, h3, h4, h5, fi, fi2]; try exact rfl) ?_
     | refine r_bs (by simp (disch:=first|decide|(simp only[zF,zG,hnt, h1, h3, h4, h5, fi, fi2];decide)) only [evParts,List.map_cons,List.map_nil,List.nil_append,List.cons_append,List.append_nil,zA,zB,zC,zD,zE,zF,zG,zH,zI,zJ,zK,HV.cells,hnt, h1, h3, h4, h5, fi, fi2]; try exact rfl) ?_
     | refine r_calls (by simp (disch:=first|decide|(simp only[zF,zG,hnt, h1, h3, h4, h5, fi, fi2];decide)) only [zA,zB,zC,zD,zE,zF,zG,zH,zI,zJ,zK,HV.cells,hnt, h1, h3, h4, h5, fi, fi2]; try exact rfl) (by simp (disch:=first|decide|(simp only[zF,zG,hnt, h1, h3, h4, h5, fi, fi2];decide)) only [List.map_cons,List.map_nil,List.nil_append,List.cons_append,List.append_nil,zA,zB,zC,zD,zE,zF,zG,zH,zI,zJ,zK,HV.cells,hnt, h1, h3, h4, h5, fi, fi2]; try exact rfl) (c_lowest hG hn hi) (fun n' hn' => ?_)
     | refine r_calls (by simp (disch:=first|decide|(simp only[zF,zG,hnt, h1, h3, h4, h5, fi, fi2];decide)) only [zA,zB,zC,zD,zE,zF,zG,zH,zI,zJ,zK,HV.cells,hnt, h1, h3, h4, h5, fi, fi2]; try exact rfl) (by simp (disch:=first|decide|(simp only[zF,zG,hnt, h1, h3, h4, h5, fi, fi2];decide)) only [List.map_cons,List.map_nil,List.nil_append,List.cons_append,List.append_nil,zA,zB,zC,zD,zE,zF,zG,zH,zI,zJ,zK,HV.cells,hnt, h1, h3, h4, h5, fi, fi2]; try exact rfl) (c_highest hn hi) (fun n' hn' => ?_)
     | refine w_draw (by omega) (by repeat' first|assumption|refine D.upd ?_ (by omega)|exact D.mono (by assumption) (by omega)) ?_
     | refine d_nil ?_
     | refine d_rest rfl ?_
     | refine d_bs rfl ?_
     | refine d_box rfl ?_
     | refine d_alloc rfl ?_
     | refine d_one rfl ?_
     | refine d_next (by omega) ?_
     | refine d_laid ?_
     | fail
    have hfc := FC_ow renc_len (BL M i) (-(M i 0), M 0 i) (2 * m)
    rw [BL_len, ← BL_succ] at hfc
    have ha := app_in (fl := fl) (size := 2) (bytes := 16) (nx := n' + 1) (h := h.set n' (some (.cells (renc (-(M i 0), M 0 i)) .exact))) (bx := n') (ox := 0) (cx := 1) (n := 1) (b := rb) (o := 0) (k := i) (z := n + 1) (row := renc (-(M i 0), M 0 i)) (k2 := .exact) (get_same _ _ _) rfl (by rw [get_other _ _ (by omega)]; exact hgr) True.intro (by omega) rfl (by simp [renc]) (by omega) (by rw [show 2 * (m + 1) = 2 + 2 * m by omega]; exact hfc)
    refine r_app (by simp (disch:=first|decide|(simp only[zF,zG,hnt, h4];decide)) only [zA,zB,zC,zD,zE,zF,zG,zH,zI,zJ,zK,HV.cells,hnt, h4]; try exact rfl) (by simp (disch:=first|decide|(simp only[zF,zG,hnt];decide)) only [zA,zB,zC,zD,zE,zF,zG,zH,zI,zJ,zK,HV.cells,hnt]; try exact rfl) ha ?_
    repeat' first
     | refine r_nil ?_
     | refine th_n ?_
     | refine th_r ?_
     | refine th_e ?_
     | refine ib_n ?_
     | refine ib_r ?_
     | refine ib_e ?_
     | refine ib_x (by decide) ?_
     | refine w_exit ?_
     | refine w_seq ?_
     | refine w_reg ?_
     | refine w_ret ?_
     | refine w_skip ?_
     | refine w_block ?_
     | refine w_t (by simp (disch:=first|decide|(simp only[zF,zG,hnt, h1, h3, h5];decide)) only [zA,zB,zC,zD,zE,zF,zG,zH,zI,zJ,zK,HV.cells,hnt, h1, h3, h5]; first|done|exact rfl) ?_
     | refine w_f (by simp (disch:=first|decide|(simp only[zF,zG,hnt, h1, h3, h5];decide)) only [zA,zB,zC,zD,zE,zF,zG,zH,zI,zJ,zK,HV.cells,hnt, h1, h3, h5]; first|done|exact rfl) ?_
     | refine r_move (by simp (disch:=first|decide|(simp only[zF,zG,hnt, h1, h3, h5];decide)) only [zA,zB,zC,zD,zE,zF,zG,zH,zI,zJ,zK,HV.cells,hnt, h1, h3, h5]; try exact rfl) ?_
     | refine r_fa (by simp (disch:=first|decide|(simp only[zF,zG,hnt, h1, h3, h5];decide)) only [zA,zB,zC,zD,zE,zF,zG,zH,zI,zJ,zK,HV.cells,hnt, h1, h3, h5]; try exact rfl) ?_
     | refine r_ld1 (by simp (disch:=first|decide|(simp only[zF,zG,hnt, h1, h3, h5];decide)) only [zA,zB,zC,zD,zE,zF,zG,zH,zI,zJ,zK,HV.cells,hnt, h1, h3, h5]; try exact rfl) (by first|assumption|(simp (disch:=omega) only [get_same,get_other,hnt, h1, h3, h5]; first|done|exact rfl)) (by first|assumption|rfl|(simp only [zI,zJ,HV.cells,hnt, h1, h3, h5]; exact rfl)) ?_
     | refine r_ldn (by simp (disch:=first|decide|(simp only[zF,zG,hnt, h1, h3, h5];decide)) only [zA,zB,zC,zD,zE,zF,zG,zH,zI,zJ,zK,HV.cells,hnt, h1, h3, h5]; try exact rfl) (by first|assumption|(simp (disch:=omega) only [get_same,get_other,hnt, h1, h3, h5]; first|done|exact rfl)) (by first|assumption|rfl|(simp only [zI,zJ,HV.cells,hnt, h1, h3, h5]; exact rfl)) ?_
     | refine r_box (by simp (disch:=first|decide|(simp only[zF,zG,hnt, h1, h3, h5];decide)) only [zA,zB,zC,zD,zE,zF,zG,zH,zI,zJ,zK,HV.cells,hnt, h1, h3, h5]; try exact rfl) ?_
     | refine r_alloc ?_
     | refine r_st (cs' := _) (by simp (disch:=first|decide|(simp only[zF,zG,hnt, h1, h3, h5];decide)) only [zA,zB,zC,zD,zE,zF,zG,zH,zI,zJ,zK,HV.cells,hnt, h1, h3, h5]; try exact rfl) (by simp (disch:=first|decide|(simp only[zF,zG,hnt, h1, h3, h5];decide)) only [zA,zB,zC,zD,zE,zF,zG,zH,zI,zJ,zK,HV.cells,hnt, h1, h3, h5]; try exact rfl) (by first|assumption|(simp (disch:=omega) only [get_same,get_other,hnt, h1, h3, h5]; first|done|exact rfl)) (by exact True.intro) (by rfl) (by rfl) (by first|assumption|rfl|(simp only [zI,zJ,HV.cells,hnt, h1, h3, h5]; exact rfl)) (by omega) ?_
     | refine r_add (by simp (disch:=first|decide|(simp only[zF,zG,hnt, h1, h3, h5];decide)) only [zA,zB,zC,zD,zE,zF,zG,zH,zI,zJ,zK,HV.cells,hnt, h1, h3, h5]; try exact rfl) (by simp (disch:=first|decide|(simp only[zF,zG,hnt, h1, h3, h5];decide)) only [zA,zB,zC,zD,zE,zF,zG,zH,zI,zJ,zK,HV.cells,hnt, h1, h3, h5]; try exact rfl) (by omega) (by omega) ?_
     | refine r_leq (by simp (disch:=first|decide|(simp only[zF,zG,hnt, h1, h3, h5];decide)) only [zA,zB,zC,zD,zE,zF,zG,zH,zI,zJ,zK,HV.cells,hnt, h1, h3, h5]; try exact rfl) (by simp (disch:=first|decide|(simp only[zF,zG,hnt, h1, h3, h5];decide)) only [zA,zB,zC,zD,zE,zF,zG,zH,zI,zJ,zK,HV.cells,hnt, h1, h3, h5]; try exact rfl) (fun hc => ?_) (fun hc => ?_) <;> (try (exfalso; omega))
     | refine r_build (by simp (disch:=first|decide|(simp only[zF,zG,hnt, h1, h3, h5];decide)) only [evParts,List.map_cons,List.map_nil,List.nil_append,List.cons_append,List.append_nil,zA,zB,zC,zD,zE,zF,zG,zH,zI,zJ,zK,HV.cells,hnt, h1, h3, h5]; try exact rfl) ?_
     | refine r_bs (by simp (disch:=first|decide|(simp only[zF,zG,hnt, h1, h3, h5];decide)) only [evParts,List.map_cons,List.map_nil,List.nil_append,List.cons_append,List.append_nil,zA,zB,zC,zD,zE,zF,zG,zH,zI,zJ,zK,HV.cells,hnt, h1, h3, h5]; try exact rfl) ?_
     | refine w_draw (by omega) (by repeat' first|assumption|refine D.upd ?_ (by omega)|exact D.mono (by assumption) (by omega)) ?_
     | refine d_nil ?_
     | refine d_rest rfl ?_
     | refine d_bs rfl ?_
     | refine d_box rfl ?_
     | refine d_alloc rfl ?_
     | refine d_one rfl ?_
     | refine d_next (by omega) ?_
     | refine d_laid ?_
     | fail
    refine loop73 hn htc hG hfl hb1 hb2 hb3 hb4 hb5 hgb hge m (i + 1) _ _ _ (by omega) (by omega) (by repeat' first|assumption|refine D.upd ?_ (by omega)|exact D.mono (by assumption) (by omega)) (fun b hb hne => ?_) (get_same _ _ _) ?_ ?_ ?_ ?_ ?_ ?_ hq
    all_goals try first|(simp only [zL,zM,zF,zG,hnt, hds, h1, h3, h5];done)|(simp (disch:=first|decide|(simp only[zF,zG,hnt, hds, h1, h3, h5];decide)) only [zA,zB,zC,zD,zE,zF,zG,zH,zI,zJ,zK,HV.cells,hnt, hds, h1, h3, h5];first|done|exact rfl)|assumption
    rw [get_other _ _ hne, get_other _ _ (by omega)]; exact hs b hb hne
theorem c_bounds {fl : Nat} {h : Tr HBlk} {nx : Nat} (hd : D h nx) {t : Tb} {n : Nat} {M : Mx} (hn : n ≤ 10) (htc : t.c = n) (hG : Good n M) : C LW fl 73 [.agg (bcells t M)] ⟨h, nx⟩ (ScL renc 2 (BL M (n + 1)) ⟨h, nx⟩) := by
  have ec : (bcells t M)[0 + 0 + 0]? = some (i64 n) := by rw [← htc]; rfl
  have ow : overwrite [.nilFunc, .nilFunc] 0 (HV.agg [.func 90 [] [], .func 91 [] []]).cells = some [.func 90 [] [], .func 91 [] []] := rfl
  refine c_in lw73 rfl rfl rfl ?_
  dsimp only [L73]
  repeat' first
   | refine r_nil ?_
   | refine th_n ?_
   | refine th_r ?_
   | refine th_e ?_
   | refine ib_n ?_
   | refine ib_r ?_
   | refine ib_e ?_
   | refine ib_x (by decide) ?_
   | refine w_exit ?_
   | refine w_seq ?_
   | refine w_reg ?_
   | refine w_ret ?_
   | refine w_skip ?_
   | refine w_block ?_
   | refine w_t (by simp (disch:=first|decide|(simp only[zF,zG];decide)) only [zA,zB,zC,zD,zE,zF,zG,zH,zI,zJ,zK,HV.cells]; first|done|exact rfl) ?_
   | refine w_f (by simp (disch:=first|decide|(simp only[zF,zG];decide)) only [zA,zB,zC,zD,zE,zF,zG,zH,zI,zJ,zK,HV.cells]; first|done|exact rfl) ?_
   | refine r_move (by simp (disch:=first|decide|(simp only[zF,zG];decide)) only [zA,zB,zC,zD,zE,zF,zG,zH,zI,zJ,zK,HV.cells]; try exact rfl) ?_
   | refine r_fa (by simp (disch:=first|decide|(simp only[zF,zG];decide)) only [zA,zB,zC,zD,zE,zF,zG,zH,zI,zJ,zK,HV.cells]; try exact rfl) ?_
   | refine r_ld1 (by simp (disch:=first|decide|(simp only[zF,zG];decide)) only [zA,zB,zC,zD,zE,zF,zG,zH,zI,zJ,zK,HV.cells]; try exact rfl) (by first|assumption|(simp (disch:=omega) only [get_same,get_other]; first|done|exact rfl)) (by first|assumption|rfl|(simp only [zI,zJ,HV.cells]; exact rfl)) ?_
   | refine r_ldn (by simp (disch:=first|decide|(simp only[zF,zG];decide)) only [zA,zB,zC,zD,zE,zF,zG,zH,zI,zJ,zK,HV.cells]; try exact rfl) (by first|assumption|(simp (disch:=omega) only [get_same,get_other]; first|done|exact rfl)) (by first|assumption|rfl|(simp only [zI,zJ,HV.cells]; exact rfl)) ?_
   | refine r_box (by simp (disch:=first|decide|(simp only[zF,zG];decide)) only [zA,zB,zC,zD,zE,zF,zG,zH,zI,zJ,zK,HV.cells]; try exact rfl) ?_
   | refine r_alloc ?_
   | refine r_st (cs' := _) (by simp (disch:=first|decide|(simp only[zF,zG];decide)) only [zA,zB,zC,zD,zE,zF,zG,zH,zI,zJ,zK,HV.cells]; try exact rfl) (by simp (disch:=first|decide|(simp only[zF,zG];decide)) only [zA,zB,zC,zD,zE,zF,zG,zH,zI,zJ,zK,HV.cells]; try exact rfl) (by first|assumption|(simp (disch:=omega) only [get_same,get_other]; first|done|exact rfl)) (by exact True.intro) (by rfl) (by rfl) (by first|assumption|rfl|(simp only [zI,zJ,HV.cells]; exact rfl)) (by omega) ?_
   | refine r_add (by simp (disch:=first|decide|(simp only[zF,zG];decide)) only [zA,zB,zC,zD,zE,zF,zG,zH,zI,zJ,zK,HV.cells]; try exact rfl) (by simp (disch:=first|decide|(simp only[zF,zG];decide)) only [zA,zB,zC,zD,zE,zF,zG,zH,zI,zJ,zK,HV.cells]; try exact rfl) (by omega) (by omega) ?_
   | refine r_leq (by simp (disch:=first|decide|(simp only[zF,zG];decide)) only [zA,zB,zC,zD,zE,zF,zG,zH,zI,zJ,zK,HV.cells]; try exact rfl) (by simp (disch:=first|decide|(simp only[zF,zG];decide)) only [zA,zB,zC,zD,zE,zF,zG,zH,zI,zJ,zK,HV.cells]; try exact rfl) (fun hc => ?_) (fun hc => ?_) <;> (try (exfalso; omega))
   | refine r_build (by simp (disch:=first|decide|(simp only[zF,zG];decide)) only [evParts,List.map_cons,List.map_nil,List.nil_append,List.cons_append,List.append_nil,zA,zB,zC,zD,zE,zF,zG,zH,zI,zJ,zK,HV.cells]; try exact rfl) ?_
   | refine r_bs (by simp (disch:=first|decide|(simp only[zF,zG];decide)) only [evParts,List.map_cons,List.map_nil,List.nil_append,List.cons_append,List.append_nil,zA,zB,zC,zD,zE,zF,zG,zH,zI,zJ,zK,HV.cells]; try exact rfl) ?_
   | refine r_calls (by simp (disch:=first|decide|(simp only[zF,zG];decide)) only [zA,zB,zC,zD,zE,zF,zG,zH,zI,zJ,zK,HV.cells]; try exact rfl) (by simp (disch:=first|decide|(simp only[zF,zG];decide)) only [List.map_cons,List.map_nil,List.nil_append,List.cons_append,List.append_nil,zA,zB,zC,zD,zE,zF,zG,zH,zI,zJ,zK,HV.cells]; try exact rfl) c_bothEnds (fun n' hn' => ?_)
   | refine w_draw (by omega) (by repeat' first|assumption|refine D.upd ?_ (by omega)|exact D.mono (by assumption) (by omega)) ?_
   | refine d_nil ?_
   | refine d_rest rfl ?_
   | refine d_bs rfl ?_
   | refine d_box rfl ?_
   | refine d_alloc rfl ?_
   | refine d_one rfl ?_
   | refine d_next (by omega) ?_
   | refine d_laid ?_
   | fail
  refine r_ms (ln := 0) (cn := n + 1) (by simp (disch:=first|decide|(simp only[zF,zG];decide)) only [zA,zB,zC,zD,zE,zF,zG,zH,zI,zJ,zK,HV.cells]; try exact rfl) (by simp (disch:=first|decide|(simp only[zF,zG];decide)) only [zA,zB,zC,zD,zE,zF,zG,zH,zI,zJ,zK,HV.cells]; try exact rfl) (by omega) (by omega) (by omega) ?_
  rw [repl_two, show List.replicate (2 * (n + 1)) (i64 0) = FC renc (BL M 0) (2 * (n + 1)) from rfl]
  repeat' first
   | refine r_nil ?_
   | refine th_n ?_
   | refine th_r ?_
   | refine th_e ?_
   | refine ib_n ?_
   | refine ib_r ?_
   | refine ib_e ?_
   | refine ib_x (by decide) ?_
   | refine w_exit ?_
   | refine w_seq ?_
   | refine w_reg ?_
   | refine w_ret ?_
   | refine w_skip ?_
   | refine w_block ?_
   | refine w_t (by simp (disch:=first|decide|(simp only[zF,zG];decide)) only [zA,zB,zC,zD,zE,zF,zG,zH,zI,zJ,zK,HV.cells]; first|done|exact rfl) ?_
   | refine w_f (by simp (disch:=first|decide|(simp only[zF,zG];decide)) only [zA,zB,zC,zD,zE,zF,zG,zH,zI,zJ,zK,HV.cells]; first|done|exact rfl) ?_
   | refine r_move (by simp (disch:=first|decide|(simp only[zF,zG];decide)) only [zA,zB,zC,zD,zE,zF,zG,zH,zI,zJ,zK,HV.cells]; try exact rfl) ?_
   | refine r_fa (by simp (disch:=first|decide|(simp only[zF,zG];decide)) only [zA,zB,zC,zD,zE,zF,zG,zH,zI,zJ,zK,HV.cells]; try exact rfl) ?_
   | refine r_ld1 (by simp (disch:=first|decide|(simp only[zF,zG];decide)) only [zA,zB,zC,zD,zE,zF,zG,zH,zI,zJ,zK,HV.cells]; try exact rfl) (by first|assumption|(simp (disch:=omega) only [get_same,get_other]; first|done|exact rfl)) (by first|assumption|rfl|(simp only [zI,zJ,HV.cells]; exact rfl)) ?_
   | refine r_ldn (by simp (disch:=first|decide|(simp only[zF,zG];decide)) only [zA,zB,zC,zD,zE,zF,zG,zH,zI,zJ,zK,HV.cells]; try exact rfl) (by first|assumption|(simp (disch:=omega) only [get_same,get_other]; first|done|exact rfl)) (by first|assumption|rfl|(simp only [zI,zJ,HV.cells]; exact rfl)) ?_
   | refine r_box (by simp (disch:=first|decide|(simp only[zF,zG];decide)) only [zA,zB,zC,zD,zE,zF,zG,zH,zI,zJ,zK,HV.cells]; try exact rfl) ?_
   | refine r_alloc ?_
   | refine r_st (cs' := _) (by simp (disch:=first|decide|(simp only[zF,zG];decide)) only [zA,zB,zC,zD,zE,zF,zG,zH,zI,zJ,zK,HV.cells]; try exact rfl) (by simp (disch:=first|decide|(simp only[zF,zG];decide)) only [zA,zB,zC,zD,zE,zF,zG,zH,zI,zJ,zK,HV.cells]; try exact rfl) (by first|assumption|(simp (disch:=omega) only [get_same,get_other]; first|done|exact rfl)) (by exact True.intro) (by rfl) (by rfl) (by first|assumption|rfl|(simp only [zI,zJ,HV.cells]; exact rfl)) (by omega) ?_
   | refine r_add (by simp (disch:=first|decide|(simp only[zF,zG];decide)) only [zA,zB,zC,zD,zE,zF,zG,zH,zI,zJ,zK,HV.cells]; try exact rfl) (by simp (disch:=first|decide|(simp only[zF,zG];decide)) only [zA,zB,zC,zD,zE,zF,zG,zH,zI,zJ,zK,HV.cells]; try exact rfl) (by omega) (by omega) ?_
   | refine r_leq (by simp (disch:=first|decide|(simp only[zF,zG];decide)) only [zA,zB,zC,zD,zE,zF,zG,zH,zI,zJ,zK,HV.cells]; try exact rfl) (by simp (disch:=first|decide|(simp only[zF,zG];decide)) only [zA,zB,zC,zD,zE,zF,zG,zH,zI,zJ,zK,HV.cells]; try exact rfl) (fun hc => ?_) (fun hc => ?_) <;> (try (exfalso; omega))
   | refine r_build (by simp (disch:=first|decide|(simp only[zF,zG];decide)) only [evParts,List.map_cons,List.map_nil,List.nil_append,List.cons_append,List.append_nil,zA,zB,zC,zD,zE,zF,zG,zH,zI,zJ,zK,HV.cells]; try exact rfl) ?_
   | refine r_bs (by simp (disch:=first|decide|(simp only[zF,zG];decide)) only [evParts,List.map_cons,List.map_nil,List.nil_append,List.cons_append,List.append_nil,zA,zB,zC,zD,zE,zF,zG,zH,zI,zJ,zK,HV.cells]; try exact rfl) ?_
   | refine w_draw (by omega) (by repeat' first|assumption|refine D.upd ?_ (by omega)|exact D.mono (by assumption) (by omega)) ?_
   | refine d_nil ?_
   | refine d_rest rfl ?_
   | refine d_bs rfl ?_
   | refine d_box rfl ?_
   | refine d_alloc rfl ?_
   | refine d_one rfl ?_
   | refine d_next (by omega) ?_
   | refine d_laid ?_
   | fail
  refine loop73 (bb := nx) (eb := n') (rb := n' + 1) (n0 := n' + 1 + 1) hn htc hG (by omega) (by omega) (by omega) (by omega) (by omega) (by omega) (by first|assumption|(simp (disch:=omega) only [get_same,get_other]; first|done|exact rfl)) (by first|assumption|(simp (disch:=omega) only [get_same,get_other]; first|done|exact rfl)) (n + 1) 0 _ _ (n' + 1 + 1) (by omega) (Nat.le_refl _) (by repeat' first|assumption|refine D.upd ?_ (by omega)|exact D.mono (by assumption) (by omega)) (fun b _ _ => rfl) (by first|assumption|(simp (disch:=omega) only [get_same,get_other]; first|done|exact rfl)) ?_ ?_ ?_ ?_ ?_ ?_ (fun a' h' n2 g0 g1 g2 g3 g4 => ?_)
  all_goals try first|(simp only [zL,zM,zF,zG];done)|(simp (disch:=first|decide|(simp only[zF,zG];decide)) only [zA,zB,zC,zD,zE,zF,zG,zH,zI,zJ,zK,HV.cells];first|done|exact rfl)|assumption
  repeat' first
   | refine r_nil ?_
   | refine th_n ?_
   | refine th_r ?_
   | refine th_e ?_
   | refine ib_n ?_
   | refine ib_r ?_
   | refine ib_e ?_
   | refine ib_x (by decide) ?_
   | refine w_exit ?_
   | refine w_seq ?_
   | refine w_reg ?_
   | refine w_ret ?_
   | refine w_skip ?_
   | refine w_block ?_
   | refine w_t (by simp (disch:=first|decide|(simp only[zF,zG,g2, g4];decide)) only [zA,zB,zC,zD,zE,zF,zG,zH,zI,zJ,zK,HV.cells,g2, g4]; first|done|exact rfl) ?_
   | refine w_f (by simp (disch:=first|decide|(simp only[zF,zG,g2, g4];decide)) only [zA,zB,zC,zD,zE,zF,zG,zH,zI,zJ,zK,HV.cells,g2, g4]; first|done|exact rfl) ?_
   | refine r_move (by simp (disch:=first|decide|(simp only[zF,zG,g2, g4];decide)) only [zA,zB,zC,zD,zE,zF,zG,zH,zI,zJ,zK,HV.cells,g2, g4]; try exact rfl) ?_
   | refine r_fa (by simp (disch:=first|decide|(simp only[zF,zG,g2, g4];decide)) only [zA,zB,zC,zD,zE,zF,zG,zH,zI,zJ,zK,HV.cells,g2, g4]; try exact rfl) ?_
   | refine r_ld1 (by simp (disch:=first|decide|(simp only[zF,zG,g2, g4];decide)) only [zA,zB,zC,zD,zE,zF,zG,zH,zI,zJ,zK,HV.cells,g2, g4]; try exact rfl) (by first|assumption|(simp (disch:=omega) only [get_same,get_other,g2, g4]; first|done|exact rfl)) (by first|assumption|rfl|(simp only [zI,zJ,HV.cells,g2, g4]; exact rfl)) ?_
   | refine r_ldn (by simp (disch:=first|decide|(simp only[zF,zG,g2, g4];decide)) only [zA,zB,zC,zD,zE,zF,zG,zH,zI,zJ,zK,HV.cells,g2, g4]; try exact rfl) (by first|assumption|(simp (disch:=omega) only [get_same,get_other,g2, g4]; first|done|exact rfl)) (by first|assumption|rfl|(simp only [zI,zJ,HV.cells,g2, g4]; exact rfl)) ?_
   | refine r_box (by simp (disch:=first|decide|(simp only[zF,zG,g2, g4];decide)) only [zA,zB,zC,zD,zE,zF,zG,zH,zI,zJ,zK,HV.cells,g2, g4]; try exact rfl) ?_
   | refine r_alloc ?_
   | refine r_st (cs' := _) (by simp (disch:=first|decide|(simp only[zF,zG,g2, g4];decide)) only [zA,zB,zC,zD,zE,zF,zG,zH,zI,zJ,zK,HV.cells,g2, g4]; try exact rfl) (by simp (disch:=first|decide|(simp only[zF,zG,g2, g4];decide)) only [zA,zB,zC,zD,zE,zF,zG,zH,zI,zJ,zK,HV.cells,g2, g4]; try exact rfl) (by first|assumption|(simp (disch:=omega) only [get_same,get_other,g2, g4]; first|done|exact rfl)) (by exact True.intro) (by rfl) (by rfl) (by first|assumption|rfl|(simp only [zI,zJ,HV.cells,g2, g4]; exact rfl)) (by omega) ?_
   | refine r_add (by simp (disch:=first|decide|(simp only[zF,zG,g2, g4];decide)) only [zA,zB,zC,zD,zE,zF,zG,zH,zI,zJ,zK,HV.cells,g2, g4]; try exact rfl) (by simp (disch:=first|decide|(simp only[zF,zG,g2, g4];decide)) only [zA,zB,zC,zD,zE,zF,zG,zH,zI,zJ,zK,HV.cells,g2, g4]; try exact rfl) (by omega) (by omega) ?_
   | refine r_leq (by simp (disch:=first|decide|(simp only[zF,zG,g2, g4];decide)) only [zA,zB,zC,zD,zE,zF,zG,zH,zI,zJ,zK,HV.cells,g2, g4]; try exact rfl) (by simp (disch:=first|decide|(simp only[zF,zG,g2, g4];decide)) only [zA,zB,zC,zD,zE,zF,zG,zH,zI,zJ,zK,HV.cells,g2, g4]; try exact rfl) (fun hc => ?_) (fun hc => ?_) <;> (try (exfalso; omega))
   | refine r_build (by simp (disch:=first|decide|(simp only[zF,zG,g2, g4];decide)) only [evParts,List.map_cons,List.map_nil,List.nil_append,List.cons_append,List.append_nil,zA,zB,zC,zD,zE,zF,zG,zH,zI,zJ,zK,HV.cells,g2, g4]; try exact rfl) ?_
   | refine r_bs (by simp (disch:=first|decide|(simp only[zF,zG,g2, g4];decide)) only [evParts,List.map_cons,List.map_nil,List.nil_append,List.cons_append,List.append_nil,zA,zB,zC,zD,zE,zF,zG,zH,zI,zJ,zK,HV.cells,g2, g4]; try exact rfl) ?_
   | refine w_draw (by omega) (by repeat' first|assumption|refine D.upd ?_ (by omega)|exact D.mono (by assumption) (by omega)) ?_
   | refine d_nil ?_
   | refine d_rest rfl ?_
   | refine d_bs rfl ?_
   | refine d_box rfl ?_
   | refine d_alloc rfl ?_
   | refine d_one rfl ?_
   | refine d_next (by omega) ?_
   | refine d_laid ?_
   | fail
  refine fin_r (by simp only [zL, g3]) (by simp (disch:=first|decide|(simp only[zF,zG,g2, g4];decide)) only [zA,zB,zC,zD,zE,zF,zG,zH,zI,zJ,zK,HV.cells,g2, g4]; try exact rfl) ?_
  have := scl_blk (c := n + 1) (l := BL M (n + 1)) (rest := []) (k := .exact) (nx := n2) (h := h') renc_len renc_flat rfl hd (show nx ≤ n' + 1 by omega) (by omega) (by rw [g1]; rfl)
  rwa [BL_len] at this
theorem readGo_good {n : Nat} : ∀ (l seen : List Rd) (M M' : Mx), (∀ r ∈ l, RdOk2 n r) → Good n M → readGo n seen l M = some M' → Good n M'
  | [], _, M, M', _, hG, h => by cases h; exact hG
  | r :: rs, seen, M, M', hl, hG, h => by
    unfold readGo at h
    split at h
    · exact readGo_good rs seen M M' (fun x hx => hl x (List.mem_cons_of_mem _ hx)) hG h
    · split at h
      · rename_i M1 h1
        exact readGo_good rs _ M1 M' (fun x hx => hl x (List.mem_cons_of_mem _ hx)) (withM_good hG (hl r (List.mem_cons_self ..)) h1) h
      · cases h
theorem readO_good {t : Tb} {n : Nat} {l : List Rd} {M : Mx} (htc : t.c = n) (ht : TubeOk t.c t.t t.a t.b) (hl : ∀ r ∈ l, RdOk2 t.c r) (h : readO t n l = some M) : Good n M :=
  readGo_good l [] _ M (by rw [← htc]; exact hl) (unr_ok htc ht).2.2 h
/-- What 'Heights' hands back: a list and an error. -/
def HeightsK (t : Tb) (n : Nat) (l : List Rd) (σ : HS) : HV → HS → Prop := fun v σ' =>
  (∃ M, errOf t.c t.t t.a t.b l = 0 ∧ readO t n l = some M ∧ ∃ p c h' n', v = .tuple [.slice p (n + 1) c, i64 0] ∧ σ' = ⟨h', n'⟩ ∧ Ext σ.h σ.nx h' n' ∧ Row renc 2 h' n' p (BL M (n + 1))) ∨
  (errOf t.c t.t t.a t.b l = 0 ∧ readO t n l = none ∧ Sc (· = .tuple [.slice none 0 0, i64 9]) σ v σ') ∨
  (errOf t.c t.t t.a t.b l ≠ 0 ∧ Sc (· = .tuple [.slice none 0 0, i64 (errOf t.c t.t t.a t.b l)]) σ v σ')
/- 29 -/
theorem c_Heights {fl : Nat} {h : Tr HBlk} {nx : Nat} (hd : D h nx) {t : Tb} {n : Nat} {p : Option (Nat × Nat)} {l : List Rd} {m cp : Nat} (htc : TubeOk t.c t.t t.a t.b → t.c = n) (hm : m = l.length) (hlen : l.length < 1000000) (hrow : Row Rd.enc 4 h nx p l) :
    C LW fl 29 [.agg t.cells, .slice p m cp] ⟨h, nx⟩ (HeightsK t n l ⟨h, nx⟩) := by
  subst hm
  have tk : takeN 4 (t.cells.drop 0) = some t.cells := rfl
  have owz : overwrite (Zr 125) 0 (HV.agg (Zr 125)).cells = some (Zr 125) := ow_all _ _ rfl
  have cF : ∀ fl h' n', Ext h nx h' n' → C LW fl 72 [.agg t.cells, .slice p l.length cp, .bool true] ⟨h', n'⟩ (Sc (· = forO t n l true) ⟨h', n'⟩) := fun fl h' n' e => c_readFor e.d htc rfl hlen (hrow.ext e)
  refine c_in lw29 rfl rfl rfl ?_
  dsimp only [L29]
  by_cases hE : errOf t.c t.t t.a t.b l = 0
  · obtain ⟨hT, hL, hR⟩ := errOf_zero hE
    cases hO : readO t n l with
    | none =>
      have cF1 : ∀ fl h' n', Ext h nx h' n' → C LW fl 72 [.agg t.cells, .slice p l.length cp, .bool true] ⟨h', n'⟩ (Sc (· = .tuple [.agg (Zr 125), i64 9]) ⟨h', n'⟩) := fun fl h' n' e => by have := cF fl h' n' e; unfold forO at this; rw [if_pos hE, if_pos rfl, hO] at this; exact this
      repeat' first
       | refine r_nil ?_
       | refine th_n ?_
       | refine th_r ?_
       | refine w_seq ?_
       | refine w_reg ?_
       | refine w_ret ?_
       | refine w_skip ?_
       | refine w_t (by simp (disch:=first|decide|(simp only[zF,zG];decide)) only [zA,zB,zC,zD,zE,zF,zG,zH,zI,zJ,zK,HV.cells]; first|done|exact rfl) ?_
       | refine w_f (by simp (disch:=first|decide|(simp only[zF,zG];decide)) only [zA,zB,zC,zD,zE,zF,zG,zH,zI,zJ,zK,HV.cells]; first|done|exact rfl) ?_
       | refine r_move (by simp (disch:=first|decide|(simp only[zF,zG];decide)) only [zA,zB,zC,zD,zE,zF,zG,zH,zI,zJ,zK,HV.cells]; try exact rfl) ?_
       | refine r_ldn (by simp (disch:=first|decide|(simp only[zF,zG];decide)) only [zA,zB,zC,zD,zE,zF,zG,zH,zI,zJ,zK,HV.cells]; try exact rfl) (by first|assumption|(simp (disch:=omega) only [get_same,get_other]; first|done|exact rfl)) (by first|assumption|rfl|(simp only [zI,zJ,HV.cells]; exact rfl)) ?_
       | refine r_box (by simp (disch:=first|decide|(simp only[zF,zG];decide)) only [zA,zB,zC,zD,zE,zF,zG,zH,zI,zJ,zK,HV.cells]; try exact rfl) ?_
       | refine r_alloc ?_
       | refine r_st (cs' := _) (by simp (disch:=first|decide|(simp only[zF,zG];decide)) only [zA,zB,zC,zD,zE,zF,zG,zH,zI,zJ,zK,HV.cells]; try exact rfl) (by simp (disch:=first|decide|(simp only[zF,zG];decide)) only [zA,zB,zC,zD,zE,zF,zG,zH,zI,zJ,zK,HV.cells]; try exact rfl) (by first|assumption|(simp (disch:=omega) only [get_same,get_other]; first|done|exact rfl)) (by exact True.intro) (by rfl) (by rfl) (by first|assumption|rfl|(simp only [zI,zJ,HV.cells]; exact rfl)) (by omega) ?_
       | refine r_eq (by simp (disch:=first|decide|(simp only[zF,zG];decide)) only [zA,zB,zC,zD,zE,zF,zG,zH,zI,zJ,zK,HV.cells]; try exact rfl) (by simp (disch:=first|decide|(simp only[zF,zG];decide)) only [zA,zB,zC,zD,zE,zF,zG,zH,zI,zJ,zK,HV.cells]; try exact rfl) (fun hc => ?_) (fun hc => ?_) <;> (try (exfalso; omega))
       | refine r_ne (by simp (disch:=first|decide|(simp only[zF,zG];decide)) only [zA,zB,zC,zD,zE,zF,zG,zH,zI,zJ,zK,HV.cells]; try exact rfl) (by simp (disch:=first|decide|(simp only[zF,zG];decide)) only [zA,zB,zC,zD,zE,zF,zG,zH,zI,zJ,zK,HV.cells]; try exact rfl) (fun hc => ?_) (fun hc => ?_) <;> (try (exfalso; omega))
       | refine r_eqb (by simp (disch:=first|decide|(simp only[zF,zG];decide)) only [zA,zB,zC,zD,zE,zF,zG,zH,zI,zJ,zK,HV.cells]; try exact rfl) (by simp (disch:=first|decide|(simp only[zF,zG];decide)) only [zA,zB,zC,zD,zE,zF,zG,zH,zI,zJ,zK,HV.cells]; try exact rfl) ?_
       | refine r_ext (by simp (disch:=first|decide|(simp only[zF,zG];decide)) only [zA,zB,zC,zD,zE,zF,zG,zH,zI,zJ,zK,HV.cells]; try exact rfl) (by first|assumption|rfl|(simp only [zI,zJ,HV.cells]; exact rfl)) ?_
       | refine r_calls (by simp (disch:=first|decide|(simp only[zF,zG];decide)) only [zA,zB,zC,zD,zE,zF,zG,zH,zI,zJ,zK,HV.cells]; try exact rfl) (by simp (disch:=first|decide|(simp only[zF,zG];decide)) only [List.map_cons,List.map_nil,List.nil_append,List.cons_append,List.append_nil,zA,zB,zC,zD,zE,zF,zG,zH,zI,zJ,zK,HV.cells]; try exact rfl) (cF1 _ _ _ (by repeat' first|assumption|refine Ext.put ?_ (by omega) (by omega)|exact Ext.up (by assumption) (by omega)|exact Ext.nx (by assumption) (by omega))) (fun n' hn' => ?_)
       | fail
      refine fin_m (by simp only [zL,zM]) (res_t (by simp (disch:=first|decide|(simp only[zF,zG];decide)) only [zA,zB,zC,zD,zE,zF,zG,zH,zI,zJ,zK,HV.cells]; try exact rfl) (res_t (by simp (disch:=first|decide|(simp only[zF,zG];decide)) only [zA,zB,zC,zD,zE,zF,zG,zH,zI,zJ,zK,HV.cells]; try exact rfl) res_nil)) (.inr (.inl ⟨hE, hO, sc_flat rfl (by dsimp only; omega) rfl⟩))
    | some M =>
      have hG := readO_good (htc hT) hT hR hO
      have hTo := hT
      unfold TubeOk at hTo
      have hcn := htc hT
      have tkb := take_bc t M
      have owb := ow_bc t M
      have cF1 : ∀ fl h' n', Ext h nx h' n' → C LW fl 72 [.agg t.cells, .slice p l.length cp, .bool true] ⟨h', n'⟩ (Sc (· = .tuple [.agg (bcells t M), i64 0]) ⟨h', n'⟩) := fun fl h' n' e => by have := cF fl h' n' e; unfold forO at this; rw [if_pos hE, if_pos rfl, hO] at this; exact this
      repeat' first
       | refine r_nil ?_
       | refine th_n ?_
       | refine th_r ?_
       | refine w_seq ?_
       | refine w_reg ?_
       | refine w_ret ?_
       | refine w_skip ?_
       | refine w_t (by simp (disch:=first|decide|(simp only[zF,zG];decide)) only [zA,zB,zC,zD,zE,zF,zG,zH,zI,zJ,zK,HV.cells]; first|done|exact rfl) ?_
       | refine w_f (by simp (disch:=first|decide|(simp only[zF,zG];decide)) only [zA,zB,zC,zD,zE,zF,zG,zH,zI,zJ,zK,HV.cells]; first|done|exact rfl) ?_
       | refine r_move (by simp (disch:=first|decide|(simp only[zF,zG];decide)) only [zA,zB,zC,zD,zE,zF,zG,zH,zI,zJ,zK,HV.cells]; try exact rfl) ?_
       | refine r_ldn (by simp (disch:=first|decide|(simp only[zF,zG];decide)) only [zA,zB,zC,zD,zE,zF,zG,zH,zI,zJ,zK,HV.cells]; try exact rfl) (by first|assumption|(simp (disch:=omega) only [get_same,get_other]; first|done|exact rfl)) (by first|assumption|rfl|(simp only [zI,zJ,HV.cells]; exact rfl)) ?_
       | refine r_box (by simp (disch:=first|decide|(simp only[zF,zG];decide)) only [zA,zB,zC,zD,zE,zF,zG,zH,zI,zJ,zK,HV.cells]; try exact rfl) ?_
       | refine r_alloc ?_
       | refine r_st (cs' := _) (by simp (disch:=first|decide|(simp only[zF,zG];decide)) only [zA,zB,zC,zD,zE,zF,zG,zH,zI,zJ,zK,HV.cells]; try exact rfl) (by simp (disch:=first|decide|(simp only[zF,zG];decide)) only [zA,zB,zC,zD,zE,zF,zG,zH,zI,zJ,zK,HV.cells]; try exact rfl) (by first|assumption|(simp (disch:=omega) only [get_same,get_other]; first|done|exact rfl)) (by exact True.intro) (by rfl) (by rfl) (by first|assumption|rfl|(simp only [zI,zJ,HV.cells]; exact rfl)) (by omega) ?_
       | refine r_eq (by simp (disch:=first|decide|(simp only[zF,zG];decide)) only [zA,zB,zC,zD,zE,zF,zG,zH,zI,zJ,zK,HV.cells]; try exact rfl) (by simp (disch:=first|decide|(simp only[zF,zG];decide)) only [zA,zB,zC,zD,zE,zF,zG,zH,zI,zJ,zK,HV.cells]; try exact rfl) (fun hc => ?_) (fun hc => ?_) <;> (try (exfalso; omega))
       | refine r_ne (by simp (disch:=first|decide|(simp only[zF,zG];decide)) only [zA,zB,zC,zD,zE,zF,zG,zH,zI,zJ,zK,HV.cells]; try exact rfl) (by simp (disch:=first|decide|(simp only[zF,zG];decide)) only [zA,zB,zC,zD,zE,zF,zG,zH,zI,zJ,zK,HV.cells]; try exact rfl) (fun hc => ?_) (fun hc => ?_) <;> (try (exfalso; omega))
       | refine r_eqb (by simp (disch:=first|decide|(simp only[zF,zG];decide)) only [zA,zB,zC,zD,zE,zF,zG,zH,zI,zJ,zK,HV.cells]; try exact rfl) (by simp (disch:=first|decide|(simp only[zF,zG];decide)) only [zA,zB,zC,zD,zE,zF,zG,zH,zI,zJ,zK,HV.cells]; try exact rfl) ?_
       | refine r_ext (by simp (disch:=first|decide|(simp only[zF,zG];decide)) only [zA,zB,zC,zD,zE,zF,zG,zH,zI,zJ,zK,HV.cells]; try exact rfl) (by first|assumption|rfl|(simp only [zI,zJ,HV.cells]; exact rfl)) ?_
       | refine r_calls (by simp (disch:=first|decide|(simp only[zF,zG];decide)) only [zA,zB,zC,zD,zE,zF,zG,zH,zI,zJ,zK,HV.cells]; try exact rfl) (by simp (disch:=first|decide|(simp only[zF,zG];decide)) only [List.map_cons,List.map_nil,List.nil_append,List.cons_append,List.append_nil,zA,zB,zC,zD,zE,zF,zG,zH,zI,zJ,zK,HV.cells]; try exact rfl) (cF1 _ _ _ (by repeat' first|assumption|refine Ext.put ?_ (by omega) (by omega)|exact Ext.up (by assumption) (by omega)|exact Ext.nx (by assumption) (by omega))) (fun n' hn' => ?_)
       | fail
      case refine_2 =>
        refine r_callc (by simp (disch:=first|decide|(simp only[zF,zG];decide)) only [zA,zB,zC,zD,zE,zF,zG,zH,zI,zJ,zK,HV.cells]; try exact rfl) (by simp (disch:=first|decide|(simp only[zF,zG];decide)) only [List.map_cons,List.map_nil,List.nil_append,List.cons_append,List.append_nil,zA,zB,zC,zD,zE,zF,zG,zH,zI,zJ,zK,HV.cells]; try exact rfl) (c_bounds (M := M) (by repeat' first|assumption|refine D.upd ?_ (by omega)|exact D.mono (by assumption) (by omega)) (by omega) hcn hG) ?_
        rintro w σ' ⟨p2, c2, h2, n2, rfl, rfl, e2, hr2⟩
        dsimp only at e2
        have hle := e2.le
        have e3 : Ext h nx h2 n2 := Ext.trans (by repeat' first|assumption|refine Ext.put ?_ (by omega) (by omega)|exact Ext.up (by assumption) (by omega)|exact Ext.nx (by assumption) (by omega)) e2
        rw [BL_len]
        repeat' first
         | refine r_nil ?_
         | refine th_n ?_
         | refine th_r ?_
         | refine w_seq ?_
         | refine w_reg ?_
         | refine w_ret ?_
         | refine w_skip ?_
         | refine w_t (by simp (disch:=first|decide|(simp only[zF,zG];decide)) only [zA,zB,zC,zD,zE,zF,zG,zH,zI,zJ,zK,HV.cells]; first|done|exact rfl) ?_
         | refine w_f (by simp (disch:=first|decide|(simp only[zF,zG];decide)) only [zA,zB,zC,zD,zE,zF,zG,zH,zI,zJ,zK,HV.cells]; first|done|exact rfl) ?_
         | refine r_move (by simp (disch:=first|decide|(simp only[zF,zG];decide)) only [zA,zB,zC,zD,zE,zF,zG,zH,zI,zJ,zK,HV.cells]; try exact rfl) ?_
         | refine r_ldn (by simp (disch:=first|decide|(simp only[zF,zG];decide)) only [zA,zB,zC,zD,zE,zF,zG,zH,zI,zJ,zK,HV.cells]; try exact rfl) (by first|assumption|(simp (disch:=omega) only [get_same,get_other]; first|done|exact rfl)) (by first|assumption|rfl|(simp only [zI,zJ,HV.cells]; exact rfl)) ?_
         | refine r_box (by simp (disch:=first|decide|(simp only[zF,zG];decide)) only [zA,zB,zC,zD,zE,zF,zG,zH,zI,zJ,zK,HV.cells]; try exact rfl) ?_
         | refine r_alloc ?_
         | refine r_st (cs' := _) (by simp (disch:=first|decide|(simp only[zF,zG];decide)) only [zA,zB,zC,zD,zE,zF,zG,zH,zI,zJ,zK,HV.cells]; try exact rfl) (by simp (disch:=first|decide|(simp only[zF,zG];decide)) only [zA,zB,zC,zD,zE,zF,zG,zH,zI,zJ,zK,HV.cells]; try exact rfl) (by first|assumption|(simp (disch:=omega) only [get_same,get_other]; first|done|exact rfl)) (by exact True.intro) (by rfl) (by rfl) (by first|assumption|rfl|(simp only [zI,zJ,HV.cells]; exact rfl)) (by omega) ?_
         | refine r_eq (by simp (disch:=first|decide|(simp only[zF,zG];decide)) only [zA,zB,zC,zD,zE,zF,zG,zH,zI,zJ,zK,HV.cells]; try exact rfl) (by simp (disch:=first|decide|(simp only[zF,zG];decide)) only [zA,zB,zC,zD,zE,zF,zG,zH,zI,zJ,zK,HV.cells]; try exact rfl) (fun hc => ?_) (fun hc => ?_) <;> (try (exfalso; omega))
         | refine r_ne (by simp (disch:=first|decide|(simp only[zF,zG];decide)) only [zA,zB,zC,zD,zE,zF,zG,zH,zI,zJ,zK,HV.cells]; try exact rfl) (by simp (disch:=first|decide|(simp only[zF,zG];decide)) only [zA,zB,zC,zD,zE,zF,zG,zH,zI,zJ,zK,HV.cells]; try exact rfl) (fun hc => ?_) (fun hc => ?_) <;> (try (exfalso; omega))
         | refine r_eqb (by simp (disch:=first|decide|(simp only[zF,zG];decide)) only [zA,zB,zC,zD,zE,zF,zG,zH,zI,zJ,zK,HV.cells]; try exact rfl) (by simp (disch:=first|decide|(simp only[zF,zG];decide)) only [zA,zB,zC,zD,zE,zF,zG,zH,zI,zJ,zK,HV.cells]; try exact rfl) ?_
         | refine r_ext (by simp (disch:=first|decide|(simp only[zF,zG];decide)) only [zA,zB,zC,zD,zE,zF,zG,zH,zI,zJ,zK,HV.cells]; try exact rfl) (by first|assumption|rfl|(simp only [zI,zJ,HV.cells]; exact rfl)) ?_
         | fail
        obtain ⟨h3, g1, g2, g3⟩ := gc_tup (n := n + 1) (c := c2) (rest := [i64 0]) hd e3 hr2
        refine fin_m (by simp only [zL,zM]) (res_t (by simp (disch:=first|decide|(simp only[zF,zG];decide)) only [zA,zB,zC,zD,zE,zF,zG,zH,zI,zJ,zK,HV.cells]; try exact rfl) (res_t (by simp (disch:=first|decide|(simp only[zF,zG];decide)) only [zA,zB,zC,zD,zE,zF,zG,zH,zI,zJ,zK,HV.cells]; try exact rfl) res_nil)) (.inl ⟨M, hE, hO, p2, c2, h3, n2, rfl, g1, g2, g3⟩)
  · have cF1 : ∀ fl h' n', Ext h nx h' n' → C LW fl 72 [.agg t.cells, .slice p l.length cp, .bool true] ⟨h', n'⟩ (Sc (· = .tuple [.agg (Zr 125), i64 (errOf t.c t.t t.a t.b l)]) ⟨h', n'⟩) := fun fl h' n' e => by have := cF fl h' n' e; unfold forO at this; rw [if_neg hE] at this; exact this
    repeat' first
     | refine r_nil ?_
     | refine th_n ?_
     | refine th_r ?_
     | refine w_seq ?_
     | refine w_reg ?_
     | refine w_ret ?_
     | refine w_skip ?_
     | refine w_t (by simp (disch:=first|decide|(simp only[zF,zG];decide)) only [zA,zB,zC,zD,zE,zF,zG,zH,zI,zJ,zK,HV.cells]; first|done|exact rfl) ?_
     | refine w_f (by simp (disch:=first|decide|(simp only[zF,zG];decide)) only [zA,zB,zC,zD,zE,zF,zG,zH,zI,zJ,zK,HV.cells]; first|done|exact rfl) ?_
     | refine r_move (by simp (disch:=first|decide|(simp only[zF,zG];decide)) only [zA,zB,zC,zD,zE,zF,zG,zH,zI,zJ,zK,HV.cells]; try exact rfl) ?_
     | refine r_ldn (by simp (disch:=first|decide|(simp only[zF,zG];decide)) only [zA,zB,zC,zD,zE,zF,zG,zH,zI,zJ,zK,HV.cells]; try exact rfl) (by first|assumption|(simp (disch:=omega) only [get_same,get_other]; first|done|exact rfl)) (by first|assumption|rfl|(simp only [zI,zJ,HV.cells]; exact rfl)) ?_
     | refine r_box (by simp (disch:=first|decide|(simp only[zF,zG];decide)) only [zA,zB,zC,zD,zE,zF,zG,zH,zI,zJ,zK,HV.cells]; try exact rfl) ?_
     | refine r_alloc ?_
     | refine r_st (cs' := _) (by simp (disch:=first|decide|(simp only[zF,zG];decide)) only [zA,zB,zC,zD,zE,zF,zG,zH,zI,zJ,zK,HV.cells]; try exact rfl) (by simp (disch:=first|decide|(simp only[zF,zG];decide)) only [zA,zB,zC,zD,zE,zF,zG,zH,zI,zJ,zK,HV.cells]; try exact rfl) (by first|assumption|(simp (disch:=omega) only [get_same,get_other]; first|done|exact rfl)) (by exact True.intro) (by rfl) (by rfl) (by first|assumption|rfl|(simp only [zI,zJ,HV.cells]; exact rfl)) (by omega) ?_
     | refine r_eq (by simp (disch:=first|decide|(simp only[zF,zG];decide)) only [zA,zB,zC,zD,zE,zF,zG,zH,zI,zJ,zK,HV.cells]; try exact rfl) (by simp (disch:=first|decide|(simp only[zF,zG];decide)) only [zA,zB,zC,zD,zE,zF,zG,zH,zI,zJ,zK,HV.cells]; try exact rfl) (fun hc => ?_) (fun hc => ?_) <;> (try (exfalso; omega))
     | refine r_ne (by simp (disch:=first|decide|(simp only[zF,zG];decide)) only [zA,zB,zC,zD,zE,zF,zG,zH,zI,zJ,zK,HV.cells]; try exact rfl) (by simp (disch:=first|decide|(simp only[zF,zG];decide)) only [zA,zB,zC,zD,zE,zF,zG,zH,zI,zJ,zK,HV.cells]; try exact rfl) (fun hc => ?_) (fun hc => ?_) <;> (try (exfalso; omega))
     | refine r_eqb (by simp (disch:=first|decide|(simp only[zF,zG];decide)) only [zA,zB,zC,zD,zE,zF,zG,zH,zI,zJ,zK,HV.cells]; try exact rfl) (by simp (disch:=first|decide|(simp only[zF,zG];decide)) only [zA,zB,zC,zD,zE,zF,zG,zH,zI,zJ,zK,HV.cells]; try exact rfl) ?_
     | refine r_ext (by simp (disch:=first|decide|(simp only[zF,zG];decide)) only [zA,zB,zC,zD,zE,zF,zG,zH,zI,zJ,zK,HV.cells]; try exact rfl) (by first|assumption|rfl|(simp only [zI,zJ,HV.cells]; exact rfl)) ?_
     | refine r_calls (by simp (disch:=first|decide|(simp only[zF,zG];decide)) only [zA,zB,zC,zD,zE,zF,zG,zH,zI,zJ,zK,HV.cells]; try exact rfl) (by simp (disch:=first|decide|(simp only[zF,zG];decide)) only [List.map_cons,List.map_nil,List.nil_append,List.cons_append,List.append_nil,zA,zB,zC,zD,zE,zF,zG,zH,zI,zJ,zK,HV.cells]; try exact rfl) (cF1 _ _ _ (by repeat' first|assumption|refine Ext.put ?_ (by omega) (by omega)|exact Ext.up (by assumption) (by omega)|exact Ext.nx (by assumption) (by omega))) (fun n' hn' => ?_)
     | fail
    refine fin_m (by simp only [zL,zM]) (res_t (by simp (disch:=first|decide|(simp only[zF,zG];decide)) only [zA,zB,zC,zD,zE,zF,zG,zH,zI,zJ,zK,HV.cells]; try exact rfl) (res_t (by simp (disch:=first|decide|(simp only[zF,zG];decide)) only [zA,zB,zC,zD,zE,zF,zG,zH,zI,zJ,zK,HV.cells]; try exact rfl) res_nil)) (.inr (.inr ⟨hE, sc_flat rfl (by dsimp only; omega) rfl⟩))
end Go.Hx

/- Layer 1: volumes of a tube are heights that its matrix allows; a scaled tube allows the scaled heights. -/
namespace Go.Hx
/-- What heights of a tube are, in words. -/
theorem unr_feas {t : Tb} {n : Nat} (hcn : t.c = n) (hT : TubeOk t.c t.t t.a t.b) {H : Nat → Int} :
    Feas n (unrM n t) H ↔ (∀ i j, i ≤ n → j ≤ n → H j - H i ≤ max (((j : Int) - i) * t.a) (((j : Int) - i) * t.b)) ∧ H n - H 0 ≤ t.t ∧ H 0 - H n ≤ -t.t := by
  have hTo := hT
  unfold TubeOk at hTo
  rw [hcn] at hTo
  have g0 := good_u0 (n := n) (a := t.a) (b := t.b) (by omega) (by omega) (by omega) (by omega)
  obtain ⟨e, g1, g2⟩ := unr_eq (n := n) (t := t) (by omega) (by omega) (by omega) (by omega) (by omega) (by omega) (by omega)
  rw [e, feas_lim g1 (Nat.le_refl _) (Nat.zero_le _), feas_lim g0 (Nat.zero_le _) (Nat.le_refl _)]
  constructor
  · intro ⟨⟨h1, h2⟩, h3⟩
    exact ⟨fun i j hi hj => by rw [← u0_at (n := n) (by omega) hi hj]; exact h1 i j hi hj, h2, h3⟩
  · intro ⟨h1, h2, h3⟩
    exact ⟨⟨fun i j hi hj => by rw [u0_at (by omega) hi hj]; exact h1 i j hi hj, h2⟩, h3⟩
theorem hgt_rng {v : List Int} {a b : Int} (hv : ∀ x ∈ v, a ≤ x ∧ x ≤ b) : ∀ (d i : Nat), i + d ≤ v.length → (d : Int) * a ≤ hgt v (i + d) - hgt v i ∧ hgt v (i + d) - hgt v i ≤ (d : Int) * b
  | 0, i, _ => by
    rw [Nat.add_zero, Int.sub_self, Int.natCast_zero, Int.zero_mul, Int.zero_mul]
    exact ⟨Int.le_refl _, Int.le_refl _⟩
  | d + 1, i, h => by
    have h1 := hgt_rng hv d i (by omega)
    have hy : v[i + d]? = some v[i + d] := List.getElem?_eq_getElem (by omega)
    have h2 := hgt_succ v (i + d) _ hy
    have h3 := hv _ (List.mem_of_getElem? hy)
    have x1 : ((d + 1 : Nat) : Int) * a = d * a + a := by rw [Int.natCast_add, Int.add_mul]; omega
    have x2 : ((d + 1 : Nat) : Int) * b = d * b + b := by rw [Int.natCast_add, Int.add_mul]; omega
    rw [show i + (d + 1) = i + d + 1 by omega, h2, x1, x2]
    omega
theorem truth_feas {t : Tb} {n : Nat} (hcn : t.c = n) (hT : TubeOk t.c t.t t.a t.b) {v : List Int} (hv : TrulyOk t n v) : Feas n (unrM n t) (hgt v) := by
  rw [unr_feas hcn hT]
  obtain ⟨h1, h2, h3⟩ := hv
  refine ⟨fun i j hi hj => ?_, by rw [h3, hgt_zero]; omega, by rw [h3, hgt_zero]; omega⟩
  rcases Nat.le_total i j with e | e
  · obtain ⟨d, rfl⟩ := Nat.exists_eq_add_of_le e
    have := hgt_rng h2 d i (by omega)
    rw [show ((i + d : Nat) : Int) - i = d by omega]
    omega
  · obtain ⟨d, rfl⟩ := Nat.exists_eq_add_of_le e
    have := hgt_rng h2 d j (by omega)
    rw [show (j : Int) - ((j + d : Nat) : Int) = -d by omega, Int.neg_mul, Int.neg_mul]
    omega
theorem right_feas {n : Nat} {r : Rd} {v : List Int} {c : Int} (hcn : c = n) (hr : RdOk2 c r) (h : RightV n r v) : RightC n r (hgt v) := by
  unfold RdOk2 at hr
  unfold RightV at h
  unfold RightC
  by_cases hg : r.g.toNat < n
  · rw [if_pos (by omega)] at h
    exact ⟨by omega, fun _ => by omega⟩
  · rw [if_neg (by omega)] at h
    exact ⟨by omega, fun e => absurd e hg⟩
/-- What is read of heights can be read. -/
theorem feas_read {t : Tb} {n : Nat} (hcn : t.c = n) (hT : TubeOk t.c t.t t.a t.b) {l : List Rd} (hl : ∀ r ∈ l, RdOk2 t.c r) {H : Nat → Int} (hF : Feas n (unrM n t) H) (hR : ∀ r ∈ l, RightC n r H) : ∃ M, readO t n l = some M := by
  rw [hcn] at hl
  cases e : readO t n l with
  | some M => exact ⟨M, rfl⟩
  | none => exact absurd ⟨hF, hR⟩ (readGo_none l [] _ hl (unr_ok hcn hT).2.2 e)
theorem read_feas {t : Tb} {n : Nat} (hcn : t.c = n) (hT : TubeOk t.c t.t t.a t.b) {l : List Rd} (hl : ∀ r ∈ l, RdOk2 t.c r) {M : Mx} (h : readO t n l = some M) {H : Nat → Int} : Feas n M H ↔ Feas n (unrM n t) H ∧ ∀ r ∈ l, RightC n r H := by
  rw [hcn] at hl
  exact readGo_feas l [] _ M hl (unr_ok hcn hT).2.2 (fun r hr => by cases hr) h
/-- In a truth of what was read. -/
theorem truth_read {t : Tb} {n : Nat} (hcn : t.c = n) (hT : TubeOk t.c t.t t.a t.b) {v : List Int} (hv : TrulyOk t n v) {l : List Rd} (hs : SeenOk t n v l) : ∃ M, readO t n l = some M ∧ Feas n M (hgt v) := by
  have hl : ∀ r ∈ l, RdOk2 t.c r := fun r hr => (hs r hr).1
  have hF := truth_feas hcn hT hv
  have hR : ∀ r ∈ l, RightC n r (hgt v) := fun r hr => right_feas hcn (hs r hr).1 (hs r hr).2
  obtain ⟨M, hM⟩ := feas_read hcn hT hl hF hR
  exact ⟨M, hM, (read_feas hcn hT hl hM).2 ⟨hF, hR⟩⟩
def sclT (k : Int) (t : Tb) : Tb := ⟨t.c, k * t.t, k * t.a, k * t.b⟩
def sclR (k : Int) (r : Rd) : Rd := ⟨r.f, r.g, k * r.lo, k * r.hi⟩
theorem scl_max {k x y : Int} (hk : 0 ≤ k) : k * max x y = max (k * x) (k * y) := by
  rcases Int.le_total x y with e | e
  · rw [Int.max_eq_right e, Int.max_eq_right (Int.mul_le_mul_of_nonneg_left e hk)]
  · rw [Int.max_eq_left e, Int.max_eq_left (Int.mul_le_mul_of_nonneg_left e hk)]
theorem scl_feas {t : Tb} {n : Nat} {k : Int} (hk : 0 ≤ k) (hcn : t.c = n) (hT : TubeOk t.c t.t t.a t.b) (hT2 : TubeOk (sclT k t).c (sclT k t).t (sclT k t).a (sclT k t).b) {H : Nat → Int} (hF : Feas n (unrM n t) H) : Feas n (unrM n (sclT k t)) (fun i => k * H i) := by
  rw [unr_feas hcn hT] at hF
  rw [unr_feas (t := sclT k t) hcn hT2]
  obtain ⟨h1, h2, h3⟩ := hF
  have sub : ∀ x y, k * x - k * y = k * (x - y) := fun x y => (Int.mul_sub k x y).symm
  refine ⟨fun i j hi hj => ?_, ?_, ?_⟩
  · show k * H j - k * H i ≤ max (((j : Int) - i) * (k * t.a)) (((j : Int) - i) * (k * t.b))
    rw [sub, Int.mul_left_comm, Int.mul_left_comm _ k t.b, ← scl_max hk]
    exact Int.mul_le_mul_of_nonneg_left (h1 i j hi hj) hk
  · show k * H n - k * H 0 ≤ k * t.t
    rw [sub]
    exact Int.mul_le_mul_of_nonneg_left h2 hk
  · show k * H 0 - k * H n ≤ -(k * t.t)
    rw [sub, ← Int.mul_neg]
    exact Int.mul_le_mul_of_nonneg_left h3 hk
theorem scl_right {n : Nat} {k : Int} (hk : 1 ≤ k) {r : Rd} {H : Nat → Int} (h : RightC n r H) : RightC n (sclR k r) (fun i => k * H i) := by
  have sub : ∀ x y, k * x - k * y = k * (x - y) := fun x y => (Int.mul_sub k x y).symm
  obtain ⟨h1, h2⟩ := h
  refine ⟨?_, fun hg => ?_⟩
  · show k * H r.g.toNat - k * H r.f.toNat ≤ k * r.hi
    rw [sub]
    exact Int.mul_le_mul_of_nonneg_left h1 (by omega)
  · show k * H r.f.toNat - k * H (r.g.toNat + 1) ≤ -(k * r.lo) - 1
    have := Int.mul_le_mul_of_nonneg_left (h2 hg) (show 0 ≤ k by omega)
    have e : k * (-r.lo - 1) = -(k * r.lo) - k := by rw [Int.mul_sub, Int.mul_neg, Int.mul_one]
    rw [e] at this
    rw [sub]
    omega
/-- P1.15: the scaled bounds hold both ends of the old ones, scaled. -/
theorem scl_ok {t : Tb} {n : Nat} {k : Int} (hk : 1 ≤ k) (hcn : t.c = n) (hT : TubeOk t.c t.t t.a t.b) (hT2 : TubeOk (sclT k t).c (sclT k t).t (sclT k t).a (sclT k t).b) {l : List Rd} (hl : ∀ r ∈ l, RdOk2 t.c r) (hl2 : ∀ r ∈ l.map (sclR k), RdOk2 t.c r) {M : Mx} (h : readO t n l = some M) :
    ∃ M2, readO (sclT k t) n (l.map (sclR k)) = some M2 ∧ ∀ j, j ≤ n → -(M2 j 0) ≤ k * -(M j 0) ∧ k * M 0 j ≤ M2 0 j := by
  have hG : Good n M := readGo_good l [] _ M (by rw [← hcn]; exact hl) (unr_ok hcn hT).2.2 h
  have to : ∀ H, Feas n M H → Feas n (unrM n (sclT k t)) (fun i => k * H i) ∧ ∀ r ∈ l.map (sclR k), RightC n r (fun i => k * H i) := fun H hF => by
    obtain ⟨a, b⟩ := (read_feas hcn hT hl h).1 hF
    refine ⟨scl_feas (by omega) hcn hT hT2 a, fun r hr => ?_⟩
    obtain ⟨r0, h0, rfl⟩ := List.mem_map.1 hr
    exact scl_right hk (b r0 h0)
  obtain ⟨M2, h2⟩ := feas_read (t := sclT k t) hcn hT2 hl2 (to _ (feas_hi hG)).1 (to _ (feas_hi hG)).2
  refine ⟨M2, h2, fun j hj => ⟨?_, ?_⟩⟩
  · have := (read_feas (t := sclT k t) hcn hT2 hl2 h2).2 (to _ (feas_lo hG)) j 0 hj (Nat.zero_le _)
    rw [hG.dg 0 (Nat.zero_le _)] at this
    simp at this
    rw [Int.mul_neg]
    rw [Int.mul_neg] at this
    omega
  · have := (read_feas (t := sclT k t) hcn hT2 hl2 h2).2 (to _ (feas_hi hG)) 0 j (Nat.zero_le _) hj
    rw [hG.dg 0 (Nat.zero_le _), Int.mul_zero] at this
    omega
end Go.Hx

/- Walks of the plain machine: regions that draw, whose last drawn operation lays any number of blocks. -/
namespace Go.Hx
variable {lp : Nat → Option LFunc} {fl : Nat} {N : HAct → HS → Prop} {a : HAct} {h : Tr HBlk} {nx : Nat} {os : List LOper}
theorem newFrom_get {h' : Tr HBlk} : ∀ (k lo : Nat) (h : Tr HBlk) (b : Nat), (addAll h (newFrom h' lo k)).get b = if lo ≤ b ∧ b < lo + k ∧ h'.get b ≠ none then h'.get b else h.get b
  | 0, lo, h, b => by
    unfold newFrom addAll
    rw [if_neg (by omega)]
  | k + 1, lo, h, b => by
    unfold newFrom
    cases e : h'.get lo with
    | none =>
      dsimp only
      rw [newFrom_get k (lo + 1) h b]
      by_cases hb : b = lo
      · subst hb
        rw [if_neg (by omega), if_neg (fun x => x.2.2 e)]
      · by_cases hx : lo + 1 ≤ b ∧ b < lo + 1 + k ∧ h'.get b ≠ none
        · rw [if_pos hx, if_pos ⟨by omega, by omega, hx.2.2⟩]
        · rw [if_neg hx, if_neg (fun y => hx ⟨by omega, by omega, y.2.2⟩)]
    | some x =>
      dsimp only
      unfold addAll
      rw [newFrom_get k (lo + 1) (h.set lo (some x)) b]
      by_cases hb : b = lo
      · subst hb
        rw [if_neg (by omega), get_same, if_pos ⟨by omega, by omega, by rw [e]; simp⟩, e]
      · rw [get_other _ _ hb]
        by_cases hx : lo + 1 ≤ b ∧ b < lo + 1 + k ∧ h'.get b ≠ none
        · rw [if_pos hx, if_pos ⟨by omega, by omega, hx.2.2⟩]
        · rw [if_neg hx, if_neg (fun y => hx ⟨by omega, by omega, y.2.2⟩)]
/-- The last one of those that are drawn, which lays what it likes. -/
def DE (lp : Nat → Option LFunc) (fl : Nat) (os : List LOper) (N : HAct → HS → Prop) (h : Tr HBlk) (nx : Nat) : HAct → HS → Prop := fun a' σ' => Ext h nx σ'.h σ'.nx ∧ ∀ hm, Ext h nx hm σ'.nx → (∀ b, hm.get b = σ'.h.get b) → R lp fl os N a' ⟨hm, σ'.nx⟩
theorem d_lastE {s i : Nat} {o : LOper} (hi : Nat.beq (i + 1) s = true) (hr : R lp (max fl nx) [o] (DE lp fl os N h nx) a ⟨h, nx⟩) : DR lp fl s (o :: os) i N a h nx := by
  unfold DR
  intro hfl hd done hn
  obtain ⟨n, a', ⟨h', n'⟩, h1, he, hrest⟩ := hr
  dsimp only at he hrest
  have h1' : stepOp lp (exec lp n) (max fl nx) o a ⟨h, nx⟩ = some (a', ⟨h', n'⟩) := by
    unfold runOps at h1
    split at h1
    · rename_i e; rw [e]; exact h1
    · cases h1
  have hs := Nat.eq_of_beq_eq_true hi
  have hle := he.le
  have hdb := hd
  have heb := he.d
  unfold D at hdb heb
  have hb : Nat.ble nx n' = true := by rw [Nat.ble_eq]; exact hle
  have hlt : Nat.blt i s = true := by rw [Nat.blt_eq]; omega
  have key : ∃ done' hm, (bif Nat.beq nx n' then done else (i, newFrom h' nx (n' - nx)) :: done) = done' ∧ merge h none done' = hm ∧ Ext h nx hm n' ∧ ∀ b, hm.get b = h'.get b := by
    have hsame : ∀ b, (if nx ≤ b ∧ b < nx + (n' - nx) ∧ h'.get b ≠ none then h'.get b else h.get b) = h'.get b := fun b => by
      by_cases h1 : b < nx
      · rw [if_neg (by omega), he.same b h1]
      · by_cases h2 : b < n'
        · by_cases h3 : h'.get b = none
          · rw [if_neg (fun x => x.2.2 h3), h3]
            exact hdb b (by omega)
          · rw [if_pos ⟨by omega, by omega, h3⟩]
        · rw [if_neg (by omega), hdb b (by omega), heb b (by omega)]
    cases e : Nat.beq nx n' with
    | true =>
      have e' := Nat.eq_of_beq_eq_true e
      refine ⟨done, h, rfl, merge_nil hn _, Ext.nx hd hle, fun b => ?_⟩
      rw [← hsame b, if_neg (by omega)]
    | false =>
      refine ⟨_, addAll h (newFrom h' nx (n' - nx)), rfl, ?_, ⟨hle, by unfold D; intro b hb; rw [newFrom_get, hsame]; exact heb b hb, fun b hb => ?_⟩, fun b => ?_⟩
      · unfold merge
        simp only [cond_true]
        exact merge_nil hn _
      · rw [newFrom_get, hsame]; exact he.same b hb
      · rw [newFrom_get, hsame]
  obtain ⟨done', hm, e1, e2, e3, e4⟩ := key
  obtain ⟨m, a2, σ2, h2, h3⟩ := hrest hm e3 e4
  refine ⟨max n m, a2, σ2, ?_, h3⟩
  unfold drawOps
  rw [hlt, cond_true, merge_nil hn]
  rw [show Nat.max fl nx = max fl nx from rfl, stepOp_mon (exec_mon (Nat.le_max_left n m)) h1']
  simp only [hb, Bool.not_true, cond_false, e1]
  have rest : runOps lp (exec lp (max n m)) fl os a' ⟨hm, n'⟩ = some (a2, σ2) := runOps_mon (exec_mon (Nat.le_max_right n m)) h2
  cases os with
  | nil => unfold drawOps; rw [e2]; exact rest
  | cons o os =>
    unfold drawOps
    have : Nat.blt (i + 1) s = false := by cases e : Nat.blt (i + 1) s with | false => rfl | true => rw [Nat.blt_eq] at e; omega
    rw [this, cond_false, e2]
    exact rest
end Go.Hx

/- Walks of the plain machine: regions that draw, in which several operations lay blocks. -/
namespace Go.Hx
variable {lp : Nat → Option LFunc} {fl : Nat} {rd : Option Nat} {Q : HExit → HAct → HS → Prop} {N : HAct → HS → Prop} {a : HAct} {h0 h : Tr HBlk} {nx s i : Nat} {os : List LOper} {done : List (Nat × List (Nat × HBlk))}
/-- The rest of such a region. -/
def DG (lp : Nat → Option LFunc) (fl s : Nat) (h0 : Tr HBlk) (os : List LOper) (i : Nat) (done : List (Nat × List (Nat × HBlk))) (N : HAct → HS → Prop) (a : HAct) (nx : Nat) : Prop :=
  ∃ n a' σ', drawOps lp (exec lp n) fl s h0 os i done a nx = some (a', σ') ∧ N a' σ'
/-- Behind one operation. -/
def DN (lp : Nat → Option LFunc) (fl s : Nat) (h0 : Tr HBlk) (os : List LOper) (i : Nat) (done : List (Nat × List (Nat × HBlk))) (nx : Nat) (N : HAct → HS → Prop) : HAct → HS → Prop := fun a' σ' =>
  (σ'.nx = nx ∧ DG lp fl s h0 os (i + 1) done N a' nx) ∨ ∃ x, σ'.nx = nx + 1 ∧ σ'.h.get nx = some x ∧ DG lp fl s h0 os (i + 1) ((i, [(nx, x)]) :: done) N a' (nx + 1)
theorem w_drawg {ops : List LOper} (hfl : fl ≤ nx) (hr : DG lp fl s h ops 0 [] (Q .normal) a nx) : W lp fl rd (.draw s ops) Q a ⟨h, nx⟩ := by
  obtain ⟨n, a', σ', h1, h2⟩ := hr
  refine ⟨n + 1, .normal, a', σ', ?_, h2⟩
  show xDraw lp (exec lp n) fl s ops a ⟨h, nx⟩ = _
  unfold xDraw
  have : Nat.ble fl nx = true := ble_t' hfl
  simp only [this, cond_true, h1]
  rfl
theorem g_step {o : LOper} {hm : Tr HBlk} (hi : Nat.blt i s = true) (hmg : merge h0 (some o.anc) done = hm) (hr : R lp (max fl nx) [o] (DN lp fl s h0 os i done nx N) a ⟨hm, nx⟩) : DG lp fl s h0 (o :: os) i done N a nx := by
  obtain ⟨n, a1, σ1, h1, h2⟩ := hr
  have h1' : stepOp lp (exec lp n) (max fl nx) o a ⟨hm, nx⟩ = some (a1, σ1) := by
    unfold runOps at h1
    split at h1
    · rename_i e; rw [e]; exact h1
    · cases h1
  rcases h2 with ⟨e1, n2, a2, σ2, h3, h4⟩ | ⟨x, e1, e2, n2, a2, σ2, h3, h4⟩
  · refine ⟨max n n2, a2, σ2, ?_, h4⟩
    unfold drawOps
    rw [hi, cond_true, hmg]
    show (match stepOp lp (exec lp (max n n2)) (max fl nx) o a ⟨hm, nx⟩ with | some (a, σ) => _ | none => none) = _
    rw [stepOp_mon (exec_mon (Nat.le_max_left n n2)) h1']
    have b1 : Nat.ble nx σ1.nx = true := ble_t' (by omega)
    have b2 : Nat.beq nx σ1.nx = true := by rw [e1]; exact Nat.beq_refl nx
    simp only [b1, b2, Bool.not_true, cond_false, cond_true]
    rw [e1]
    exact drawOps_mon (exec_mon (Nat.le_max_right n n2)) h3
  · refine ⟨max n n2, a2, σ2, ?_, h4⟩
    unfold drawOps
    rw [hi, cond_true, hmg]
    show (match stepOp lp (exec lp (max n n2)) (max fl nx) o a ⟨hm, nx⟩ with | some (a, σ) => _ | none => none) = _
    rw [stepOp_mon (exec_mon (Nat.le_max_left n n2)) h1']
    have b1 : Nat.ble nx σ1.nx = true := ble_t' (by omega)
    have b2 : Nat.beq nx σ1.nx = false := by
      cases e : Nat.beq nx σ1.nx with
      | false => rfl
      | true => have := Nat.eq_of_beq_eq_true e; omega
    have b3 : newFrom σ1.h nx (σ1.nx - nx) = [(nx, x)] := by
      rw [e1, show nx + 1 - nx = 1 by omega]
      unfold newFrom newFrom
      rw [e2]
    simp only [b1, b2, b3, Bool.not_true, cond_false]
    rw [e1]
    exact drawOps_mon (exec_mon (Nat.le_max_right n n2)) h3
theorem g_same {hm : Tr HBlk} (hr : DG lp fl s h0 os (i + 1) done N a nx) : DN lp fl s h0 os i done nx N a ⟨hm, nx⟩ := .inl ⟨rfl, hr⟩
theorem g_new {hm : Tr HBlk} {x : HBlk} (hr : DG lp fl s h0 os (i + 1) ((i, [(nx, x)]) :: done) N a (nx + 1)) : DN lp fl s h0 os i done nx N a ⟨hm.set nx (some x), nx + 1⟩ := .inr ⟨x, rfl, get_same _ _ _, hr⟩
theorem g_end (hi : Nat.ble s i = true) {hm : Tr HBlk} (hmg : merge h0 none done = hm) (hr : R lp fl os N a ⟨hm, nx⟩) : DG lp fl s h0 os i done N a nx := by
  obtain ⟨n, a', σ', h1, h2⟩ := hr
  refine ⟨n, a', σ', ?_, h2⟩
  cases os with
  | nil => unfold drawOps; rw [hmg]; exact h1
  | cons o os =>
    unfold drawOps
    have : Nat.blt i s = false := by
      cases e : Nat.blt i s with
      | false => rfl
      | true => rw [Nat.blt_eq] at e; have := Nat.le_of_ble_eq_true hi; omega
    rw [this, cond_false, hmg]
    exact h1
theorem mg_nil {anc : Option (List Nat)} : merge h anc [] = h := rfl
theorem mg_all {j : Nat} {l : List (Nat × HBlk)} : merge h none ((j, l) :: done) = merge (addAll h l) none done := rfl
theorem mg_in {anc : List Nat} {j : Nat} {l : List (Nat × HBlk)} (hc : anc.contains j = true) : merge h (some anc) ((j, l) :: done) = merge (addAll h l) (some anc) done := by
  show merge (bif anc.contains j then addAll h l else h) (some anc) done = _
  rw [hc]; rfl
theorem mg_out {anc : List Nat} {j : Nat} {l : List (Nat × HBlk)} (hc : anc.contains j = false) : merge h (some anc) ((j, l) :: done) = merge h (some anc) done := by
  show merge (bif anc.contains j then addAll h l else h) (some anc) done = _
  rw [hc]; rfl
theorem ad_nil : addAll h [] = h := rfl
theorem ad_cons {b : Nat} {x : HBlk} {l : List (Nat × HBlk)} : addAll h ((b, x) :: l) = addAll (h.set b (some x)) l := rfl
attribute [irreducible] DG DN
end Go.Hx

