import Derived.Test.YtokaihlongbllaaH02
import Derived.Test.YtokaihlongbllaaH03
import Derived.Test.YtokaihlongbllaaH00
set_option linter.all false
namespace Go.Hx
set_option linter.unusedSimpArgs false
set_option linter.unusedVariables false
set_option maxRecDepth 20000
set_option maxHeartbeats 4000000
attribute [local irreducible] W R C thenH inBlockH
structure Tb where
  c : Int
  t : Int
  a : Int
  b : Int
def Tb.cells (t : Tb) : List HV := [i64 t.c, i64 t.t, i64 t.a, i64 t.b]
/-- The least of some numbers. -/
def lst (x : Int) (ys : List Int) : Int := ys.foldl min x
/- 88 -/
theorem loop88 {lp : Nat → Option LFunc} {fl : Nat} {h : Tr HBlk} {nx : Nat} {Q : HExit → HAct → HS → Prop} {p : Option (Nat × Nat)} {ys : List Int} {c : Nat} (hrow : Row ienc 1 h nx p ys) (hlen : ys.length < 1000000000) :
    ∀ (m i : Nat) (cur : Int) (a : HAct), m + i = ys.length → a.nt = 19 → a.defers = [] → a.tmp 0 = i64 cur → a.tmp 7 = .slice p ys.length c → a.tmp 8 = i64 ys.length → a.tmp 9 = i64 i →
      (∀ a', a'.nt = 19 → a'.defers = [] → a'.tmp 0 = i64 (lst cur (ys.drop i)) → Q .normal a' ⟨h, nx⟩) → W lp fl none (.loop L88w0) (inBlockH 0 Q) a ⟨h, nx⟩
  | 0, i, cur, a, hm, hnt, hds, h0, h7, h8, h9, hq => by
    refine w_it (show L88w0 = _ by unfold L88w0; exact rfl) ?_
    repeat' first
     | refine r_nil ?_
     | refine th_n ?_
     | refine th_e ?_
     | refine ib_e ?_
     | refine w_exit ?_
     | refine w_seq ?_
     | refine w_reg ?_
     | refine w_f (by simp (disch:=first|decide|(simp only[zF,zG,hnt, h0, h7, h8, h9];decide)) only [zA,zB,zC,zD,zE,zF,zG,zH,zI,zJ,zK,HV.cells,hnt, h0, h7, h8, h9]; first|done|exact rfl) ?_
     | refine r_lss (by simp (disch:=first|decide|(simp only[zF,zG,hnt, h0, h7, h8, h9];decide)) only [zA,zB,zC,zD,zE,zF,zG,zH,zI,zJ,zK,HV.cells,hnt, h0, h7, h8, h9]; try exact rfl) (by simp (disch:=first|decide|(simp only[zF,zG,hnt, h0, h7, h8, h9];decide)) only [zA,zB,zC,zD,zE,zF,zG,zH,zI,zJ,zK,HV.cells,hnt, h0, h7, h8, h9]; try exact rfl) (fun hc => ?_) (fun hc => ?_) <;> (try (exfalso; omega))
     | fail
    refine hq _ ?_ ?_ ?_
    · simp only [put_nt, hnt]
    · simp only [put_defers, hds]
    · rw [List.drop_of_length_le (by omega)]; exact (by simp (disch:=first|decide|(simp only[zF,zG,hnt, h0];decide)) only [zA,zB,zC,zD,zE,zF,zG,zH,zI,zJ,zK,HV.cells,hnt, h0]; try exact rfl)
  | m + 1, i, cur, a, hm, hnt, hds, h0, h7, h8, h9, hq => by
    have hi : i < ys.length := by omega
    obtain ⟨b, o, cs, k, rfl, hb, hg, hcs⟩ := hrow (by intro e; rw [e] at hi; simp at hi)
    have hy : ys[i]? = some ys[i] := by simp [hi]
    have e0 := take_at (hcs i _ hy) (j := 0) rfl
    refine w_it (show L88w0 = _ by unfold L88w0; exact rfl) ?_
    repeat' first
     | refine r_nil ?_
     | refine th_n ?_
     | refine ib_n ?_
     | refine w_seq ?_
     | refine w_reg ?_
     | refine w_skip ?_
     | refine w_block ?_
     | refine w_t (by simp (disch:=first|decide|(simp only[zF,zG,hnt, h0, h7, h8, h9];decide)) only [zA,zB,zC,zD,zE,zF,zG,zH,zI,zJ,zK,HV.cells,hnt, h0, h7, h8, h9]; first|done|exact rfl) ?_
     | refine w_f (by simp (disch:=first|decide|(simp only[zF,zG,hnt, h0, h7, h8, h9];decide)) only [zA,zB,zC,zD,zE,zF,zG,zH,zI,zJ,zK,HV.cells,hnt, h0, h7, h8, h9]; first|done|exact rfl) ?_
     | refine r_move (by simp (disch:=first|decide|(simp only[zF,zG,hnt, h0, h7, h8, h9];decide)) only [zA,zB,zC,zD,zE,zF,zG,zH,zI,zJ,zK,HV.cells,hnt, h0, h7, h8, h9]; try exact rfl) ?_
     | refine r_ld1 (by simp (disch:=first|decide|(simp only[zF,zG,hnt, h0, h7, h8, h9];decide)) only [zA,zB,zC,zD,zE,zF,zG,zH,zI,zJ,zK,HV.cells,hnt, h0, h7, h8, h9]; try exact rfl) (by first|assumption|(simp (disch:=omega) only [get_same,get_other,hnt, h0, h7, h8, h9]; first|done|exact rfl)) (by first|assumption|rfl|(simp only [zI,zJ,HV.cells,hnt, h0, h7, h8, h9]; exact rfl)) ?_
     | refine r_add (by simp (disch:=first|decide|(simp only[zF,zG,hnt, h0, h7, h8, h9];decide)) only [zA,zB,zC,zD,zE,zF,zG,zH,zI,zJ,zK,HV.cells,hnt, h0, h7, h8, h9]; try exact rfl) (by simp (disch:=first|decide|(simp only[zF,zG,hnt, h0, h7, h8, h9];decide)) only [zA,zB,zC,zD,zE,zF,zG,zH,zI,zJ,zK,HV.cells,hnt, h0, h7, h8, h9]; try exact rfl) (by omega) (by omega) ?_
     | refine r_lss (by simp (disch:=first|decide|(simp only[zF,zG,hnt, h0, h7, h8, h9];decide)) only [zA,zB,zC,zD,zE,zF,zG,zH,zI,zJ,zK,HV.cells,hnt, h0, h7, h8, h9]; try exact rfl) (by simp (disch:=first|decide|(simp only[zF,zG,hnt, h0, h7, h8, h9];decide)) only [zA,zB,zC,zD,zE,zF,zG,zH,zI,zJ,zK,HV.cells,hnt, h0, h7, h8, h9]; try exact rfl) (fun hc => ?_) (fun hc => ?_) <;> (try (exfalso; omega))
     | refine r_ixs (by simp (disch:=first|decide|(simp only[zF,zG,hnt, h0, h7, h8, h9];decide)) only [zA,zB,zC,zD,zE,zF,zG,zH,zI,zJ,zK,HV.cells,hnt, h0, h7, h8, h9]; try exact rfl) (by simp (disch:=first|decide|(simp only[zF,zG,hnt, h0, h7, h8, h9];decide)) only [zA,zB,zC,zD,zE,zF,zG,zH,zI,zJ,zK,HV.cells,hnt, h0, h7, h8, h9]; try exact rfl) (by omega) ?_
     | fail
    · refine loop88 (c := c) hrow hlen m (i + 1) ys[i] _ (by omega) ?_ ?_ ?_ ?_ ?_ ?_ (fun a' g1 g2 g3 => hq a' g1 g2 ?_)
      all_goals try first|(simp only [zL,zM,zF,zG,hnt, hds, h0, h7, h8, h9];done)|(simp (disch:=first|decide|(simp only[zF,zG,hnt, hds, h0, h7, h8, h9];decide)) only [zA,zB,zC,zD,zE,zF,zG,zH,zI,zJ,zK,HV.cells,hnt, hds, h0, h7, h8, h9];first|done|exact rfl)|assumption
      rw [List.drop_eq_getElem_cons hi]
      show _ = i64 (lst (min cur ys[i]) _)
      rw [g3, show min cur ys[i] = ys[i] by omega]
    · refine loop88 (c := c) hrow hlen m (i + 1) cur _ (by omega) ?_ ?_ ?_ ?_ ?_ ?_ (fun a' g1 g2 g3 => hq a' g1 g2 ?_)
      all_goals try first|(simp only [zL,zM,zF,zG,hnt, hds, h0, h7, h8, h9];done)|(simp (disch:=first|decide|(simp only[zF,zG,hnt, hds, h0, h7, h8, h9];decide)) only [zA,zB,zC,zD,zE,zF,zG,zH,zI,zJ,zK,HV.cells,hnt, hds, h0, h7, h8, h9];first|done|exact rfl)|assumption
      rw [List.drop_eq_getElem_cons hi]
      show _ = i64 (lst (min cur ys[i]) _)
      rw [g3, show min cur ys[i] = cur by omega]
theorem c_least {lp : Nat → Option LFunc} (h88 : lp 88 = some L88) {fl : Nat} {h : Tr HBlk} {nx : Nat} {x : Int} {ys : List Int} {p : Option (Nat × Nat)} {n c : Nat} (hn : n = ys.length) (hrow : Row ienc 1 h nx p ys) (hlen : ys.length < 1000000000) : C lp fl 88 [i64 x, .slice p n c] ⟨h, nx⟩ (Sc (· = i64 (lst x ys)) ⟨h, nx⟩) := by
  subst hn
  refine c_in h88 rfl rfl rfl ?_
  dsimp only [L88]
  repeat' first
   | refine r_nil ?_
   | refine th_n ?_
   | refine w_seq ?_
   | refine w_reg ?_
   | refine w_block ?_
   | refine r_move (by simp (disch:=first|decide|(simp only[zF,zG];decide)) only [zA,zB,zC,zD,zE,zF,zG,zH,zI,zJ,zK,HV.cells]; try exact rfl) ?_
   | refine r_len (by simp (disch:=first|decide|(simp only[zF,zG];decide)) only [zA,zB,zC,zD,zE,zF,zG,zH,zI,zJ,zK,HV.cells]; try exact rfl) ?_
   | fail
  refine loop88 (c := c) hrow hlen ys.length 0 x _ (by omega) ?_ ?_ ?_ ?_ ?_ ?_ (fun a' g1 g2 g3 => ?_)
  all_goals try first|(simp only [zL,zM,zF,zG];done)|(simp (disch:=first|decide|(simp only[zF,zG];decide)) only [zA,zB,zC,zD,zE,zF,zG,zH,zI,zJ,zK,HV.cells];first|done|exact rfl)|assumption
  repeat' first
   | refine r_nil ?_
   | refine th_n ?_
   | refine w_seq ?_
   | refine w_reg ?_
   | refine w_ret ?_
   | refine r_move (by simp (disch:=first|decide|(simp only[zF,zG,g1, g2, g3];decide)) only [zA,zB,zC,zD,zE,zF,zG,zH,zI,zJ,zK,HV.cells,g1, g2, g3]; try exact rfl) ?_
   | fail
  refine fin_r (by simp only [put_defers, g2]) (by simp (disch:=first|decide|(simp only[zF,zG,g1, g3];decide)) only [zA,zB,zC,zD,zE,zF,zG,zH,zI,zJ,zK,HV.cells,g1, g3]; try exact rfl) ?_
  exact ⟨rfl, _, Nat.le_refl _, rfl⟩
end Go.Hx

/- Walks of the plain machine: appending. -/
namespace Go.Hx
variable {lp : Nat → Option LFunc} {fl : Nat} {N : HAct → HS → Prop} {a : HAct} {h : Tr HBlk} {nx : Nat} {os : List LOper} {dst : Option Nat} {anc : List Nat} {size bytes : Nat}
theorem r_app {s x : Lo} {sv xv v : HV} {h' : Tr HBlk} {n' : Nat} (hs : a.ev s = sv) (hx : a.ev x = xv) (ha : appendH fl ⟨h, nx⟩ size bytes sv xv = some (v, ⟨h', n'⟩)) (hn : R lp fl os N (a.put dst v) ⟨h', n'⟩) : R lp fl (⟨dst, .append size bytes s x, none, anc⟩ :: os) N a ⟨h, nx⟩ :=
  r_go (by show appendH fl _ size bytes (a.ev s) (a.ev x) = _; rw [hs, hx]; exact ha) hn
theorem read_row {b o n : Nat} {cs row : List HV} {k : BK} (hg : h.get b = some (.cells cs k)) (ht : takeN n (cs.drop o) = some row) : (⟨h, nx⟩ : HS).read (b, o) n = some row := by
  unfold HS.read HS.cells
  simp only [hg, Option.bind_eq_bind, Option.bind_some]
  exact ht
theorem readS_row {b o n : Nat} {cs row : List HV} {k : BK} (hg : h.get b = some (.cells cs k)) (ht : takeN n (cs.drop o) = some row) : readS ⟨h, nx⟩ (b, o) n = some row := by
  unfold readS
  cases e : Nat.beq n 0 with
  | true => have := Nat.eq_of_beq_eq_true e; subst this; cases ht; rfl
  | false => exact read_row hg ht
theorem ble_t' {a b : Nat} (h : a ≤ b) : Nat.ble a b = true := by rw [Nat.ble_eq]; exact h
theorem ble_f' {a b : Nat} (h : b < a) : Nat.ble a b = false := by
  cases e : Nat.ble a b with
  | false => rfl
  | true => have := Nat.le_of_ble_eq_true e; omega
theorem blt_t' {a b : Nat} (h : a < b) : Nat.blt a b = true := by rw [Nat.blt_eq]; exact h
/-- To a row that is not there. -/
theorem app_nil {bx ox cx n : Nat} {cs row : List HV} {k : BK} (hg : h.get bx = some (.cells cs k)) (ht : takeN (n * size) (cs.drop ox) = some row) (hn : 0 < n) (h1 : n * bytes ≤ 35184372088832) (h2 : n ≤ 35184372088832) (h3 : 0 < size) :
    appendH fl ⟨h, nx⟩ size bytes (.slice none 0 0) (.slice (some (bx, ox)) n cx) = some (.slice (some (nx, 0)) n n, ⟨h.set nx (some (.cells row (.opn size))), nx + 1⟩) := by
  unfold appendH
  simp only [readS_row hg ht, Nat.zero_add, ble_f' hn, ble_t' h1, ble_t' h2, blt_t' h3, Bool.and_self, cond_true, cond_false, Nat.beq_refl]
  rfl
/-- To a row that append has laid, of which nothing more is known to be free. -/
theorem app_opn {bx ox cx n b k z : Nat} {cs old row : List HV} {bk : BK} (hg : h.get bx = some (.cells cs bk)) (ht : takeN (n * size) (cs.drop ox) = some row) (hb : h.get b = some (.cells old (.opn size))) (hl : old.length = k * size) (hfl : fl ≤ b) (hz : z = k) (h1row : row.all HV.one = true)
    (hn : 0 < n) (h1 : (k + n) * bytes ≤ 35184372088832) (h2 : k + n ≤ 35184372088832) (h3 : 0 < size) :
    appendH fl ⟨h, nx⟩ size bytes (.slice (some (b, 0)) k z) (.slice (some (bx, ox)) n cx) = some (.slice (some (nx, 0)) (k + n) (k + n), ⟨(h.set b none).set nx (some (.cells (old ++ row) (.opn size))), nx + 1⟩) := by
  subst hz
  have tk : takeN (z * size) (old.drop 0) = some old := by
    rw [← hl]
    have : ∀ l : List HV, takeN l.length l = some l := fun l => by
      induction l with
      | nil => rfl
      | cons v l ih => show (takeN l.length l).map _ = _; rw [ih]; rfl
    exact this old
  unfold appendH
  simp only [readS_row hg ht, ble_f' (show z < z + n by omega), ble_t' h1, ble_t' h2, blt_t' h3, Bool.and_self, cond_true, cond_false, hb, read_row hb tk]
  have e1 : Nat.ble fl b = true := ble_t' hfl
  have e2 : Nat.beq size size = true := Nat.beq_refl size
  have e3 : Nat.beq (0 + z * size) old.length = true := by rw [Nat.zero_add, hl]; exact Nat.beq_refl _
  simp only [e1, e2, e3, h1row, Bool.and_self, cond_true]
  rfl
/-- Within what is free. -/
theorem app_in {bx ox cx n b o k z : Nat} {cs old row new : List HV} {bk k2 : BK} (hg : h.get bx = some (.cells cs bk)) (ht : takeN (n * size) (cs.drop ox) = some row) (hb : h.get b = some (.cells old k2)) (hk : Own k2) (hfl : fl ≤ b) (h1row : row.all HV.one = true) (hne : row ≠ [])
    (hfit : k + n ≤ z) (hw : overwrite old (o + k * size) row = some new) :
    appendH fl ⟨h, nx⟩ size bytes (.slice (some (b, o)) k z) (.slice (some (bx, ox)) n cx) = some (.slice (some (b, o)) (k + n) z, ⟨h.set b (some (.cells new k2)), nx⟩) := by
  unfold appendH
  have hwr : (⟨h, nx⟩ : HS).write fl (b, o + k * size) row = some ⟨h.set b (some (.cells new k2)), nx⟩ := by
    unfold HS.write
    simp only [hb]
    have e1 : Nat.ble fl b = true := ble_t' hfl
    cases k2 with
    | ro => exact hk.elim
    | exact => simp only [e1, h1row, Bool.and_self, cond_true, hw, Option.map_some]; rfl
    | opn s => simp only [e1, h1row, Bool.and_self, cond_true, hw, Option.map_some]; rfl
  simp only [readS_row hg ht, ble_t' hfit, cond_true]
  cases row with
  | nil => exact absurd rfl hne
  | cons v r => simp only [hwr, Option.map_some]
theorem r_ms {zero : List HV} {l c : Lo} {ln cn : Nat} (hl : a.ev l = i64 ln) (hc : a.ev c = i64 cn) (h1 : ln ≤ cn) (h2 : cn * bytes ≤ 35184372088832) (h3 : cn ≤ 35184372088832) (hn : R lp fl os N (a.put dst (.slice (some (nx, 0)) ln cn)) ⟨h.set nx (some (.cells (repl cn zero) .exact)), nx + 1⟩) : R lp fl (⟨dst, .makeSlice zero bytes l c, none, anc⟩ :: os) N a ⟨h, nx⟩ :=
  r_go (by
    show oMakeSlice zero bytes l c a _ = _
    unfold oMakeSlice
    rw [hl, hc]
    have e1 : natOf (i64 (ln : Int)) = some ln := rfl
    have e2 : natOf (i64 (cn : Int)) = some cn := rfl
    rw [e1, e2]
    simp only [ble_t' h1, ble_t' h2, ble_t' h3, Bool.and_self, cond_true]
    rfl) hn
theorem repl_one (n : Nat) (v : HV) : repl n [v] = List.replicate n v := by
  unfold repl
  induction n with
  | zero => rfl
  | succ n ih => rw [List.replicate_succ, List.flatten_cons, ih, List.replicate_succ]; rfl
end Go.Hx

/- What calls leave: blocks below as they were; lists built by appending. -/
namespace Go.Hx
/-- Blocks below are as they were, nothing lies ahead. -/
structure Ext (h : Tr HBlk) (nx : Nat) (h' : Tr HBlk) (n' : Nat) : Prop where
  le : nx ≤ n'
  d : D h' n'
  same : ∀ b, b < nx → h'.get b = h.get b
theorem Ext.refl {h : Tr HBlk} {nx : Nat} (hd : D h nx) : Ext h nx h nx := ⟨Nat.le_refl _, hd, fun _ _ => rfl⟩
theorem Ext.trans {h h1 h2 : Tr HBlk} {nx n1 n2 : Nat} (a : Ext h nx h1 n1) (b : Ext h1 n1 h2 n2) : Ext h nx h2 n2 :=
  ⟨Nat.le_trans a.le b.le, b.d, fun c hc => (b.same c (Nat.lt_of_lt_of_le hc a.le)).trans (a.same c hc)⟩
theorem Ext.nx {h : Tr HBlk} {nx n : Nat} (hd : D h nx) (hn : nx ≤ n) : Ext h nx h n := ⟨hn, hd.mono hn, fun _ _ => rfl⟩
theorem Ext.set {h : Tr HBlk} {nx n b : Nat} {x : Option HBlk} (hd : D h nx) (hn : nx ≤ n) (h1 : nx ≤ b) (h2 : b < n) : Ext h nx (h.set b x) n :=
  ⟨hn, hd.put hn h2, fun c hc => by rw [Tr.get_set, if_neg (by omega)]⟩
theorem Ext.put {h0 h : Tr HBlk} {n0 n b : Nat} {x : Option HBlk} (e : Ext h0 n0 h n) (h1 : n0 ≤ b) (h2 : b < n) : Ext h0 n0 (h.set b x) n :=
  ⟨e.le, e.d.put (Nat.le_refl _) h2, fun c hc => by rw [Tr.get_set, if_neg (by omega)]; exact e.same c hc⟩
theorem Ext.up {h0 h : Tr HBlk} {n0 n n2 : Nat} (e : Ext h0 n0 h n) (hn : n ≤ n2) : Ext h0 n0 h n2 := ⟨Nat.le_trans e.le hn, e.d.mono hn, e.same⟩
theorem Row.ext {α : Type} {enc : α → List HV} {sz : Nat} {h h' : Tr HBlk} {nx n' : Nat} {p : Option (Nat × Nat)} {l : List α} (hr : Row enc sz h nx p l) (e : Ext h nx h' n') : Row enc sz h' n' p l := fun hne => by
  obtain ⟨b, o, cs, k, h1, h2, h3, h4⟩ := hr hne
  exact ⟨b, o, cs, k, h1, Nat.lt_of_lt_of_le h2 e.le, (e.same b h2).trans h3, h4⟩
theorem take_drop2 : ∀ (n : Nat) (l r : List HV), takeN n l = some r → ∀ j m, j + m ≤ n → takeN m (l.drop j) = takeN m (r.drop j)
  | n, l, r, h, 0, 0, _ => rfl
  | n + 1, [], r, h, _, _, _ => by cases h
  | n + 1, v :: l, r, h, 0, m + 1, hj => by
    unfold takeN at h
    cases e : takeN n l with
    | none => rw [e] at h; cases h
    | some r' =>
      rw [e] at h; cases h
      show (takeN m l).map _ = (takeN m r').map _
      have := take_drop2 n l r' e 0 m (by omega)
      simp only [List.drop_zero] at this
      rw [this]
  | n + 1, v :: l, r, h, j + 1, m, hj => by
    unfold takeN at h
    cases e : takeN n l with
    | none => rw [e] at h; cases h
    | some r' => rw [e] at h; cases h; exact take_drop2 n l r' e j m (by omega)
  | 0, l, r, h, j + 1, m, hj => by omega
theorem takeN_more : ∀ (n : Nat) (l m r : List HV), takeN n l = some r → takeN n (l ++ m) = some r
  | 0, _, _, _, h => h
  | n + 1, [], _, _, h => by cases h
  | n + 1, v :: l, m, r, h => by
    unfold takeN at h
    cases e : takeN n l with
    | none => rw [e] at h; cases h
    | some r' =>
      rw [e] at h
      show (takeN n (l ++ m)).map _ = _
      rw [takeN_more n l m r' e]; exact h
theorem take_sub {sz o j n : Nat} {cs row r : List HV} (ht : takeN sz (cs.drop o) = some row) (hj : j + n ≤ sz) (hr : takeN n (row.drop j) = some r) : takeN n (cs.drop (o + j)) = some r := by
  rw [← List.drop_drop, take_drop2 sz _ row ht j n hj]; exact hr
/-- What a call hands back as a list of rows, in new memory or in what was there. -/
def ScL {α : Type} (enc : α → List HV) (sz : Nat) (l : List α) (σ : HS) : HV → HS → Prop := fun v σ' => ∃ p c h' n', v = .slice p l.length c ∧ σ' = ⟨h', n'⟩ ∧ Ext σ.h σ.nx h' n' ∧ Row enc sz h' n' p l
/-- A list that is being built. -/
def Out {α : Type} (enc : α → List HV) (sz n0 : Nat) (h : Tr HBlk) (nx : Nat) (v : HV) (l : List α) : Prop :=
  (l = [] ∧ v = .slice none 0 0) ∨ ∃ b, n0 ≤ b ∧ b < nx ∧ v = .slice (some (b, 0)) l.length l.length ∧ h.get b = some (.cells (l.flatMap enc) (.opn sz))
theorem Out.nil {α : Type} {enc : α → List HV} {sz n0 nx : Nat} {h : Tr HBlk} : Out enc sz n0 h nx (.slice none 0 0) [] := .inl ⟨rfl, rfl⟩
theorem Out.len {α : Type} {enc : α → List HV} {sz n0 nx : Nat} {h : Tr HBlk} {v : HV} {l : List α} (o : Out enc sz n0 h nx v l) : ∃ p, v = .slice p l.length l.length := by
  rcases o with ⟨rfl, rfl⟩ | ⟨b, _, _, rfl, _⟩
  · exact ⟨none, rfl⟩
  · exact ⟨_, rfl⟩
theorem Out.keep {α : Type} {enc : α → List HV} {sz n0 nx n' : Nat} {h h' : Tr HBlk} {v : HV} {l : List α} (o : Out enc sz n0 h nx v l) (hn : nx ≤ n') (hs : ∀ b, b < nx → h'.get b = h.get b) : Out enc sz n0 h' n' v l := by
  rcases o with o | ⟨b, h1, h2, h3, h4⟩
  · exact .inl o
  · exact .inr ⟨b, h1, by omega, h3, (hs b h2).trans h4⟩
theorem flat_len {α : Type} {enc : α → List HV} {sz : Nat} (he : ∀ x, (enc x).length = sz) : ∀ l : List α, (l.flatMap enc).length = l.length * sz
  | [] => by simp
  | x :: l => by rw [List.flatMap_cons, List.length_append, he x, flat_len he l, List.length_cons, Nat.add_mul]; omega
theorem takeN_app : ∀ (a b : List HV), takeN a.length (a ++ b) = some a
  | [], _ => rfl
  | v :: a, b => by show (takeN a.length (a ++ b)).map _ = _; rw [takeN_app a b]; rfl
theorem flat_row {α : Type} {enc : α → List HV} {sz : Nat} (he : ∀ x, (enc x).length = sz) : ∀ (l : List α) (i : Nat) (x : α), l[i]? = some x → takeN sz ((l.flatMap enc).drop (0 + i * sz)) = some (enc x)
  | [], i, x, h => by simp at h
  | y :: l, 0, x, h => by
    simp at h; subst h
    rw [Nat.zero_mul, List.flatMap_cons, ← he y]
    exact takeN_app _ _
  | y :: l, i + 1, x, h => by
    have := flat_row he l i x (by simpa using h)
    rw [List.flatMap_cons, List.drop_append, show 0 + (i + 1) * sz - (enc y).length = 0 + i * sz by rw [he y, Nat.add_mul]; omega, List.drop_of_length_le (by rw [he y, Nat.add_mul]; omega), List.nil_append]
    exact this
theorem Out.row {α : Type} {enc : α → List HV} {sz n0 nx : Nat} {h : Tr HBlk} {p : Option (Nat × Nat)} {n c : Nat} {l : List α} (he : ∀ x, (enc x).length = sz) (o : Out enc sz n0 h nx (.slice p n c) l) : n = l.length ∧ Row enc sz h nx p l := by
  rcases o with ⟨rfl, e⟩ | ⟨b, h1, h2, h3, h4⟩
  · cases e; exact ⟨rfl, fun hne => absurd rfl hne⟩
  · cases h3; exact ⟨rfl, fun _ => ⟨b, 0, _, _, rfl, h2, h4, fun i x hx => flat_row he l i x hx⟩⟩
/-- One row more: it was laid at nx. -/
theorem Out.app {α : Type} {enc : α → List HV} {sz n0 nx bytes fl : Nat} {h : Tr HBlk} {v : HV} {l : List α} {x : α} (he : ∀ x, (enc x).length = sz) (h1row : (enc x).all HV.one = true) (hsz : 0 < sz) (hfl : fl ≤ n0) (hd : D h nx) (o : Out enc sz n0 h nx v l) (hb : (l.length + 1) * bytes ≤ 35184372088832) (hl : l.length + 1 ≤ 35184372088832) (hn0 : n0 ≤ nx) :
    ∃ v' h', appendH fl ⟨h.set nx (some (.cells (enc x) .exact)), nx + 1⟩ sz bytes v (.slice (some (nx, 0)) 1 1) = some (v', ⟨h', nx + 2⟩) ∧ Out enc sz n0 h' (nx + 2) v' (l ++ [x]) ∧ (∀ b, b < n0 → h'.get b = h.get b) ∧ D h' (nx + 2) := by
  have hg : (h.set nx (some (.cells (enc x) .exact))).get nx = some (.cells (enc x) .exact) := get_same _ _ _
  have ht : takeN (1 * sz) ((enc x).drop 0) = some (enc x) := by
    rw [Nat.one_mul, ← he x]
    have := takeN_app (enc x) []
    rwa [List.append_nil] at this
  have hd1 : D (h.set nx (some (.cells (enc x) .exact))) (nx + 1) := hd.put (by omega) (by omega)
  rcases o with ⟨rfl, rfl⟩ | ⟨b, h1, h2, rfl, h4⟩
  · refine ⟨_, _, app_nil hg ht (by omega) (by simpa using hb) (by omega) hsz, .inr ⟨nx + 1, by omega, by omega, rfl, ?_⟩, fun b hb => ?_, hd1.put (by omega) (by omega)⟩
    · rw [get_same]; simp
    · rw [get_other _ _ (by omega), get_other _ _ (by omega)]
  · have hb' : (h.set nx (some (.cells (enc x) .exact))).get b = some (.cells (l.flatMap enc) (.opn sz)) := by rw [get_other _ _ (by omega)]; exact h4
    refine ⟨_, _, app_opn hg ht hb' (flat_len he l) (by omega) rfl h1row (by omega) hb hl hsz, .inr ⟨nx + 1, by omega, by omega, by simp, ?_⟩, fun c hc => ?_, ?_⟩
    · rw [get_same]; simp
    · rw [get_other _ _ (by omega), get_other _ _ (by omega), get_other _ _ (by omega)]
    · exact (hd1.put (Nat.le_refl _) (by omega)).put (by omega) (by omega)
/-- What is kept of a list of plain rows. -/
theorem gc_row {h0 h : Tr HBlk} {n0 n b o n1 c : Nat} {cs : List HV} {k : BK} (hb : n0 ≤ b) (hg : h.get b = some (.cells cs k)) (hf : cs.all flat1 = true) : gcH ⟨h0, n0⟩ ⟨h, n⟩ (.slice (some (b, o)) n1 c) = ⟨h0.set b (some (.cells cs k)), n⟩ := by
  unfold gcH
  congr 1
  show keepV h n0 (keepD h n0 4) h0 (.slice (some (b, o)) n1 c) = _
  unfold keepV
  have : Nat.blt b n0 = false := by
    cases e : Nat.blt b n0 with
    | false => rfl
    | true => rw [Nat.blt_eq] at e; omega
  simp only [this, cond_false, hg]
  exact keep_all1 hf
theorem gc_none {σ0 σ : HS} {n c : Nat} : gcH σ0 σ (.slice none n c) = ⟨σ0.h, σ.nx⟩ := gc_flat rfl
theorem flat_flat {α : Type} {enc : α → List HV} (hf : ∀ x, (enc x).all flat1 = true) (l : List α) : (l.flatMap enc).all flat1 = true := by
  rw [List.all_eq_true]
  intro w hw
  obtain ⟨x, _, hx⟩ := List.mem_flatMap.1 hw
  exact List.all_eq_true.1 (hf x) w hx
theorem scl_blk {α : Type} {enc : α → List HV} {sz nx b c : Nat} {h0 h : Tr HBlk} {n0 : Nat} {l : List α} {k : BK} {rest : List HV} (he : ∀ x, (enc x).length = sz) (hf : ∀ x, (enc x).all flat1 = true) (hr : rest.all flat1 = true) (hd0 : D h0 n0) (h1 : n0 ≤ b) (h2 : b < nx) (h4 : h.get b = some (.cells (l.flatMap enc ++ rest) k)) :
    ScL enc sz l ⟨h0, n0⟩ (.slice (some (b, 0)) l.length c) (gcH ⟨h0, n0⟩ ⟨h, nx⟩ (.slice (some (b, 0)) l.length c)) := by
  rw [gc_row h1 h4 (by rw [List.all_append, flat_flat hf l, hr]; rfl)]
  refine ⟨some (b, 0), _, _, nx, rfl, rfl, Ext.set hd0 (Nat.le_trans h1 (Nat.le_of_lt h2)) h1 h2, fun _ => ⟨b, 0, _, _, rfl, h2, get_same _ _ _, fun i x hx => ?_⟩⟩
  have := flat_row he l i x hx
  have hi : i < l.length := by
    rcases Nat.lt_or_ge i l.length with h | h
    · exact h
    · rw [List.getElem?_eq_none h] at hx; cases hx
  have hm : (i + 1) * sz ≤ l.length * sz := Nat.mul_le_mul_right sz (by omega)
  rw [Nat.add_mul, Nat.one_mul] at hm
  rw [List.drop_append_of_le_length (by rw [flat_len he]; omega)]
  exact takeN_more _ _ _ _ this
/-- The end of a function that hands back a list that it has built. -/
theorem scl_out {α : Type} {enc : α → List HV} {sz nx : Nat} {h0 h : Tr HBlk} {n0 : Nat} {v : HV} {l : List α} (he : ∀ x, (enc x).length = sz) (hf : ∀ x, (enc x).all flat1 = true) (hd0 : D h0 n0) (hn : n0 ≤ nx) (o : Out enc sz n0 h nx v l) : ScL enc sz l ⟨h0, n0⟩ v (gcH ⟨h0, n0⟩ ⟨h, nx⟩ v) := by
  have hfl : (l.flatMap enc).all flat1 = true := by
    rw [List.all_eq_true]
    intro w hw
    obtain ⟨x, _, hx⟩ := List.mem_flatMap.1 hw
    exact List.all_eq_true.1 (hf x) w hx
  rcases o with ⟨rfl, rfl⟩ | ⟨b, h1, h2, rfl, h4⟩
  · exact ⟨none, 0, h0, nx, rfl, gc_none, Ext.nx hd0 hn, fun hne => absurd rfl hne⟩
  · rw [gc_row h1 h4 hfl]
    exact ⟨some (b, 0), _, _, nx, rfl, rfl, Ext.set hd0 hn h1 h2, fun _ => ⟨b, 0, _, _, rfl, h2, get_same _ _ _, fun i x hx => flat_row he l i x hx⟩⟩
end Go.Hx

/- The functions of the program, of which one is known: 'wakes' tells true. -/
namespace Go.Hx
noncomputable section
def spWakes : List HV → HS → Option (HV × HS)
  | [], σ => some (.bool true, σ)
  | _, _ => none
def LW : Nat → Option LFunc := withS LP 19 spWakes
theorem withS_of {lp : Nat → Option LFunc} {f : Nat} {g : List HV → HS → Option (HV × HS)} {k : Nat} {lf : LFunc} (hk : Nat.beq k f = false) (h : lp k = some lf) : withS lp f g k = some lf := by
  unfold withS
  rw [hk]
  exact h
theorem lw_of {k : Nat} {lf : LFunc} (hk : Nat.beq k 19 = false) (h : LP k = some lf) : LW k = some lf := withS_of hk h
theorem lw20 : LW 20 = some L20 := lw_of rfl lp20
theorem lw21 : LW 21 = some L21 := lw_of rfl lp21
theorem lw23 : LW 23 = some L23 := lw_of rfl lp23
theorem lw25 : LW 25 = some L25 := lw_of rfl lp25
theorem lw27 : LW 27 = some L27 := lw_of rfl lp27
theorem lw29 : LW 29 = some L29 := lw_of rfl lp29
theorem lw35 : LW 35 = some L35 := lw_of rfl lp35
theorem lw36 : LW 36 = some L36 := lw_of rfl lp36
theorem lw37 : LW 37 = some L37 := lw_of rfl lp37
theorem lw38 : LW 38 = some L38 := lw_of rfl lp38
theorem lw48 : LW 48 = some L48 := lw_of rfl lp48
theorem lw63 : LW 63 = some L63 := lw_of rfl lp63
theorem lw64 : LW 64 = some L64 := lw_of rfl lp64
theorem lw66 : LW 66 = some L66 := lw_of rfl lp66
theorem lw68 : LW 68 = some L68 := lw_of rfl lp68
theorem lw71 : LW 71 = some L71 := lw_of rfl lp71
theorem lw72 : LW 72 = some L72 := lw_of rfl lp72
theorem lw73 : LW 73 = some L73 := lw_of rfl lp73
theorem lw76 : LW 76 = some L76 := lw_of rfl lp76
theorem lw77 : LW 77 = some L77 := lw_of rfl lp77
theorem lw83 : LW 83 = some L83 := lw_of rfl lp83
theorem lw86 : LW 86 = some L86 := lw_of rfl lp86
theorem lw88 : LW 88 = some L88 := lw_of rfl lp88
theorem lw89 : LW 89 = some L89 := lw_of rfl lp89
theorem lw90 : LW 90 = some L90 := lw_of rfl lp90
theorem lw91 : LW 91 = some L91 := lw_of rfl lp91
theorem lw96 : LW 96 = some L96 := lw_of rfl lp96
theorem lw97 : LW 97 = some L97 := lw_of rfl lp97
theorem lw100 : LW 100 = some L100 := lw_of rfl lp100
end
end Go.Hx

namespace Go.Hx
set_option linter.unusedSimpArgs false
set_option linter.unusedVariables false
set_option maxRecDepth 20000
set_option maxHeartbeats 4000000
attribute [local irreducible] W R C thenH inBlockH
/- 37 -/
theorem c_In {fl : Nat} {h : Tr HBlk} {nx : Nat} {n lo hi : Int} : C LW fl 37 [i64 n, i64 lo, i64 hi] ⟨h, nx⟩ (Sc (· = .bool (decide (lo ≤ n ∧ n ≤ hi))) ⟨h, nx⟩) := by
  refine c_in lw37 rfl rfl rfl ?_
  dsimp only [L37]
  repeat' first
   | refine r_nil ?_
   | refine th_n ?_
   | refine w_seq ?_
   | refine w_reg ?_
   | refine w_ret ?_
   | refine r_take (by simp (disch:=first|decide|(simp only[zF,zG];decide)) only [zA,zB,zC,zD,zE,zF,zG,zH,zI,zJ,zK,HV.cells]; first|done|exact rfl) ?_
   | refine r_drop (by simp (disch:=first|decide|(simp only[zF,zG,Bool.not_true,Bool.not_false];decide)) only [zA,zB,zC,zD,zE,zF,zG,zH,zI,zJ,zK,HV.cells,Bool.not_true,Bool.not_false]; first|done|exact rfl) ?_
   | refine r_move (by simp (disch:=first|decide|(simp only[zF,zG];decide)) only [zA,zB,zC,zD,zE,zF,zG,zH,zI,zJ,zK,HV.cells]; try exact rfl) ?_
   | refine r_leq (by simp (disch:=first|decide|(simp only[zF,zG];decide)) only [zA,zB,zC,zD,zE,zF,zG,zH,zI,zJ,zK,HV.cells]; try exact rfl) (by simp (disch:=first|decide|(simp only[zF,zG];decide)) only [zA,zB,zC,zD,zE,zF,zG,zH,zI,zJ,zK,HV.cells]; try exact rfl) (fun hc => ?_) (fun hc => ?_) <;> (try (exfalso; omega))
   | refine r_geq (by simp (disch:=first|decide|(simp only[zF,zG];decide)) only [zA,zB,zC,zD,zE,zF,zG,zH,zI,zJ,zK,HV.cells]; try exact rfl) (by simp (disch:=first|decide|(simp only[zF,zG];decide)) only [zA,zB,zC,zD,zE,zF,zG,zH,zI,zJ,zK,HV.cells]; try exact rfl) (fun hc => ?_) (fun hc => ?_) <;> (try (exfalso; omega))
   | refine r_pt (by simp (disch:=first|decide|(simp only[zF,zG];decide)) only [zA,zB,zC,zD,zE,zF,zG,zH,zI,zJ,zK,HV.cells]; first|done|exact rfl) (by simp (disch:=first|decide|(simp only[zF,zG];decide)) only [zA,zB,zC,zD,zE,zF,zG,zH,zI,zJ,zK,HV.cells]; try exact rfl) ?_
   | refine r_pf (by simp (disch:=first|decide|(simp only[zF,zG];decide)) only [zA,zB,zC,zD,zE,zF,zG,zH,zI,zJ,zK,HV.cells]; first|done|exact rfl) (by simp (disch:=first|decide|(simp only[zF,zG];decide)) only [zA,zB,zC,zD,zE,zF,zG,zH,zI,zJ,zK,HV.cells]; try exact rfl) ?_
   | fail
  all_goals (refine fin_r (by simp only [zL,zM]) (by simp (disch:=first|decide|(simp only[zF,zG];decide)) only [zA,zB,zC,zD,zE,zF,zG,zH,zI,zJ,zK,HV.cells]; try exact rfl) (sc_flat rfl (by dsimp only; omega) ?_); first|rfl|(rw [decide_eq_true (by omega)])|(rw [decide_eq_false (by omega)]))
/- 48 -/
theorem c_Span {fl : Nat} {h : Tr HBlk} {nx : Nat} {a b lo hi : Int} : C LW fl 48 [.agg [i64 a, i64 b], i64 lo, i64 hi] ⟨h, nx⟩ (Sc (· = .bool (decide (lo ≤ a ∧ a ≤ b ∧ b ≤ hi))) ⟨h, nx⟩) := by
  refine c_in lw48 rfl rfl rfl ?_
  dsimp only [L48]
  repeat' first
   | refine r_nil ?_
   | refine th_n ?_
   | refine w_seq ?_
   | refine w_reg ?_
   | refine w_ret ?_
   | refine r_take (by simp (disch:=first|decide|(simp only[zF,zG];decide)) only [zA,zB,zC,zD,zE,zF,zG,zH,zI,zJ,zK,HV.cells]; first|done|exact rfl) ?_
   | refine r_drop (by simp (disch:=first|decide|(simp only[zF,zG,Bool.not_true,Bool.not_false];decide)) only [zA,zB,zC,zD,zE,zF,zG,zH,zI,zJ,zK,HV.cells,Bool.not_true,Bool.not_false]; first|done|exact rfl) ?_
   | refine r_move (by simp (disch:=first|decide|(simp only[zF,zG];decide)) only [zA,zB,zC,zD,zE,zF,zG,zH,zI,zJ,zK,HV.cells]; try exact rfl) ?_
   | refine r_fa (by simp (disch:=first|decide|(simp only[zF,zG];decide)) only [zA,zB,zC,zD,zE,zF,zG,zH,zI,zJ,zK,HV.cells]; try exact rfl) ?_
   | refine r_ld1 (by simp (disch:=first|decide|(simp only[zF,zG];decide)) only [zA,zB,zC,zD,zE,zF,zG,zH,zI,zJ,zK,HV.cells]; try exact rfl) (by first|assumption|(simp (disch:=omega) only [get_same,get_other]; first|done|exact rfl)) (by first|assumption|rfl|(simp only [zI,zJ,HV.cells]; exact rfl)) ?_
   | refine r_box (by simp (disch:=first|decide|(simp only[zF,zG];decide)) only [zA,zB,zC,zD,zE,zF,zG,zH,zI,zJ,zK,HV.cells]; try exact rfl) ?_
   | refine r_leq (by simp (disch:=first|decide|(simp only[zF,zG];decide)) only [zA,zB,zC,zD,zE,zF,zG,zH,zI,zJ,zK,HV.cells]; try exact rfl) (by simp (disch:=first|decide|(simp only[zF,zG];decide)) only [zA,zB,zC,zD,zE,zF,zG,zH,zI,zJ,zK,HV.cells]; try exact rfl) (fun hc => ?_) (fun hc => ?_) <;> (try (exfalso; omega))
   | refine r_pt (by simp (disch:=first|decide|(simp only[zF,zG];decide)) only [zA,zB,zC,zD,zE,zF,zG,zH,zI,zJ,zK,HV.cells]; first|done|exact rfl) (by simp (disch:=first|decide|(simp only[zF,zG];decide)) only [zA,zB,zC,zD,zE,zF,zG,zH,zI,zJ,zK,HV.cells]; try exact rfl) ?_
   | refine r_pf (by simp (disch:=first|decide|(simp only[zF,zG];decide)) only [zA,zB,zC,zD,zE,zF,zG,zH,zI,zJ,zK,HV.cells]; first|done|exact rfl) (by simp (disch:=first|decide|(simp only[zF,zG];decide)) only [zA,zB,zC,zD,zE,zF,zG,zH,zI,zJ,zK,HV.cells]; try exact rfl) ?_
   | refine r_calld (by simp (disch:=first|decide|(simp only[zF,zG];decide)) only [zA,zB,zC,zD,zE,zF,zG,zH,zI,zJ,zK,HV.cells]; try exact rfl) (by simp (disch:=first|decide|(simp only[zF,zG];decide)) only [List.map_cons,List.map_nil,List.nil_append,List.cons_append,List.append_nil,zA,zB,zC,zD,zE,zF,zG,zH,zI,zJ,zK,HV.cells]; try exact rfl) c_In (fun n' hn' hc => ?_) (fun n' hn' hc => ?_) <;> (try (exfalso; omega))
   | fail
  all_goals (refine fin_r (by simp only [zL,zM]) (by simp (disch:=first|decide|(simp only[zF,zG];decide)) only [zA,zB,zC,zD,zE,zF,zG,zH,zI,zJ,zK,HV.cells]; try exact rfl) (sc_flat rfl (by dsimp only; omega) ?_); first|rfl|(rw [decide_eq_true (by omega)])|(rw [decide_eq_false (by omega)]))
/- 66 -/
theorem c_has {fl : Nat} {h : Tr HBlk} {nx : Nat} {n lo hi : Int} : C LW fl 66 [.agg [i64 lo, i64 hi], i64 n] ⟨h, nx⟩ (Sc (· = .bool (decide (lo ≤ n ∧ n ≤ hi))) ⟨h, nx⟩) := by
  refine c_in lw66 rfl rfl rfl ?_
  dsimp only [L66]
  repeat' first
   | refine r_nil ?_
   | refine th_n ?_
   | refine w_seq ?_
   | refine w_reg ?_
   | refine w_ret ?_
   | refine r_take (by simp (disch:=first|decide|(simp only[zF,zG];decide)) only [zA,zB,zC,zD,zE,zF,zG,zH,zI,zJ,zK,HV.cells]; first|done|exact rfl) ?_
   | refine r_drop (by simp (disch:=first|decide|(simp only[zF,zG,Bool.not_true,Bool.not_false];decide)) only [zA,zB,zC,zD,zE,zF,zG,zH,zI,zJ,zK,HV.cells,Bool.not_true,Bool.not_false]; first|done|exact rfl) ?_
   | refine r_move (by simp (disch:=first|decide|(simp only[zF,zG];decide)) only [zA,zB,zC,zD,zE,zF,zG,zH,zI,zJ,zK,HV.cells]; try exact rfl) ?_
   | refine r_fa (by simp (disch:=first|decide|(simp only[zF,zG];decide)) only [zA,zB,zC,zD,zE,zF,zG,zH,zI,zJ,zK,HV.cells]; try exact rfl) ?_
   | refine r_ld1 (by simp (disch:=first|decide|(simp only[zF,zG];decide)) only [zA,zB,zC,zD,zE,zF,zG,zH,zI,zJ,zK,HV.cells]; try exact rfl) (by first|assumption|(simp (disch:=omega) only [get_same,get_other]; first|done|exact rfl)) (by first|assumption|rfl|(simp only [zI,zJ,HV.cells]; exact rfl)) ?_
   | refine r_box (by simp (disch:=first|decide|(simp only[zF,zG];decide)) only [zA,zB,zC,zD,zE,zF,zG,zH,zI,zJ,zK,HV.cells]; try exact rfl) ?_
   | refine r_leq (by simp (disch:=first|decide|(simp only[zF,zG];decide)) only [zA,zB,zC,zD,zE,zF,zG,zH,zI,zJ,zK,HV.cells]; try exact rfl) (by simp (disch:=first|decide|(simp only[zF,zG];decide)) only [zA,zB,zC,zD,zE,zF,zG,zH,zI,zJ,zK,HV.cells]; try exact rfl) (fun hc => ?_) (fun hc => ?_) <;> (try (exfalso; omega))
   | refine r_pt (by simp (disch:=first|decide|(simp only[zF,zG];decide)) only [zA,zB,zC,zD,zE,zF,zG,zH,zI,zJ,zK,HV.cells]; first|done|exact rfl) (by simp (disch:=first|decide|(simp only[zF,zG];decide)) only [zA,zB,zC,zD,zE,zF,zG,zH,zI,zJ,zK,HV.cells]; try exact rfl) ?_
   | refine r_pf (by simp (disch:=first|decide|(simp only[zF,zG];decide)) only [zA,zB,zC,zD,zE,zF,zG,zH,zI,zJ,zK,HV.cells]; first|done|exact rfl) (by simp (disch:=first|decide|(simp only[zF,zG];decide)) only [zA,zB,zC,zD,zE,zF,zG,zH,zI,zJ,zK,HV.cells]; try exact rfl) ?_
   | fail
  all_goals (refine fin_r (by simp only [zL,zM]) (by simp (disch:=first|decide|(simp only[zF,zG];decide)) only [zA,zB,zC,zD,zE,zF,zG,zH,zI,zJ,zK,HV.cells]; try exact rfl) (sc_flat rfl (by dsimp only; omega) ?_); first|rfl|(rw [decide_eq_true (by omega)])|(rw [decide_eq_false (by omega)]))
/- 83 -/
theorem c_liesIn {fl : Nat} {h : Tr HBlk} {nx : Nat} {a b lo hi : Int} : C LW fl 83 [.agg [i64 a, i64 b], i64 lo, i64 hi] ⟨h, nx⟩ (Sc (· = .bool (decide (lo ≤ a ∧ a ≤ b ∧ b ≤ hi))) ⟨h, nx⟩) := by
  refine c_in lw83 rfl rfl rfl ?_
  dsimp only [L83]
  repeat' first
   | refine r_nil ?_
   | refine th_n ?_
   | refine w_seq ?_
   | refine w_reg ?_
   | refine w_ret ?_
   | refine r_take (by simp (disch:=first|decide|(simp only[zF,zG];decide)) only [zA,zB,zC,zD,zE,zF,zG,zH,zI,zJ,zK,HV.cells]; first|done|exact rfl) ?_
   | refine r_drop (by simp (disch:=first|decide|(simp only[zF,zG,Bool.not_true,Bool.not_false];decide)) only [zA,zB,zC,zD,zE,zF,zG,zH,zI,zJ,zK,HV.cells,Bool.not_true,Bool.not_false]; first|done|exact rfl) ?_
   | refine r_move (by simp (disch:=first|decide|(simp only[zF,zG];decide)) only [zA,zB,zC,zD,zE,zF,zG,zH,zI,zJ,zK,HV.cells]; try exact rfl) ?_
   | refine r_fa (by simp (disch:=first|decide|(simp only[zF,zG];decide)) only [zA,zB,zC,zD,zE,zF,zG,zH,zI,zJ,zK,HV.cells]; try exact rfl) ?_
   | refine r_ld1 (by simp (disch:=first|decide|(simp only[zF,zG];decide)) only [zA,zB,zC,zD,zE,zF,zG,zH,zI,zJ,zK,HV.cells]; try exact rfl) (by first|assumption|(simp (disch:=omega) only [get_same,get_other]; first|done|exact rfl)) (by first|assumption|rfl|(simp only [zI,zJ,HV.cells]; exact rfl)) ?_
   | refine r_box (by simp (disch:=first|decide|(simp only[zF,zG];decide)) only [zA,zB,zC,zD,zE,zF,zG,zH,zI,zJ,zK,HV.cells]; try exact rfl) ?_
   | refine r_leq (by simp (disch:=first|decide|(simp only[zF,zG];decide)) only [zA,zB,zC,zD,zE,zF,zG,zH,zI,zJ,zK,HV.cells]; try exact rfl) (by simp (disch:=first|decide|(simp only[zF,zG];decide)) only [zA,zB,zC,zD,zE,zF,zG,zH,zI,zJ,zK,HV.cells]; try exact rfl) (fun hc => ?_) (fun hc => ?_) <;> (try (exfalso; omega))
   | refine r_pt (by simp (disch:=first|decide|(simp only[zF,zG];decide)) only [zA,zB,zC,zD,zE,zF,zG,zH,zI,zJ,zK,HV.cells]; first|done|exact rfl) (by simp (disch:=first|decide|(simp only[zF,zG];decide)) only [zA,zB,zC,zD,zE,zF,zG,zH,zI,zJ,zK,HV.cells]; try exact rfl) ?_
   | refine r_pf (by simp (disch:=first|decide|(simp only[zF,zG];decide)) only [zA,zB,zC,zD,zE,zF,zG,zH,zI,zJ,zK,HV.cells]; first|done|exact rfl) (by simp (disch:=first|decide|(simp only[zF,zG];decide)) only [zA,zB,zC,zD,zE,zF,zG,zH,zI,zJ,zK,HV.cells]; try exact rfl) ?_
   | fail
  all_goals (refine fin_r (by simp only [zL,zM]) (by simp (disch:=first|decide|(simp only[zF,zG];decide)) only [zA,zB,zC,zD,zE,zF,zG,zH,zI,zJ,zK,HV.cells]; try exact rfl) (sc_flat rfl (by dsimp only; omega) ?_); first|rfl|(rw [decide_eq_true (by omega)])|(rw [decide_eq_false (by omega)]))
/-- A tube as the document has it. -/
def TubeOk (c t a b : Int) : Prop := 1 ≤ c ∧ c ≤ 10 ∧ 1 ≤ a ∧ a ≤ b ∧ b ≤ 200 ∧ t ≤ 2000 ∧ c * a ≤ t ∧ t ≤ c * b
instance (c t a b : Int) : Decidable (TubeOk c t a b) := by unfold TubeOk; infer_instance
theorem mul10 {c b : Int} (h1 : 1 ≤ c ∧ c ≤ 10) : c * b = b ∨ c * b = 2 * b ∨ c * b = 3 * b ∨ c * b = 4 * b ∨ c * b = 5 * b ∨ c * b = 6 * b ∨ c * b = 7 * b ∨ c * b = 8 * b ∨ c * b = 9 * b ∨ c * b = 10 * b := by
  have : c = 1 ∨ c = 2 ∨ c = 3 ∨ c = 4 ∨ c = 5 ∨ c = 6 ∨ c = 7 ∨ c = 8 ∨ c = 9 ∨ c = 10 := by omega
  rcases this with e | e | e | e | e | e | e | e | e | e <;> subst e <;> omega
theorem mulr {c b : Int} (h1 : 1 ≤ c ∧ c ≤ 10) (h2 : 1 ≤ b ∧ b ≤ 200) : 1 ≤ c * b ∧ c * b ≤ 2000 := by
  have := mul10 (b := b) h1; omega
/- 63 -/
theorem c_valid {fl : Nat} {h : Tr HBlk} {nx : Nat} {c t a b : Int} : C LW fl 63 [.agg [i64 c, i64 t, i64 a, i64 b]] ⟨h, nx⟩ (Sc (· = .bool (decide (TubeOk c t a b))) ⟨h, nx⟩) := by
  refine c_in lw63 rfl rfl rfl ?_
  dsimp only [L63]
  repeat' first
   | refine r_nil ?_
   | refine th_n ?_
   | refine th_r ?_
   | refine w_seq ?_
   | refine w_reg ?_
   | refine w_ret ?_
   | refine w_skip ?_
   | refine w_t (by simp (disch:=first|decide|(simp only[zF,zG];decide)) only [zA,zB,zC,zD,zE,zF,zG,zH,zI,zJ,zK,HV.cells]; first|done|exact rfl) ?_
   | refine w_f (by simp (disch:=first|decide|(simp only[zF,zG];decide)) only [zA,zB,zC,zD,zE,zF,zG,zH,zI,zJ,zK,HV.cells]; first|done|exact rfl) ?_
   | refine r_take (by simp (disch:=first|decide|(simp only[zF,zG];decide)) only [zA,zB,zC,zD,zE,zF,zG,zH,zI,zJ,zK,HV.cells]; first|done|exact rfl) ?_
   | refine r_drop (by simp (disch:=first|decide|(simp only[zF,zG,Bool.not_true,Bool.not_false];decide)) only [zA,zB,zC,zD,zE,zF,zG,zH,zI,zJ,zK,HV.cells,Bool.not_true,Bool.not_false]; first|done|exact rfl) ?_
   | refine r_move (by simp (disch:=first|decide|(simp only[zF,zG];decide)) only [zA,zB,zC,zD,zE,zF,zG,zH,zI,zJ,zK,HV.cells]; try exact rfl) ?_
   | refine r_fa (by simp (disch:=first|decide|(simp only[zF,zG];decide)) only [zA,zB,zC,zD,zE,zF,zG,zH,zI,zJ,zK,HV.cells]; try exact rfl) ?_
   | refine r_ld1 (by simp (disch:=first|decide|(simp only[zF,zG];decide)) only [zA,zB,zC,zD,zE,zF,zG,zH,zI,zJ,zK,HV.cells]; try exact rfl) (by first|assumption|(simp (disch:=omega) only [get_same,get_other]; first|done|exact rfl)) (by first|assumption|rfl|(simp only [zI,zJ,HV.cells]; exact rfl)) ?_
   | refine r_ldn (by simp (disch:=first|decide|(simp only[zF,zG];decide)) only [zA,zB,zC,zD,zE,zF,zG,zH,zI,zJ,zK,HV.cells]; try exact rfl) (by first|assumption|(simp (disch:=omega) only [get_same,get_other]; first|done|exact rfl)) (by first|assumption|rfl|(simp only [zI,zJ,HV.cells]; exact rfl)) ?_
   | refine r_box (by simp (disch:=first|decide|(simp only[zF,zG];decide)) only [zA,zB,zC,zD,zE,zF,zG,zH,zI,zJ,zK,HV.cells]; try exact rfl) ?_
   | refine r_lss (by simp (disch:=first|decide|(simp only[zF,zG];decide)) only [zA,zB,zC,zD,zE,zF,zG,zH,zI,zJ,zK,HV.cells]; try exact rfl) (by simp (disch:=first|decide|(simp only[zF,zG];decide)) only [zA,zB,zC,zD,zE,zF,zG,zH,zI,zJ,zK,HV.cells]; try exact rfl) (fun hc => ?_) (fun hc => ?_) <;> (try (exfalso; omega))
   | refine r_gtr (by simp (disch:=first|decide|(simp only[zF,zG];decide)) only [zA,zB,zC,zD,zE,zF,zG,zH,zI,zJ,zK,HV.cells]; try exact rfl) (by simp (disch:=first|decide|(simp only[zF,zG];decide)) only [zA,zB,zC,zD,zE,zF,zG,zH,zI,zJ,zK,HV.cells]; try exact rfl) (fun hc => ?_) (fun hc => ?_) <;> (try (exfalso; omega))
   | refine r_not1 (by simp (disch:=first|decide|(simp only[zF,zG];decide)) only [zA,zB,zC,zD,zE,zF,zG,zH,zI,zJ,zK,HV.cells]; try exact rfl) ?_
   | refine r_pt (by simp (disch:=first|decide|(simp only[zF,zG];decide)) only [zA,zB,zC,zD,zE,zF,zG,zH,zI,zJ,zK,HV.cells]; first|done|exact rfl) (by simp (disch:=first|decide|(simp only[zF,zG];decide)) only [zA,zB,zC,zD,zE,zF,zG,zH,zI,zJ,zK,HV.cells]; try exact rfl) ?_
   | refine r_pf (by simp (disch:=first|decide|(simp only[zF,zG];decide)) only [zA,zB,zC,zD,zE,zF,zG,zH,zI,zJ,zK,HV.cells]; first|done|exact rfl) (by simp (disch:=first|decide|(simp only[zF,zG];decide)) only [zA,zB,zC,zD,zE,zF,zG,zH,zI,zJ,zK,HV.cells]; try exact rfl) ?_
   | refine r_calld (by simp (disch:=first|decide|(simp only[zF,zG];decide)) only [zA,zB,zC,zD,zE,zF,zG,zH,zI,zJ,zK,HV.cells]; try exact rfl) (by simp (disch:=first|decide|(simp only[zF,zG];decide)) only [List.map_cons,List.map_nil,List.nil_append,List.cons_append,List.append_nil,zA,zB,zC,zD,zE,zF,zG,zH,zI,zJ,zK,HV.cells]; try exact rfl) c_liesIn (fun n' hn' hc => ?_) (fun n' hn' hc => ?_) <;> (try (exfalso; omega))
   | fail
  case refine_2.refine_2.refine_1 =>
    have m1 := mulr (c := c) (b := a) (by omega) (by omega)
    have m2 := mulr (c := c) (b := b) (by omega) (by omega)
    have ow : overwrite [i64 0, i64 0] 0 (HV.agg [i64 (c * a), i64 (c * b)]).cells = some [i64 (c * a), i64 (c * b)] := rfl
    repeat' first
     | refine r_nil ?_
     | refine th_n ?_
     | refine w_seq ?_
     | refine w_reg ?_
     | refine w_ret ?_
     | refine r_take (by simp (disch:=first|decide|(simp only[zF,zG];decide)) only [zA,zB,zC,zD,zE,zF,zG,zH,zI,zJ,zK,HV.cells]; first|done|exact rfl) ?_
     | refine r_drop (by simp (disch:=first|decide|(simp only[zF,zG,Bool.not_true,Bool.not_false];decide)) only [zA,zB,zC,zD,zE,zF,zG,zH,zI,zJ,zK,HV.cells,Bool.not_true,Bool.not_false]; first|done|exact rfl) ?_
     | refine r_move (by simp (disch:=first|decide|(simp only[zF,zG];decide)) only [zA,zB,zC,zD,zE,zF,zG,zH,zI,zJ,zK,HV.cells]; try exact rfl) ?_
     | refine r_fa (by simp (disch:=first|decide|(simp only[zF,zG];decide)) only [zA,zB,zC,zD,zE,zF,zG,zH,zI,zJ,zK,HV.cells]; try exact rfl) ?_
     | refine r_ld1 (by simp (disch:=first|decide|(simp only[zF,zG];decide)) only [zA,zB,zC,zD,zE,zF,zG,zH,zI,zJ,zK,HV.cells]; try exact rfl) (by first|assumption|(simp (disch:=omega) only [get_same,get_other]; first|done|exact rfl)) (by first|assumption|rfl|(simp only [zI,zJ,HV.cells]; exact rfl)) ?_
     | refine r_ldn (by simp (disch:=first|decide|(simp only[zF,zG];decide)) only [zA,zB,zC,zD,zE,zF,zG,zH,zI,zJ,zK,HV.cells]; try exact rfl) (by first|assumption|(simp (disch:=omega) only [get_same,get_other]; first|done|exact rfl)) (by first|assumption|rfl|(simp only [zI,zJ,HV.cells]; exact rfl)) ?_
     | refine r_alloc ?_
     | refine r_st (cs' := _) (by simp (disch:=first|decide|(simp only[zF,zG];decide)) only [zA,zB,zC,zD,zE,zF,zG,zH,zI,zJ,zK,HV.cells]; try exact rfl) (by simp (disch:=first|decide|(simp only[zF,zG];decide)) only [zA,zB,zC,zD,zE,zF,zG,zH,zI,zJ,zK,HV.cells]; try exact rfl) (by first|assumption|(simp (disch:=omega) only [get_same,get_other]; first|done|exact rfl)) (by exact True.intro) (by rfl) (by rfl) (by first|assumption|rfl|(simp only [zI,zJ,HV.cells]; exact rfl)) (by omega) ?_
     | refine r_mul (by simp (disch:=first|decide|(simp only[zF,zG];decide)) only [zA,zB,zC,zD,zE,zF,zG,zH,zI,zJ,zK,HV.cells]; try exact rfl) (by simp (disch:=first|decide|(simp only[zF,zG];decide)) only [zA,zB,zC,zD,zE,zF,zG,zH,zI,zJ,zK,HV.cells]; try exact rfl) (by omega) (by omega) ?_
     | refine r_leq (by simp (disch:=first|decide|(simp only[zF,zG];decide)) only [zA,zB,zC,zD,zE,zF,zG,zH,zI,zJ,zK,HV.cells]; try exact rfl) (by simp (disch:=first|decide|(simp only[zF,zG];decide)) only [zA,zB,zC,zD,zE,zF,zG,zH,zI,zJ,zK,HV.cells]; try exact rfl) (fun hc => ?_) (fun hc => ?_) <;> (try (exfalso; omega))
     | refine r_pt (by simp (disch:=first|decide|(simp only[zF,zG];decide)) only [zA,zB,zC,zD,zE,zF,zG,zH,zI,zJ,zK,HV.cells]; first|done|exact rfl) (by simp (disch:=first|decide|(simp only[zF,zG];decide)) only [zA,zB,zC,zD,zE,zF,zG,zH,zI,zJ,zK,HV.cells]; try exact rfl) ?_
     | refine r_pf (by simp (disch:=first|decide|(simp only[zF,zG];decide)) only [zA,zB,zC,zD,zE,zF,zG,zH,zI,zJ,zK,HV.cells]; first|done|exact rfl) (by simp (disch:=first|decide|(simp only[zF,zG];decide)) only [zA,zB,zC,zD,zE,zF,zG,zH,zI,zJ,zK,HV.cells]; try exact rfl) ?_
     | refine r_build (by simp (disch:=first|decide|(simp only[zF,zG];decide)) only [evParts,List.map_cons,List.map_nil,List.nil_append,List.cons_append,List.append_nil,zA,zB,zC,zD,zE,zF,zG,zH,zI,zJ,zK,HV.cells]; try exact rfl) ?_
     | refine r_calld (by simp (disch:=first|decide|(simp only[zF,zG];decide)) only [zA,zB,zC,zD,zE,zF,zG,zH,zI,zJ,zK,HV.cells]; try exact rfl) (by simp (disch:=first|decide|(simp only[zF,zG];decide)) only [List.map_cons,List.map_nil,List.nil_append,List.cons_append,List.append_nil,zA,zB,zC,zD,zE,zF,zG,zH,zI,zJ,zK,HV.cells]; try exact rfl) c_has (fun n' hn' hc => ?_) (fun n' hn' hc => ?_) <;> (try (exfalso; omega))
     | fail
    all_goals (refine fin_r (by simp only [zL,zM]) (by simp (disch:=first|decide|(simp only[zF,zG];decide)) only [zA,zB,zC,zD,zE,zF,zG,zH,zI,zJ,zK,HV.cells]; try exact rfl) (sc_flat rfl (by dsimp only; omega) ?_); first|rfl|(rw [decide_eq_true (by unfold TubeOk at *; (try dsimp only at *); omega)])|(rw [decide_eq_false (by unfold TubeOk at *; (try dsimp only at *); omega)]))
  all_goals (refine fin_r (by simp only [zL,zM]) (by simp (disch:=first|decide|(simp only[zF,zG];decide)) only [zA,zB,zC,zD,zE,zF,zG,zH,zI,zJ,zK,HV.cells]; try exact rfl) (sc_flat rfl (by dsimp only; omega) ?_); first|rfl|(rw [decide_eq_true (by unfold TubeOk at *; (try dsimp only at *); omega)])|(rw [decide_eq_false (by unfold TubeOk at *; (try dsimp only at *); omega)]))
/- 20 -/
theorem c_Check {fl : Nat} {h : Tr HBlk} {nx : Nat} {c t a b : Int} : C LW fl 20 [.agg [i64 c, i64 t, i64 a, i64 b]] ⟨h, nx⟩ (Sc (· = i64 (if TubeOk c t a b then 0 else 1)) ⟨h, nx⟩) := by
  refine c_in lw20 rfl rfl rfl ?_
  dsimp only [L20]
  repeat' first
   | refine r_nil ?_
   | refine th_n ?_
   | refine th_r ?_
   | refine w_seq ?_
   | refine w_reg ?_
   | refine w_ret ?_
   | refine w_skip ?_
   | refine w_t (by simp (disch:=first|decide|(simp only[zF,zG];decide)) only [zA,zB,zC,zD,zE,zF,zG,zH,zI,zJ,zK,HV.cells]; first|done|exact rfl) ?_
   | refine w_f (by simp (disch:=first|decide|(simp only[zF,zG];decide)) only [zA,zB,zC,zD,zE,zF,zG,zH,zI,zJ,zK,HV.cells]; first|done|exact rfl) ?_
   | refine r_move (by simp (disch:=first|decide|(simp only[zF,zG];decide)) only [zA,zB,zC,zD,zE,zF,zG,zH,zI,zJ,zK,HV.cells]; try exact rfl) ?_
   | refine r_ldn (by simp (disch:=first|decide|(simp only[zF,zG];decide)) only [zA,zB,zC,zD,zE,zF,zG,zH,zI,zJ,zK,HV.cells]; try exact rfl) (by first|assumption|(simp (disch:=omega) only [get_same,get_other]; first|done|exact rfl)) (by first|assumption|rfl|(simp only [zI,zJ,HV.cells]; exact rfl)) ?_
   | refine r_box (by simp (disch:=first|decide|(simp only[zF,zG];decide)) only [zA,zB,zC,zD,zE,zF,zG,zH,zI,zJ,zK,HV.cells]; try exact rfl) ?_
   | refine r_not1 (by simp (disch:=first|decide|(simp only[zF,zG];decide)) only [zA,zB,zC,zD,zE,zF,zG,zH,zI,zJ,zK,HV.cells]; try exact rfl) ?_
   | refine r_calld (by simp (disch:=first|decide|(simp only[zF,zG];decide)) only [zA,zB,zC,zD,zE,zF,zG,zH,zI,zJ,zK,HV.cells]; try exact rfl) (by simp (disch:=first|decide|(simp only[zF,zG];decide)) only [List.map_cons,List.map_nil,List.nil_append,List.cons_append,List.append_nil,zA,zB,zC,zD,zE,zF,zG,zH,zI,zJ,zK,HV.cells]; try exact rfl) c_valid (fun n' hn' hc => ?_) (fun n' hn' hc => ?_) <;> (try (exfalso; omega))
   | fail
  · refine fin_r (by simp only [zL,zM]) (by simp (disch:=first|decide|(simp only[zF,zG];decide)) only [zA,zB,zC,zD,zE,zF,zG,zH,zI,zJ,zK,HV.cells]; try exact rfl) (sc_flat rfl (by dsimp only; omega) ?_); rw [if_pos hc]
  · refine fin_r (by simp only [zL,zM]) (by simp (disch:=first|decide|(simp only[zF,zG];decide)) only [zA,zB,zC,zD,zE,zF,zG,zH,zI,zJ,zK,HV.cells]; try exact rfl) (sc_flat rfl (by dsimp only; omega) ?_); rw [if_neg hc]
/- 35 -/
theorem c_to {fl : Nat} {h : Tr HBlk} {nx : Nat} {a b : Int} : C LW fl 35 [.agg [i64 a, i64 b]] ⟨h, nx⟩ (Sc (· = .agg [i64 a, i64 b]) ⟨h, nx⟩) := by
  have ow : overwrite [i64 0, i64 0] 0 (HV.agg [i64 a, i64 b]).cells = some [i64 a, i64 b] := rfl
  refine c_in lw35 rfl rfl rfl ?_
  dsimp only [L35]
  repeat' first
   | refine r_nil ?_
   | refine th_n ?_
   | refine w_seq ?_
   | refine w_reg ?_
   | refine w_ret ?_
   | refine r_fa (by simp (disch:=first|decide|(simp only[zF,zG];decide)) only [zA,zB,zC,zD,zE,zF,zG,zH,zI,zJ,zK,HV.cells]; try exact rfl) ?_
   | refine r_ld1 (by simp (disch:=first|decide|(simp only[zF,zG];decide)) only [zA,zB,zC,zD,zE,zF,zG,zH,zI,zJ,zK,HV.cells]; try exact rfl) (by first|assumption|(simp (disch:=omega) only [get_same,get_other]; first|done|exact rfl)) (by first|assumption|rfl|(simp only [zI,zJ,HV.cells]; exact rfl)) ?_
   | refine r_box (by simp (disch:=first|decide|(simp only[zF,zG];decide)) only [zA,zB,zC,zD,zE,zF,zG,zH,zI,zJ,zK,HV.cells]; try exact rfl) ?_
   | refine r_alloc ?_
   | refine r_st (cs' := _) (by simp (disch:=first|decide|(simp only[zF,zG];decide)) only [zA,zB,zC,zD,zE,zF,zG,zH,zI,zJ,zK,HV.cells]; try exact rfl) (by simp (disch:=first|decide|(simp only[zF,zG];decide)) only [zA,zB,zC,zD,zE,zF,zG,zH,zI,zJ,zK,HV.cells]; try exact rfl) (by first|assumption|(simp (disch:=omega) only [get_same,get_other]; first|done|exact rfl)) (by exact True.intro) (by rfl) (by rfl) (by first|assumption|rfl|(simp only [zI,zJ,HV.cells]; exact rfl)) (by omega) ?_
   | refine r_build (by simp (disch:=first|decide|(simp only[zF,zG];decide)) only [evParts,List.map_cons,List.map_nil,List.nil_append,List.cons_append,List.append_nil,zA,zB,zC,zD,zE,zF,zG,zH,zI,zJ,zK,HV.cells]; try exact rfl) ?_
   | fail
  exact fin_m (by simp only [zL,zM]) (res_c (by simp (disch:=first|decide|(simp only[zF,zG];decide)) only [zA,zB,zC,zD,zE,zF,zG,zH,zI,zJ,zK,HV.cells]; try exact rfl) (by first|assumption|(simp (disch:=omega) only [get_same,get_other]; first|done|exact rfl)) rfl res_nil) (sc_flat rfl (by dsimp only; omega) rfl)
/-- A tube as the reference has it. -/
def RefOk (c t a b : Int) : Prop := 1 ≤ c ∧ c ≤ 10 ∧ (1 ≤ a ∧ a ≤ b ∧ b ≤ 200) ∧ (1 ≤ t ∧ t ≤ 2000) ∧ c * a ≤ t ∧ t ≤ c * b
theorem ref_ok (c t a b : Int) : RefOk c t a b ↔ TubeOk c t a b := by
  unfold RefOk TubeOk
  constructor
  · intro h; omega
  · intro h
    have m1 := mulr (c := c) (b := a) (by omega) (by omega)
    omega
/- 25 -/
theorem c_isTube {fl : Nat} {h : Tr HBlk} {nx : Nat} {c t a b : Int} : C LW fl 25 [.agg [i64 c, i64 t, i64 a, i64 b]] ⟨h, nx⟩ (Sc (· = .bool (decide (TubeOk c t a b))) ⟨h, nx⟩) := by
  have key := ref_ok c t a b
  unfold RefOk at key
  refine c_in lw25 rfl rfl rfl ?_
  dsimp only [L25]
  repeat' first
   | refine r_nil ?_
   | refine th_n ?_
   | refine w_seq ?_
   | refine w_reg ?_
   | refine w_ret ?_
   | refine r_take (by simp (disch:=first|decide|(simp only[zF,zG];decide)) only [zA,zB,zC,zD,zE,zF,zG,zH,zI,zJ,zK,HV.cells]; first|done|exact rfl) ?_
   | refine r_drop (by simp (disch:=first|decide|(simp only[zF,zG,Bool.not_true,Bool.not_false];decide)) only [zA,zB,zC,zD,zE,zF,zG,zH,zI,zJ,zK,HV.cells,Bool.not_true,Bool.not_false]; first|done|exact rfl) ?_
   | refine r_move (by simp (disch:=first|decide|(simp only[zF,zG];decide)) only [zA,zB,zC,zD,zE,zF,zG,zH,zI,zJ,zK,HV.cells]; try exact rfl) ?_
   | refine r_fa (by simp (disch:=first|decide|(simp only[zF,zG];decide)) only [zA,zB,zC,zD,zE,zF,zG,zH,zI,zJ,zK,HV.cells]; try exact rfl) ?_
   | refine r_ld1 (by simp (disch:=first|decide|(simp only[zF,zG];decide)) only [zA,zB,zC,zD,zE,zF,zG,zH,zI,zJ,zK,HV.cells]; try exact rfl) (by first|assumption|(simp (disch:=omega) only [get_same,get_other]; first|done|exact rfl)) (by first|assumption|rfl|(simp only [zI,zJ,HV.cells]; exact rfl)) ?_
   | refine r_ldn (by simp (disch:=first|decide|(simp only[zF,zG];decide)) only [zA,zB,zC,zD,zE,zF,zG,zH,zI,zJ,zK,HV.cells]; try exact rfl) (by first|assumption|(simp (disch:=omega) only [get_same,get_other]; first|done|exact rfl)) (by first|assumption|rfl|(simp only [zI,zJ,HV.cells]; exact rfl)) ?_
   | refine r_box (by simp (disch:=first|decide|(simp only[zF,zG];decide)) only [zA,zB,zC,zD,zE,zF,zG,zH,zI,zJ,zK,HV.cells]; try exact rfl) ?_
   | refine r_pt (by simp (disch:=first|decide|(simp only[zF,zG];decide)) only [zA,zB,zC,zD,zE,zF,zG,zH,zI,zJ,zK,HV.cells]; first|done|exact rfl) (by simp (disch:=first|decide|(simp only[zF,zG];decide)) only [zA,zB,zC,zD,zE,zF,zG,zH,zI,zJ,zK,HV.cells]; try exact rfl) ?_
   | refine r_pf (by simp (disch:=first|decide|(simp only[zF,zG];decide)) only [zA,zB,zC,zD,zE,zF,zG,zH,zI,zJ,zK,HV.cells]; first|done|exact rfl) (by simp (disch:=first|decide|(simp only[zF,zG];decide)) only [zA,zB,zC,zD,zE,zF,zG,zH,zI,zJ,zK,HV.cells]; try exact rfl) ?_
   | refine r_calld (by simp (disch:=first|decide|(simp only[zF,zG];decide)) only [zA,zB,zC,zD,zE,zF,zG,zH,zI,zJ,zK,HV.cells]; try exact rfl) (by simp (disch:=first|decide|(simp only[zF,zG];decide)) only [List.map_cons,List.map_nil,List.nil_append,List.cons_append,List.append_nil,zA,zB,zC,zD,zE,zF,zG,zH,zI,zJ,zK,HV.cells]; try exact rfl) c_In (fun n' hn' hc => ?_) (fun n' hn' hc => ?_) <;> (try (exfalso; omega))
   | refine r_calld (by simp (disch:=first|decide|(simp only[zF,zG];decide)) only [zA,zB,zC,zD,zE,zF,zG,zH,zI,zJ,zK,HV.cells]; try exact rfl) (by simp (disch:=first|decide|(simp only[zF,zG];decide)) only [List.map_cons,List.map_nil,List.nil_append,List.cons_append,List.append_nil,zA,zB,zC,zD,zE,zF,zG,zH,zI,zJ,zK,HV.cells]; try exact rfl) c_Span (fun n' hn' hc => ?_) (fun n' hn' hc => ?_) <;> (try (exfalso; omega))
   | fail
  case refine_1.refine_1.refine_1 =>
    have m1 := mulr (c := c) (b := a) (by omega) (by omega)
    have m2 := mulr (c := c) (b := b) (by omega) (by omega)
    repeat' first
     | refine r_nil ?_
     | refine th_n ?_
     | refine w_ret ?_
     | refine r_take (by simp (disch:=first|decide|(simp only[zF,zG];decide)) only [zA,zB,zC,zD,zE,zF,zG,zH,zI,zJ,zK,HV.cells]; first|done|exact rfl) ?_
     | refine r_move (by simp (disch:=first|decide|(simp only[zF,zG];decide)) only [zA,zB,zC,zD,zE,zF,zG,zH,zI,zJ,zK,HV.cells]; try exact rfl) ?_
     | refine r_fa (by simp (disch:=first|decide|(simp only[zF,zG];decide)) only [zA,zB,zC,zD,zE,zF,zG,zH,zI,zJ,zK,HV.cells]; try exact rfl) ?_
     | refine r_ld1 (by simp (disch:=first|decide|(simp only[zF,zG];decide)) only [zA,zB,zC,zD,zE,zF,zG,zH,zI,zJ,zK,HV.cells]; try exact rfl) (by first|assumption|(simp (disch:=omega) only [get_same,get_other]; first|done|exact rfl)) (by first|assumption|rfl|(simp only [zI,zJ,HV.cells]; exact rfl)) ?_
     | refine r_mul (by simp (disch:=first|decide|(simp only[zF,zG];decide)) only [zA,zB,zC,zD,zE,zF,zG,zH,zI,zJ,zK,HV.cells]; try exact rfl) (by simp (disch:=first|decide|(simp only[zF,zG];decide)) only [zA,zB,zC,zD,zE,zF,zG,zH,zI,zJ,zK,HV.cells]; try exact rfl) (by omega) (by omega) ?_
     | refine r_pt (by simp (disch:=first|decide|(simp only[zF,zG];decide)) only [zA,zB,zC,zD,zE,zF,zG,zH,zI,zJ,zK,HV.cells]; first|done|exact rfl) (by simp (disch:=first|decide|(simp only[zF,zG];decide)) only [zA,zB,zC,zD,zE,zF,zG,zH,zI,zJ,zK,HV.cells]; try exact rfl) ?_
     | refine r_calld (by simp (disch:=first|decide|(simp only[zF,zG];decide)) only [zA,zB,zC,zD,zE,zF,zG,zH,zI,zJ,zK,HV.cells]; try exact rfl) (by simp (disch:=first|decide|(simp only[zF,zG];decide)) only [List.map_cons,List.map_nil,List.nil_append,List.cons_append,List.append_nil,zA,zB,zC,zD,zE,zF,zG,zH,zI,zJ,zK,HV.cells]; try exact rfl) c_In (fun n' hn' hc => ?_) (fun n' hn' hc => ?_) <;> (try (exfalso; omega))
     | fail
    all_goals (refine fin_r (by simp only [zL,zM]) (by simp (disch:=first|decide|(simp only[zF,zG];decide)) only [zA,zB,zC,zD,zE,zF,zG,zH,zI,zJ,zK,HV.cells]; try exact rfl) (sc_flat rfl (by dsimp only; omega) ?_); first|rfl|(rw [decide_eq_true (by unfold TubeOk at *; (try dsimp only at *); omega)])|(rw [decide_eq_false (by unfold TubeOk at *; (try dsimp only at *); omega)]))
  case refine_1.refine_1.refine_2 =>
    have m1 := mulr (c := c) (b := a) (by omega) (by omega)
    (refine fin_r (by simp only [zL,zM]) (by simp (disch:=first|decide|(simp only[zF,zG];decide)) only [zA,zB,zC,zD,zE,zF,zG,zH,zI,zJ,zK,HV.cells]; try exact rfl) (sc_flat rfl (by dsimp only; omega) ?_); first|rfl|(rw [decide_eq_true (by unfold TubeOk at *; (try dsimp only at *); omega)])|(rw [decide_eq_false (by unfold TubeOk at *; (try dsimp only at *); omega)]))
  all_goals (refine fin_r (by simp only [zL,zM]) (by simp (disch:=first|decide|(simp only[zF,zG];decide)) only [zA,zB,zC,zD,zE,zF,zG,zH,zI,zJ,zK,HV.cells]; try exact rfl) (sc_flat rfl (by dsimp only; omega) ?_); first|rfl|(rw [decide_eq_true (by unfold TubeOk at *; (try dsimp only at *); omega)])|(rw [decide_eq_false (by unfold TubeOk at *; (try dsimp only at *); omega)]))
/- 21 -/
theorem c_Tube {fl : Nat} {h : Tr HBlk} {nx : Nat} (hd : D h nx) {c t a b : Int} : C LW fl 21 [.agg [i64 c, i64 t, i64 a, i64 b]] ⟨h, nx⟩ (Sc (· = .agg [i64 c, i64 t, i64 a, i64 b]) ⟨h, nx⟩) := by
  have fi : fillH [i64 0, i64 0, i64 0, i64 0] [(0, 1, i64 c), (1, 1, i64 t), (2, 2, .agg [i64 a, i64 b])] = some [i64 c, i64 t, i64 a, i64 b] := rfl
  have ow : overwrite [i64 0, i64 0, i64 0, i64 0] 0 (HV.agg [i64 c, i64 t, i64 a, i64 b]).cells = some [i64 c, i64 t, i64 a, i64 b] := rfl
  refine c_in lw21 rfl rfl rfl ?_
  dsimp only [L21]
  repeat' first
   | refine r_nil ?_
   | refine th_n ?_
   | refine w_seq ?_
   | refine w_reg ?_
   | refine w_ret ?_
   | refine r_fa (by simp (disch:=first|decide|(simp only[zF,zG,fi];decide)) only [zA,zB,zC,zD,zE,zF,zG,zH,zI,zJ,zK,HV.cells,fi]; try exact rfl) ?_
   | refine r_ld1 (by simp (disch:=first|decide|(simp only[zF,zG,fi];decide)) only [zA,zB,zC,zD,zE,zF,zG,zH,zI,zJ,zK,HV.cells,fi]; try exact rfl) (by first|assumption|(simp (disch:=omega) only [get_same,get_other,fi]; first|done|exact rfl)) (by first|assumption|rfl|(simp only [zI,zJ,HV.cells,fi]; exact rfl)) ?_
   | refine r_ldn (by simp (disch:=first|decide|(simp only[zF,zG,fi];decide)) only [zA,zB,zC,zD,zE,zF,zG,zH,zI,zJ,zK,HV.cells,fi]; try exact rfl) (by first|assumption|(simp (disch:=omega) only [get_same,get_other,fi]; first|done|exact rfl)) (by first|assumption|rfl|(simp only [zI,zJ,HV.cells,fi]; exact rfl)) ?_
   | refine r_box (by simp (disch:=first|decide|(simp only[zF,zG,fi];decide)) only [zA,zB,zC,zD,zE,zF,zG,zH,zI,zJ,zK,HV.cells,fi]; try exact rfl) ?_
   | refine r_alloc ?_
   | refine r_st (cs' := _) (by simp (disch:=first|decide|(simp only[zF,zG,fi];decide)) only [zA,zB,zC,zD,zE,zF,zG,zH,zI,zJ,zK,HV.cells,fi]; try exact rfl) (by simp (disch:=first|decide|(simp only[zF,zG,fi];decide)) only [zA,zB,zC,zD,zE,zF,zG,zH,zI,zJ,zK,HV.cells,fi]; try exact rfl) (by first|assumption|(simp (disch:=omega) only [get_same,get_other,fi]; first|done|exact rfl)) (by exact True.intro) (by rfl) (by rfl) (by first|assumption|rfl|(simp only [zI,zJ,HV.cells,fi]; exact rfl)) (by omega) ?_
   | refine r_build (by simp (disch:=first|decide|(simp only[zF,zG,fi];decide)) only [evParts,List.map_cons,List.map_nil,List.nil_append,List.cons_append,List.append_nil,zA,zB,zC,zD,zE,zF,zG,zH,zI,zJ,zK,HV.cells,fi]; try exact rfl) ?_
   | refine r_calls (by simp (disch:=first|decide|(simp only[zF,zG,fi];decide)) only [zA,zB,zC,zD,zE,zF,zG,zH,zI,zJ,zK,HV.cells,fi]; try exact rfl) (by simp (disch:=first|decide|(simp only[zF,zG,fi];decide)) only [List.map_cons,List.map_nil,List.nil_append,List.cons_append,List.append_nil,zA,zB,zC,zD,zE,zF,zG,zH,zI,zJ,zK,HV.cells,fi]; try exact rfl) c_to (fun n' hn' => ?_)
   | refine w_draw (by omega) (by repeat' first|assumption|refine D.upd ?_ (by omega)|exact D.mono (by assumption) (by omega)) ?_
   | refine d_rest rfl ?_
   | refine d_one rfl ?_
   | refine d_next (by omega) ?_
   | fail
  exact fin_m (by simp only [zL,zM]) (res_c (by simp (disch:=first|decide|(simp only[zF,zG];decide)) only [zA,zB,zC,zD,zE,zF,zG,zH,zI,zJ,zK,HV.cells]; try exact rfl) (by first|assumption|(simp (disch:=omega) only [get_same,get_other]; first|done|exact rfl)) rfl res_nil) (sc_flat rfl (by dsimp only; omega) rfl)
/-- A row of readings as cells. -/
structure Rd where
  f : Int
  g : Int
  lo : Int
  hi : Int
  deriving DecidableEq
def Rd.enc (r : Rd) : List HV := [i64 r.f, i64 r.g, i64 r.lo, i64 r.hi]
def RdOk2 (c : Int) (r : Rd) : Prop := 0 ≤ r.f ∧ r.f < c ∧ r.f ≤ r.g ∧ r.g ≤ c ∧ 0 ≤ r.lo ∧ r.lo ≤ r.hi ∧ r.hi ≤ 2000
instance (c : Int) (r : Rd) : Decidable (RdOk2 c r) := by unfold RdOk2; infer_instance
/- 86 -/
theorem c_allows {fl : Nat} {h : Tr HBlk} {nx : Nat} {c t a b : Int} {r : Rd} : C LW fl 86 [.agg [i64 c, i64 t, i64 a, i64 b], .agg r.enc] ⟨h, nx⟩ (Sc (· = .bool (decide (RdOk2 c r))) ⟨h, nx⟩) := by
  obtain ⟨f, g, lo, hi⟩ := r
  show C LW fl 86 [.agg [i64 c, i64 t, i64 a, i64 b], .agg [i64 f, i64 g, i64 lo, i64 hi]] ⟨h, nx⟩ _
  refine c_in lw86 rfl rfl rfl ?_
  dsimp only [L86]
  repeat' first
   | refine r_nil ?_
   | refine th_n ?_
   | refine w_seq ?_
   | refine w_reg ?_
   | refine w_ret ?_
   | refine r_take (by simp (disch:=first|decide|(simp only[zF,zG];decide)) only [zA,zB,zC,zD,zE,zF,zG,zH,zI,zJ,zK,HV.cells]; first|done|exact rfl) ?_
   | refine r_drop (by simp (disch:=first|decide|(simp only[zF,zG,Bool.not_true,Bool.not_false];decide)) only [zA,zB,zC,zD,zE,zF,zG,zH,zI,zJ,zK,HV.cells,Bool.not_true,Bool.not_false]; first|done|exact rfl) ?_
   | refine r_move (by simp (disch:=first|decide|(simp only[zF,zG];decide)) only [zA,zB,zC,zD,zE,zF,zG,zH,zI,zJ,zK,HV.cells]; try exact rfl) ?_
   | refine r_fa (by simp (disch:=first|decide|(simp only[zF,zG];decide)) only [zA,zB,zC,zD,zE,zF,zG,zH,zI,zJ,zK,HV.cells]; try exact rfl) ?_
   | refine r_ld1 (by simp (disch:=first|decide|(simp only[zF,zG];decide)) only [zA,zB,zC,zD,zE,zF,zG,zH,zI,zJ,zK,HV.cells]; try exact rfl) (by first|assumption|(simp (disch:=omega) only [get_same,get_other]; first|done|exact rfl)) (by first|assumption|rfl|(simp only [zI,zJ,HV.cells]; exact rfl)) ?_
   | refine r_ldn (by simp (disch:=first|decide|(simp only[zF,zG];decide)) only [zA,zB,zC,zD,zE,zF,zG,zH,zI,zJ,zK,HV.cells]; try exact rfl) (by first|assumption|(simp (disch:=omega) only [get_same,get_other]; first|done|exact rfl)) (by first|assumption|rfl|(simp only [zI,zJ,HV.cells]; exact rfl)) ?_
   | refine r_box (by simp (disch:=first|decide|(simp only[zF,zG];decide)) only [zA,zB,zC,zD,zE,zF,zG,zH,zI,zJ,zK,HV.cells]; try exact rfl) ?_
   | refine r_lss (by simp (disch:=first|decide|(simp only[zF,zG];decide)) only [zA,zB,zC,zD,zE,zF,zG,zH,zI,zJ,zK,HV.cells]; try exact rfl) (by simp (disch:=first|decide|(simp only[zF,zG];decide)) only [zA,zB,zC,zD,zE,zF,zG,zH,zI,zJ,zK,HV.cells]; try exact rfl) (fun hc => ?_) (fun hc => ?_) <;> (try (exfalso; omega))
   | refine r_leq (by simp (disch:=first|decide|(simp only[zF,zG];decide)) only [zA,zB,zC,zD,zE,zF,zG,zH,zI,zJ,zK,HV.cells]; try exact rfl) (by simp (disch:=first|decide|(simp only[zF,zG];decide)) only [zA,zB,zC,zD,zE,zF,zG,zH,zI,zJ,zK,HV.cells]; try exact rfl) (fun hc => ?_) (fun hc => ?_) <;> (try (exfalso; omega))
   | refine r_pt (by simp (disch:=first|decide|(simp only[zF,zG];decide)) only [zA,zB,zC,zD,zE,zF,zG,zH,zI,zJ,zK,HV.cells]; first|done|exact rfl) (by simp (disch:=first|decide|(simp only[zF,zG];decide)) only [zA,zB,zC,zD,zE,zF,zG,zH,zI,zJ,zK,HV.cells]; try exact rfl) ?_
   | refine r_pf (by simp (disch:=first|decide|(simp only[zF,zG];decide)) only [zA,zB,zC,zD,zE,zF,zG,zH,zI,zJ,zK,HV.cells]; first|done|exact rfl) (by simp (disch:=first|decide|(simp only[zF,zG];decide)) only [zA,zB,zC,zD,zE,zF,zG,zH,zI,zJ,zK,HV.cells]; try exact rfl) ?_
   | refine r_calld (by simp (disch:=first|decide|(simp only[zF,zG];decide)) only [zA,zB,zC,zD,zE,zF,zG,zH,zI,zJ,zK,HV.cells]; try exact rfl) (by simp (disch:=first|decide|(simp only[zF,zG];decide)) only [List.map_cons,List.map_nil,List.nil_append,List.cons_append,List.append_nil,zA,zB,zC,zD,zE,zF,zG,zH,zI,zJ,zK,HV.cells]; try exact rfl) c_liesIn (fun n' hn' hc => ?_) (fun n' hn' hc => ?_) <;> (try (exfalso; omega))
   | fail
  all_goals (refine fin_r (by simp only [zL,zM]) (by simp (disch:=first|decide|(simp only[zF,zG];decide)) only [zA,zB,zC,zD,zE,zF,zG,zH,zI,zJ,zK,HV.cells]; try exact rfl) (sc_flat rfl (by dsimp only; omega) ?_); first|rfl|(rw [decide_eq_true (by unfold RdOk2 at *; (try dsimp only at *); omega)])|(rw [decide_eq_false (by unfold RdOk2 at *; (try dsimp only at *); omega)]))
/-! all elements of a row hold -/
/- 68 -/
theorem loop68 {fl : Nat} {h0 : Tr HBlk} {n0 : Nat} {Q : HExit → HAct → HS → Prop} {p : Option (Nat × Nat)} {l : List Rd} {cp : Nat} {k : Nat} {first captured : List HV} {P : Rd → Prop} [DecidablePred P] (hlen : l.length < 1000000000) (hfl : fl ≤ n0)
    (hf : ∀ r ∈ l, ∀ fl h n, Ext h0 n0 h n → C LW fl k (first ++ [.agg r.enc] ++ captured) ⟨h, n⟩ (Sc (· = .bool (decide (P r))) ⟨h, n⟩)) :
    ∀ (m i : Nat) (a : HAct) (h : Tr HBlk) (nx : Nat), m + i = l.length → Ext h0 n0 h nx → Row Rd.enc 4 h nx p l → a.nt = 18 → a.defers = [] → a.tmp 1 = .func k first captured → a.tmp 7 = .slice p l.length cp → a.tmp 8 = i64 l.length → a.tmp 9 = i64 i →
      (∀ a' h' n', Ext h0 n0 h' n' → a'.nt = 18 → a'.defers = [] → (∀ r ∈ l.drop i, P r) → Q .normal a' ⟨h', n'⟩) →
      (∀ a' h' n', Ext h0 n0 h' n' → a'.nt = 18 → a'.defers = [] → a'.tmp 4 = .bool false → ¬ (∀ r ∈ l.drop i, P r) → Q .ret a' ⟨h', n'⟩) → W LW fl none (.loop L68w0) (inBlockH 0 Q) a ⟨h, nx⟩
  | 0, i, a, h, nx, hm, he, hrow, hnt, hds, h1, h7, h8, h9, hq, hr => by
    have hle := he.le
    refine w_it (show L68w0 = _ by unfold L68w0; exact rfl) ?_
    repeat' first
     | refine r_nil ?_
     | refine th_n ?_
     | refine th_e ?_
     | refine ib_e ?_
     | refine w_exit ?_
     | refine w_seq ?_
     | refine w_reg ?_
     | refine w_f (by simp (disch:=first|decide|(simp only[zF,zG,hnt, h1, h7, h8, h9];decide)) only [zA,zB,zC,zD,zE,zF,zG,zH,zI,zJ,zK,HV.cells,hnt, h1, h7, h8, h9]; first|done|exact rfl) ?_
     | refine r_lss (by simp (disch:=first|decide|(simp only[zF,zG,hnt, h1, h7, h8, h9];decide)) only [zA,zB,zC,zD,zE,zF,zG,zH,zI,zJ,zK,HV.cells,hnt, h1, h7, h8, h9]; try exact rfl) (by simp (disch:=first|decide|(simp only[zF,zG,hnt, h1, h7, h8, h9];decide)) only [zA,zB,zC,zD,zE,zF,zG,zH,zI,zJ,zK,HV.cells,hnt, h1, h7, h8, h9]; try exact rfl) (fun hc => ?_) (fun hc => ?_) <;> (try (exfalso; omega))
     | fail
    refine hq _ _ _ he ?_ ?_ (fun r hr => by rw [List.drop_of_length_le (by omega)] at hr; cases hr)
    all_goals first|(simp only [zL,zM,zF,zG,hnt, hds];done)|(simp (disch:=first|decide|(simp only[zF,zG,hnt, hds];decide)) only [zA,zB,zC,zD,zE,zF,zG,zH,zI,zJ,zK,HV.cells,hnt, hds];first|done|exact rfl)|assumption
  | m + 1, i, a, h, nx, hm, he, hrow, hnt, hds, h1, h7, h8, h9, hq, hr => by
    have hi : i < l.length := by omega
    have hrow0 := hrow
    obtain ⟨b, o, cs, kk, rfl, hb, hg, hcs⟩ := hrow (by intro e; rw [e] at hi; simp at hi)
    have hy : l[i]? = some l[i] := by simp [hi]
    have e0 := hcs i _ hy
    have hf' := hf l[i] (List.getElem_mem hi)
    have ow : overwrite [i64 0, i64 0, i64 0, i64 0] 0 (HV.agg l[i].enc).cells = some l[i].enc := rfl
    have tk : takeN 4 (l[i].enc.drop 0) = some l[i].enc := rfl
    have hd := he.d
    have hle := he.le
    have hdrop := List.drop_eq_getElem_cons hi
    refine w_it (show L68w0 = _ by unfold L68w0; exact rfl) ?_
    repeat' first
     | refine r_nil ?_
     | refine th_n ?_
     | refine th_r ?_
     | refine ib_n ?_
     | refine ib_r ?_
     | refine w_seq ?_
     | refine w_reg ?_
     | refine w_ret ?_
     | refine w_skip ?_
     | refine w_block ?_
     | refine w_t (by simp (disch:=first|decide|(simp only[zF,zG,hnt, h1, h7, h8, h9];decide)) only [zA,zB,zC,zD,zE,zF,zG,zH,zI,zJ,zK,HV.cells,hnt, h1, h7, h8, h9]; first|done|exact rfl) ?_
     | refine w_f (by simp (disch:=first|decide|(simp only[zF,zG,hnt, h1, h7, h8, h9];decide)) only [zA,zB,zC,zD,zE,zF,zG,zH,zI,zJ,zK,HV.cells,hnt, h1, h7, h8, h9]; first|done|exact rfl) ?_
     | refine r_move (by simp (disch:=first|decide|(simp only[zF,zG,hnt, h1, h7, h8, h9];decide)) only [zA,zB,zC,zD,zE,zF,zG,zH,zI,zJ,zK,HV.cells,hnt, h1, h7, h8, h9]; try exact rfl) ?_
     | refine r_ldn (by simp (disch:=first|decide|(simp only[zF,zG,hnt, h1, h7, h8, h9];decide)) only [zA,zB,zC,zD,zE,zF,zG,zH,zI,zJ,zK,HV.cells,hnt, h1, h7, h8, h9]; try exact rfl) (by first|assumption|(simp (disch:=omega) only [get_same,get_other,hnt, h1, h7, h8, h9]; first|done|exact rfl)) (by first|assumption|rfl|(simp only [zI,zJ,HV.cells,hnt, h1, h7, h8, h9]; exact rfl)) ?_
     | refine r_alloc ?_
     | refine r_st (cs' := _) (by simp (disch:=first|decide|(simp only[zF,zG,hnt, h1, h7, h8, h9];decide)) only [zA,zB,zC,zD,zE,zF,zG,zH,zI,zJ,zK,HV.cells,hnt, h1, h7, h8, h9]; try exact rfl) (by simp (disch:=first|decide|(simp only[zF,zG,hnt, h1, h7, h8, h9];decide)) only [zA,zB,zC,zD,zE,zF,zG,zH,zI,zJ,zK,HV.cells,hnt, h1, h7, h8, h9]; try exact rfl) (by first|assumption|(simp (disch:=omega) only [get_same,get_other,hnt, h1, h7, h8, h9]; first|done|exact rfl)) (by exact True.intro) (by rfl) (by rfl) (by first|assumption|rfl|(simp only [zI,zJ,HV.cells,hnt, h1, h7, h8, h9]; exact rfl)) (by omega) ?_
     | refine r_add (by simp (disch:=first|decide|(simp only[zF,zG,hnt, h1, h7, h8, h9];decide)) only [zA,zB,zC,zD,zE,zF,zG,zH,zI,zJ,zK,HV.cells,hnt, h1, h7, h8, h9]; try exact rfl) (by simp (disch:=first|decide|(simp only[zF,zG,hnt, h1, h7, h8, h9];decide)) only [zA,zB,zC,zD,zE,zF,zG,zH,zI,zJ,zK,HV.cells,hnt, h1, h7, h8, h9]; try exact rfl) (by omega) (by omega) ?_
     | refine r_lss (by simp (disch:=first|decide|(simp only[zF,zG,hnt, h1, h7, h8, h9];decide)) only [zA,zB,zC,zD,zE,zF,zG,zH,zI,zJ,zK,HV.cells,hnt, h1, h7, h8, h9]; try exact rfl) (by simp (disch:=first|decide|(simp only[zF,zG,hnt, h1, h7, h8, h9];decide)) only [zA,zB,zC,zD,zE,zF,zG,zH,zI,zJ,zK,HV.cells,hnt, h1, h7, h8, h9]; try exact rfl) (fun hc => ?_) (fun hc => ?_) <;> (try (exfalso; omega))
     | refine r_not1 (by simp (disch:=first|decide|(simp only[zF,zG,hnt, h1, h7, h8, h9];decide)) only [zA,zB,zC,zD,zE,zF,zG,zH,zI,zJ,zK,HV.cells,hnt, h1, h7, h8, h9]; try exact rfl) ?_
     | refine r_ixs (by simp (disch:=first|decide|(simp only[zF,zG,hnt, h1, h7, h8, h9];decide)) only [zA,zB,zC,zD,zE,zF,zG,zH,zI,zJ,zK,HV.cells,hnt, h1, h7, h8, h9]; try exact rfl) (by simp (disch:=first|decide|(simp only[zF,zG,hnt, h1, h7, h8, h9];decide)) only [zA,zB,zC,zD,zE,zF,zG,zH,zI,zJ,zK,HV.cells,hnt, h1, h7, h8, h9]; try exact rfl) (by omega) ?_
     | refine r_calld (by simp (disch:=first|decide|(simp only[zF,zG,hnt, h1, h7, h8, h9];decide)) only [zA,zB,zC,zD,zE,zF,zG,zH,zI,zJ,zK,HV.cells,hnt, h1, h7, h8, h9]; try exact rfl) (by simp (disch:=first|decide|(simp only[zF,zG,hnt, h1, h7, h8, h9];decide)) only [List.map_cons,List.map_nil,List.nil_append,List.cons_append,List.append_nil,zA,zB,zC,zD,zE,zF,zG,zH,zI,zJ,zK,HV.cells,hnt, h1, h7, h8, h9]; try exact rfl) (hf' _ _ _ (by repeat' first|assumption|refine Ext.put ?_ (by omega) (by omega)|exact Ext.up (by assumption) (by omega)|exact Ext.nx (by assumption) (by omega))) (fun n' hn' hc => ?_) (fun n' hn' hc => ?_) <;> (try (exfalso; omega))
     | fail
    · refine loop68 (cp := cp) hlen hfl hf m (i + 1) _ _ _ (by omega) (by repeat' first|assumption|refine Ext.put ?_ (by omega) (by omega)|exact Ext.up (by assumption) (by omega)|exact Ext.nx (by assumption) (by omega)) (Row.ext hrow0 (h' := _) (n' := _) (by repeat' first|assumption|refine Ext.put ?_ (by omega) (by omega)|exact Ext.up (by assumption) (by omega)|exact Ext.nx (by assumption) (by omega))) ?_ ?_ ?_ ?_ ?_ ?_ (fun a' h' n2 g1 g2 g3 g4 => hq a' h' n2 g1 g2 g3 ?_) (fun a' h' n2 g1 g2 g3 g4 g5 => hr a' h' n2 g1 g2 g3 g4 ?_)
      all_goals try first|(simp only [zL,zM,zF,zG,hnt, hds, h1, h7, h8, h9];done)|(simp (disch:=first|decide|(simp only[zF,zG,hnt, hds, h1, h7, h8, h9];decide)) only [zA,zB,zC,zD,zE,zF,zG,zH,zI,zJ,zK,HV.cells,hnt, hds, h1, h7, h8, h9];first|done|exact rfl)|assumption
      · rw [hdrop]; intro r hr; rcases List.mem_cons.1 hr with e | e
        · rw [e]; exact hc
        · exact g4 r e
      · rw [hdrop]; exact fun e => g5 fun r hr => e r (List.mem_cons_of_mem _ hr)
    · refine hr _ _ _ (by repeat' first|assumption|refine Ext.put ?_ (by omega) (by omega)|exact Ext.up (by assumption) (by omega)|exact Ext.nx (by assumption) (by omega)) ?_ ?_ ?_ (fun e => hc (e _ (by rw [hdrop]; exact List.mem_cons_self ..)))
      all_goals first|(simp only [zL,zM,zF,zG,hnt, hds];done)|(simp (disch:=first|decide|(simp only[zF,zG,hnt, hds];decide)) only [zA,zB,zC,zD,zE,zF,zG,zH,zI,zJ,zK,HV.cells,hnt, hds];first|done|exact rfl)|assumption
theorem c_all68 {fl : Nat} {h : Tr HBlk} {nx : Nat} (hd : D h nx) {p : Option (Nat × Nat)} {l : List Rd} {n cp : Nat} {k : Nat} {first captured : List HV} {P : Rd → Prop} [DecidablePred P] (hn : n = l.length) (hlen : l.length < 1000000000)
    (hrow : Row Rd.enc 4 h nx p l) (hf : ∀ r ∈ l, ∀ fl h1 n1, Ext h nx h1 n1 → C LW fl k (first ++ [.agg r.enc] ++ captured) ⟨h1, n1⟩ (Sc (· = .bool (decide (P r))) ⟨h1, n1⟩)) :
    C LW fl 68 [.slice p n cp, .func k first captured] ⟨h, nx⟩ (Sc (· = .bool (decide (∀ r ∈ l, P r))) ⟨h, nx⟩) := by
  subst hn
  refine c_in lw68 rfl rfl rfl ?_
  dsimp only [L68]
  repeat' first
   | refine r_nil ?_
   | refine th_n ?_
   | refine w_seq ?_
   | refine w_reg ?_
   | refine w_block ?_
   | refine r_move (by simp (disch:=first|decide|(simp only[zF,zG];decide)) only [zA,zB,zC,zD,zE,zF,zG,zH,zI,zJ,zK,HV.cells]; try exact rfl) ?_
   | refine r_len (by simp (disch:=first|decide|(simp only[zF,zG];decide)) only [zA,zB,zC,zD,zE,zF,zG,zH,zI,zJ,zK,HV.cells]; try exact rfl) ?_
   | fail
  refine loop68 (cp := cp) hlen (Nat.le_refl _) hf l.length 0 _ _ _ (by omega) (Ext.refl hd) hrow ?_ ?_ ?_ ?_ ?_ ?_ (fun a' h' n2 g1 g2 g3 g4 => ?_) (fun a' h' n2 g1 g2 g3 g4 g5 => ?_)
  all_goals try first|(simp only [zL,zM,zF,zG];done)|(simp (disch:=first|decide|(simp only[zF,zG];decide)) only [zA,zB,zC,zD,zE,zF,zG,zH,zI,zJ,zK,HV.cells];first|done|exact rfl)|assumption
  · have hle := g1.le
    repeat' first
     | refine r_nil ?_
     | refine th_n ?_
     | refine w_seq ?_
     | refine w_reg ?_
     | refine w_ret ?_
     | refine r_move (by simp (disch:=first|decide|(simp only[zF,zG,g2];decide)) only [zA,zB,zC,zD,zE,zF,zG,zH,zI,zJ,zK,HV.cells,g2]; try exact rfl) ?_
     | fail
    refine fin_r (by simp only [zL, g3]) (by simp (disch:=first|decide|(simp only[zF,zG,g2];decide)) only [zA,zB,zC,zD,zE,zF,zG,zH,zI,zJ,zK,HV.cells,g2]; try exact rfl) (sc_flat rfl (by dsimp only; omega) ?_)
    rw [decide_eq_true (by simpa using g4)]
  · have hle := g1.le
    repeat' first
     | refine th_r ?_
     | fail
    refine fin_r (by simp only [zL, g3]) (by simp (disch:=first|decide|(simp only[zF,zG,g2, g4];decide)) only [zA,zB,zC,zD,zE,zF,zG,zH,zI,zJ,zK,HV.cells,g2, g4]; try exact rfl) (sc_flat rfl (by dsimp only; omega) ?_)
    rw [decide_eq_false (by simpa using g5)]
end Go.Hx

namespace Go.Hx
set_option linter.unusedSimpArgs false
set_option linter.unusedVariables false
set_option maxRecDepth 20000
set_option maxHeartbeats 4000000
attribute [local irreducible] W R C thenH inBlockH
/-- The error of a tube with readings. -/
def errOf (c t a b : Int) (l : List Rd) : Int := if TubeOk c t a b then (if l.length ≤ 12 then (if ∀ r ∈ l, RdOk2 c r then 0 else 2) else 3) else 1
/- 64 -/
theorem c_check {fl : Nat} {h : Tr HBlk} {nx : Nat} (hd : D h nx) {c t a b : Int} {p : Option (Nat × Nat)} {l : List Rd} {n cp : Nat} (hn : n = l.length) (hlen : l.length < 1000000000) (hrow : Row Rd.enc 4 h nx p l) :
    C LW fl 64 [.agg [i64 c, i64 t, i64 a, i64 b], .slice p n cp] ⟨h, nx⟩ (Sc (· = i64 (errOf c t a b l)) ⟨h, nx⟩) := by
  subst hn
  refine c_in lw64 rfl rfl rfl ?_
  dsimp only [L64]
  by_cases ht : TubeOk c t a b
  · have c1 : ∀ fl h nx, C LW fl 20 [.agg [i64 c, i64 t, i64 a, i64 b]] ⟨h, nx⟩ (Sc (· = i64 0) ⟨h, nx⟩) := fun fl h nx => by have := @c_Check fl h nx c t a b; rwa [if_pos ht] at this
    repeat' first
     | refine r_nil ?_
     | refine th_n ?_
     | refine th_r ?_
     | refine w_seq ?_
     | refine w_reg ?_
     | refine w_ret ?_
     | refine w_skip ?_
     | refine w_t (by simp (disch:=first|decide|(simp only[zF,zG];decide)) only [zA,zB,zC,zD,zE,zF,zG,zH,zI,zJ,zK,HV.cells]; first|done|exact rfl) ?_
     | refine w_f (by simp (disch:=first|decide|(simp only[zF,zG];decide)) only [zA,zB,zC,zD,zE,zF,zG,zH,zI,zJ,zK,HV.cells]; first|done|exact rfl) ?_
     | refine r_move (by simp (disch:=first|decide|(simp only[zF,zG];decide)) only [zA,zB,zC,zD,zE,zF,zG,zH,zI,zJ,zK,HV.cells]; try exact rfl) ?_
     | refine r_ldn (by simp (disch:=first|decide|(simp only[zF,zG];decide)) only [zA,zB,zC,zD,zE,zF,zG,zH,zI,zJ,zK,HV.cells]; try exact rfl) (by first|assumption|(simp (disch:=omega) only [get_same,get_other]; first|done|exact rfl)) (by first|assumption|rfl|(simp only [zI,zJ,HV.cells]; exact rfl)) ?_
     | refine r_box (by simp (disch:=first|decide|(simp only[zF,zG];decide)) only [zA,zB,zC,zD,zE,zF,zG,zH,zI,zJ,zK,HV.cells]; try exact rfl) ?_
     | refine r_gtr (by simp (disch:=first|decide|(simp only[zF,zG];decide)) only [zA,zB,zC,zD,zE,zF,zG,zH,zI,zJ,zK,HV.cells]; try exact rfl) (by simp (disch:=first|decide|(simp only[zF,zG];decide)) only [zA,zB,zC,zD,zE,zF,zG,zH,zI,zJ,zK,HV.cells]; try exact rfl) (fun hc => ?_) (fun hc => ?_) <;> (try (exfalso; omega))
     | refine r_ne (by simp (disch:=first|decide|(simp only[zF,zG];decide)) only [zA,zB,zC,zD,zE,zF,zG,zH,zI,zJ,zK,HV.cells]; try exact rfl) (by simp (disch:=first|decide|(simp only[zF,zG];decide)) only [zA,zB,zC,zD,zE,zF,zG,zH,zI,zJ,zK,HV.cells]; try exact rfl) (fun hc => ?_) (fun hc => ?_) <;> (try (exfalso; omega))
     | refine r_len (by simp (disch:=first|decide|(simp only[zF,zG];decide)) only [zA,zB,zC,zD,zE,zF,zG,zH,zI,zJ,zK,HV.cells]; try exact rfl) ?_
     | refine r_mf (by simp (disch:=first|decide|(simp only[zF,zG];decide)) only [List.map_cons,List.map_nil,List.nil_append,List.cons_append,List.append_nil,zA,zB,zC,zD,zE,zF,zG,zH,zI,zJ,zK,HV.cells]; try exact rfl) (by simp (disch:=first|decide|(simp only[zF,zG];decide)) only [List.map_cons,List.map_nil,List.nil_append,List.cons_append,List.append_nil,zA,zB,zC,zD,zE,zF,zG,zH,zI,zJ,zK,HV.cells]; try exact rfl) ?_
     | refine r_calls (by simp (disch:=first|decide|(simp only[zF,zG];decide)) only [zA,zB,zC,zD,zE,zF,zG,zH,zI,zJ,zK,HV.cells]; try exact rfl) (by simp (disch:=first|decide|(simp only[zF,zG];decide)) only [List.map_cons,List.map_nil,List.nil_append,List.cons_append,List.append_nil,zA,zB,zC,zD,zE,zF,zG,zH,zI,zJ,zK,HV.cells]; try exact rfl) (c1 _ _ _) (fun n' hn' => ?_)
     | fail
    · refine fin_r (by simp only [zL,zM]) (by simp (disch:=first|decide|(simp only[zF,zG];decide)) only [zA,zB,zC,zD,zE,zF,zG,zH,zI,zJ,zK,HV.cells]; try exact rfl) (sc_flat rfl (by dsimp only; omega) ?_); unfold errOf; rw [if_pos ht, if_neg (by omega)]
    · refine r_calld (by simp (disch:=first|decide|(simp only[zF,zG];decide)) only [zA,zB,zC,zD,zE,zF,zG,zH,zI,zJ,zK,HV.cells]; try exact rfl) (by simp (disch:=first|decide|(simp only[zF,zG];decide)) only [List.map_cons,List.map_nil,List.nil_append,List.cons_append,List.append_nil,zA,zB,zC,zD,zE,zF,zG,zH,zI,zJ,zK,HV.cells]; try exact rfl) (c_all68 (k := 86) (first := [.agg [i64 c, i64 t, i64 a, i64 b]]) (captured := []) (l := l) (P := RdOk2 c) (by repeat' first|assumption|refine D.upd ?_ (by omega)|exact D.mono (by assumption) (by omega)) rfl hlen (Row.ext hrow (by repeat' first|assumption|refine Ext.put ?_ (by omega) (by omega)|exact Ext.up (by assumption) (by omega)|exact Ext.nx (by assumption) (by omega))) (fun r _ fl h1 n1 _ => c_allows)) (fun n2 hn2 hc2 => ?_) (fun n2 hn2 hc2 => ?_)
      · repeat' first
         | refine r_nil ?_
         | refine th_n ?_
         | refine w_seq ?_
         | refine w_reg ?_
         | refine w_ret ?_
         | refine w_skip ?_
         | refine w_f (by simp (disch:=first|decide|(simp only[zF,zG];decide)) only [zA,zB,zC,zD,zE,zF,zG,zH,zI,zJ,zK,HV.cells]; first|done|exact rfl) ?_
         | refine r_move (by simp (disch:=first|decide|(simp only[zF,zG];decide)) only [zA,zB,zC,zD,zE,zF,zG,zH,zI,zJ,zK,HV.cells]; try exact rfl) ?_
         | refine r_not1 (by simp (disch:=first|decide|(simp only[zF,zG];decide)) only [zA,zB,zC,zD,zE,zF,zG,zH,zI,zJ,zK,HV.cells]; try exact rfl) ?_
         | fail
        refine fin_r (by simp only [zL,zM]) (by simp (disch:=first|decide|(simp only[zF,zG];decide)) only [zA,zB,zC,zD,zE,zF,zG,zH,zI,zJ,zK,HV.cells]; try exact rfl) (sc_flat rfl (by dsimp only; omega) ?_); unfold errOf; rw [if_pos ht, if_pos (by omega), if_pos hc2]
      · repeat' first
         | refine r_nil ?_
         | refine th_n ?_
         | refine th_r ?_
         | refine w_seq ?_
         | refine w_reg ?_
         | refine w_ret ?_
         | refine w_t (by simp (disch:=first|decide|(simp only[zF,zG];decide)) only [zA,zB,zC,zD,zE,zF,zG,zH,zI,zJ,zK,HV.cells]; first|done|exact rfl) ?_
         | refine r_move (by simp (disch:=first|decide|(simp only[zF,zG];decide)) only [zA,zB,zC,zD,zE,zF,zG,zH,zI,zJ,zK,HV.cells]; try exact rfl) ?_
         | refine r_not1 (by simp (disch:=first|decide|(simp only[zF,zG];decide)) only [zA,zB,zC,zD,zE,zF,zG,zH,zI,zJ,zK,HV.cells]; try exact rfl) ?_
         | fail
        refine fin_r (by simp only [zL,zM]) (by simp (disch:=first|decide|(simp only[zF,zG];decide)) only [zA,zB,zC,zD,zE,zF,zG,zH,zI,zJ,zK,HV.cells]; try exact rfl) (sc_flat rfl (by dsimp only; omega) ?_); unfold errOf; rw [if_pos ht, if_pos (by omega), if_neg hc2]
  · have c1 : ∀ fl h nx, C LW fl 20 [.agg [i64 c, i64 t, i64 a, i64 b]] ⟨h, nx⟩ (Sc (· = i64 1) ⟨h, nx⟩) := fun fl h nx => by have := @c_Check fl h nx c t a b; rwa [if_neg ht] at this
    repeat' first
     | refine r_nil ?_
     | refine th_n ?_
     | refine th_r ?_
     | refine w_seq ?_
     | refine w_reg ?_
     | refine w_ret ?_
     | refine w_t (by simp (disch:=first|decide|(simp only[zF,zG];decide)) only [zA,zB,zC,zD,zE,zF,zG,zH,zI,zJ,zK,HV.cells]; first|done|exact rfl) ?_
     | refine r_move (by simp (disch:=first|decide|(simp only[zF,zG];decide)) only [zA,zB,zC,zD,zE,zF,zG,zH,zI,zJ,zK,HV.cells]; try exact rfl) ?_
     | refine r_ldn (by simp (disch:=first|decide|(simp only[zF,zG];decide)) only [zA,zB,zC,zD,zE,zF,zG,zH,zI,zJ,zK,HV.cells]; try exact rfl) (by first|assumption|(simp (disch:=omega) only [get_same,get_other]; first|done|exact rfl)) (by first|assumption|rfl|(simp only [zI,zJ,HV.cells]; exact rfl)) ?_
     | refine r_box (by simp (disch:=first|decide|(simp only[zF,zG];decide)) only [zA,zB,zC,zD,zE,zF,zG,zH,zI,zJ,zK,HV.cells]; try exact rfl) ?_
     | refine r_ne (by simp (disch:=first|decide|(simp only[zF,zG];decide)) only [zA,zB,zC,zD,zE,zF,zG,zH,zI,zJ,zK,HV.cells]; try exact rfl) (by simp (disch:=first|decide|(simp only[zF,zG];decide)) only [zA,zB,zC,zD,zE,zF,zG,zH,zI,zJ,zK,HV.cells]; try exact rfl) (fun hc => ?_) (fun hc => ?_) <;> (try (exfalso; omega))
     | refine r_calls (by simp (disch:=first|decide|(simp only[zF,zG];decide)) only [zA,zB,zC,zD,zE,zF,zG,zH,zI,zJ,zK,HV.cells]; try exact rfl) (by simp (disch:=first|decide|(simp only[zF,zG];decide)) only [List.map_cons,List.map_nil,List.nil_append,List.cons_append,List.append_nil,zA,zB,zC,zD,zE,zF,zG,zH,zI,zJ,zK,HV.cells]; try exact rfl) (c1 _ _ _) (fun n' hn' => ?_)
     | fail
    refine fin_r (by simp only [zL,zM]) (by simp (disch:=first|decide|(simp only[zF,zG];decide)) only [zA,zB,zC,zD,zE,zF,zG,zH,zI,zJ,zK,HV.cells]; try exact rfl) (sc_flat rfl (by dsimp only; omega) ?_)
    unfold errOf; rw [if_neg ht]
/-- How high a mark is, by volumes. -/
def hgt (v : List Int) (k : Nat) : Int := (v.take k).foldr (· + ·) 0
theorem hgt_zero (v : List Int) : hgt v 0 = 0 := rfl
theorem hgt_succ : ∀ (v : List Int) (k : Nat) (x : Int), v[k]? = some x → hgt v (k + 1) = hgt v k + x
  | [], k, x, h => by simp at h
  | y :: v, 0, x, h => by simp at h; subst h; unfold hgt; simp
  | y :: v, k + 1, x, h => by
    have := hgt_succ v k x (by simpa using h)
    unfold hgt at this ⊢
    simp only [List.take_succ_cons, List.foldr_cons]
    omega
theorem hgt_bd {v : List Int} {B : Int} (hB : 0 ≤ B) (hv : ∀ x ∈ v, -B ≤ x ∧ x ≤ B) : ∀ (k : Nat), k ≤ v.length → -(B * k) ≤ hgt v k ∧ hgt v k ≤ B * k
  | 0, _ => by simp [hgt_zero]
  | k + 1, hk => by
    have h1 := hgt_bd hB hv k (by omega)
    have hx : v[k]? = some v[k] := by simp
    rw [hgt_succ v k _ hx]
    have h2 := hv v[k] (List.getElem_mem _)
    have e : B * ((k + 1 : Nat) : Int) = B * k + B := by rw [Int.natCast_add, Int.mul_add]; simp
    rw [e]; omega
attribute [irreducible] hgt
/- 38 -/
theorem loop38 {fl : Nat} {h : Tr HBlk} {nx : Nat} {Q : HExit → HAct → HS → Prop} {p : Option (Nat × Nat)} {v : List Int} {cp kk : Nat} (hk : kk ≤ v.length) (hlen : v.length < 1000000) (hrow : Row ienc 1 h nx p v) (hv : ∀ x ∈ v, -1000000 ≤ x ∧ x ≤ 1000000) :
    ∀ (m i : Nat) (a : HAct), m + i = kk → a.nt = 19 → a.defers = [] → a.tmp 0 = .slice p v.length cp → a.tmp 1 = i64 kk → a.tmp 5 = i64 (hgt v i) → a.tmp 6 = i64 i →
      (∀ a', a'.nt = 19 → a'.defers = [] → a'.tmp 5 = i64 (hgt v kk) → Q .normal a' ⟨h, nx⟩) → W LW fl none (.loop L38w0) (inBlockH 0 Q) a ⟨h, nx⟩
  | 0, i, a, hm, hnt, hds, h0, h1, h5, h6, hq => by
    have e : i = kk := by omega
    subst e
    refine w_it (show L38w0 = _ by unfold L38w0; exact rfl) ?_
    repeat' first
     | refine r_nil ?_
     | refine th_n ?_
     | refine th_e ?_
     | refine ib_e ?_
     | refine w_exit ?_
     | refine w_seq ?_
     | refine w_reg ?_
     | refine w_f (by simp (disch:=first|decide|(simp only[zF,zG,hnt, h0, h1, h5, h6];decide)) only [zA,zB,zC,zD,zE,zF,zG,zH,zI,zJ,zK,HV.cells,hnt, h0, h1, h5, h6]; first|done|exact rfl) ?_
     | refine r_move (by simp (disch:=first|decide|(simp only[zF,zG,hnt, h0, h1, h5, h6];decide)) only [zA,zB,zC,zD,zE,zF,zG,zH,zI,zJ,zK,HV.cells,hnt, h0, h1, h5, h6]; try exact rfl) ?_
     | refine r_lss (by simp (disch:=first|decide|(simp only[zF,zG,hnt, h0, h1, h5, h6];decide)) only [zA,zB,zC,zD,zE,zF,zG,zH,zI,zJ,zK,HV.cells,hnt, h0, h1, h5, h6]; try exact rfl) (by simp (disch:=first|decide|(simp only[zF,zG,hnt, h0, h1, h5, h6];decide)) only [zA,zB,zC,zD,zE,zF,zG,zH,zI,zJ,zK,HV.cells,hnt, h0, h1, h5, h6]; try exact rfl) (fun hc => ?_) (fun hc => ?_) <;> (try (exfalso; omega))
     | fail
    refine hq _ ?_ ?_ ?_
    all_goals first|(simp only [zL,zM,zF,zG,hnt, hds, h5];done)|(simp (disch:=first|decide|(simp only[zF,zG,hnt, hds, h5];decide)) only [zA,zB,zC,zD,zE,zF,zG,zH,zI,zJ,zK,HV.cells,hnt, hds, h5];first|done|exact rfl)|assumption
  | m + 1, i, a, hm, hnt, hds, h0, h1, h5, h6, hq => by
    have hi : i < v.length := by omega
    obtain ⟨b, o, cs, bk, rfl, hb, hg, hcs⟩ := hrow (by intro e; rw [e] at hi; simp at hi)
    have hy : v[i]? = some v[i] := by simp [hi]
    have e0 := take_at (hcs i _ hy) (j := 0) rfl
    have bd := hgt_bd (B := 1000000) (by omega) hv i (by omega)
    have bd2 := hv v[i] (List.getElem_mem hi)
    refine w_it (show L38w0 = _ by unfold L38w0; exact rfl) ?_
    repeat' first
     | refine r_nil ?_
     | refine th_n ?_
     | refine ib_n ?_
     | refine w_seq ?_
     | refine w_reg ?_
     | refine w_skip ?_
     | refine w_block ?_
     | refine w_t (by simp (disch:=first|decide|(simp only[zF,zG,hnt, h0, h1, h5, h6];decide)) only [zA,zB,zC,zD,zE,zF,zG,zH,zI,zJ,zK,HV.cells,hnt, h0, h1, h5, h6]; first|done|exact rfl) ?_
     | refine r_move (by simp (disch:=first|decide|(simp only[zF,zG,hnt, h0, h1, h5, h6];decide)) only [zA,zB,zC,zD,zE,zF,zG,zH,zI,zJ,zK,HV.cells,hnt, h0, h1, h5, h6]; try exact rfl) ?_
     | refine r_ld1 (by simp (disch:=first|decide|(simp only[zF,zG,hnt, h0, h1, h5, h6];decide)) only [zA,zB,zC,zD,zE,zF,zG,zH,zI,zJ,zK,HV.cells,hnt, h0, h1, h5, h6]; try exact rfl) (by first|assumption|(simp (disch:=omega) only [get_same,get_other,hnt, h0, h1, h5, h6]; first|done|exact rfl)) (by first|assumption|rfl|(simp only [zI,zJ,HV.cells,hnt, h0, h1, h5, h6]; exact rfl)) ?_
     | refine r_add (by simp (disch:=first|decide|(simp only[zF,zG,hnt, h0, h1, h5, h6];decide)) only [zA,zB,zC,zD,zE,zF,zG,zH,zI,zJ,zK,HV.cells,hnt, h0, h1, h5, h6]; try exact rfl) (by simp (disch:=first|decide|(simp only[zF,zG,hnt, h0, h1, h5, h6];decide)) only [zA,zB,zC,zD,zE,zF,zG,zH,zI,zJ,zK,HV.cells,hnt, h0, h1, h5, h6]; try exact rfl) (by omega) (by omega) ?_
     | refine r_lss (by simp (disch:=first|decide|(simp only[zF,zG,hnt, h0, h1, h5, h6];decide)) only [zA,zB,zC,zD,zE,zF,zG,zH,zI,zJ,zK,HV.cells,hnt, h0, h1, h5, h6]; try exact rfl) (by simp (disch:=first|decide|(simp only[zF,zG,hnt, h0, h1, h5, h6];decide)) only [zA,zB,zC,zD,zE,zF,zG,zH,zI,zJ,zK,HV.cells,hnt, h0, h1, h5, h6]; try exact rfl) (fun hc => ?_) (fun hc => ?_) <;> (try (exfalso; omega))
     | refine r_ixs (by simp (disch:=first|decide|(simp only[zF,zG,hnt, h0, h1, h5, h6];decide)) only [zA,zB,zC,zD,zE,zF,zG,zH,zI,zJ,zK,HV.cells,hnt, h0, h1, h5, h6]; try exact rfl) (by simp (disch:=first|decide|(simp only[zF,zG,hnt, h0, h1, h5, h6];decide)) only [zA,zB,zC,zD,zE,zF,zG,zH,zI,zJ,zK,HV.cells,hnt, h0, h1, h5, h6]; try exact rfl) (by omega) ?_
     | fail
    have e5 := hgt_succ v i _ hy
    refine loop38 (cp := cp) hk hlen hrow hv m (i + 1) _ (by omega) ?_ ?_ ?_ ?_ (by rw [e5]; first|(simp only [zL,zM,zF,zG,hnt, hds, h0, h1, h5, h6];done)|(simp (disch:=first|decide|(simp only[zF,zG,hnt, hds, h0, h1, h5, h6];decide)) only [zA,zB,zC,zD,zE,zF,zG,zH,zI,zJ,zK,HV.cells,hnt, hds, h0, h1, h5, h6];first|done|exact rfl)|assumption) ?_ hq
    all_goals first|(simp only [zL,zM,zF,zG,hnt, hds, h0, h1, h5, h6];done)|(simp (disch:=first|decide|(simp only[zF,zG,hnt, hds, h0, h1, h5, h6];decide)) only [zA,zB,zC,zD,zE,zF,zG,zH,zI,zJ,zK,HV.cells,hnt, hds, h0, h1, h5, h6];first|done|exact rfl)|assumption
theorem c_Height {fl : Nat} {h : Tr HBlk} {nx : Nat} {p : Option (Nat × Nat)} {v : List Int} {n cp kk : Nat} (hn : n = v.length) (hk : kk ≤ v.length) (hlen : v.length < 1000000) (hrow : Row ienc 1 h nx p v) (hv : ∀ x ∈ v, -1000000 ≤ x ∧ x ≤ 1000000) :
    C LW fl 38 [.slice p n cp, i64 kk] ⟨h, nx⟩ (Sc (· = i64 (hgt v kk)) ⟨h, nx⟩) := by
  subst hn
  refine c_in lw38 rfl rfl rfl ?_
  dsimp only [L38]
  repeat' first
   | refine r_nil ?_
   | refine th_n ?_
   | refine w_seq ?_
   | refine w_reg ?_
   | refine w_block ?_
   | refine r_move (by simp (disch:=first|decide|(simp only[zF,zG];decide)) only [zA,zB,zC,zD,zE,zF,zG,zH,zI,zJ,zK,HV.cells]; try exact rfl) ?_
   | fail
  refine loop38 (cp := cp) hk hlen hrow hv kk 0 _ (by omega) ?_ ?_ ?_ ?_ (by rw [hgt_zero]; first|(simp only [zL,zM,zF,zG];done)|(simp (disch:=first|decide|(simp only[zF,zG];decide)) only [zA,zB,zC,zD,zE,zF,zG,zH,zI,zJ,zK,HV.cells];first|done|exact rfl)|assumption) ?_ (fun a' g1 g2 g3 => ?_)
  all_goals try first|(simp only [zL,zM,zF,zG];done)|(simp (disch:=first|decide|(simp only[zF,zG];decide)) only [zA,zB,zC,zD,zE,zF,zG,zH,zI,zJ,zK,HV.cells];first|done|exact rfl)|assumption
  repeat' first
   | refine r_nil ?_
   | refine th_n ?_
   | refine w_seq ?_
   | refine w_reg ?_
   | refine w_ret ?_
   | refine r_move (by simp (disch:=first|decide|(simp only[zF,zG,g1, g3];decide)) only [zA,zB,zC,zD,zE,zF,zG,zH,zI,zJ,zK,HV.cells,g1, g3]; try exact rfl) ?_
   | fail
  refine fin_r (by simp only [zL, g2]) (by simp (disch:=first|decide|(simp only[zF,zG,g1, g3];decide)) only [zA,zB,zC,zD,zE,zF,zG,zH,zI,zJ,zK,HV.cells,g1, g3]; try exact rfl) (sc_flat rfl (Nat.le_refl _) rfl)
end Go.Hx

namespace Go.Hx
set_option linter.unusedSimpArgs false
set_option linter.unusedVariables false
set_option maxRecDepth 20000
set_option maxHeartbeats 4000000
attribute [local irreducible] W R C thenH inBlockH
/-- Is a reading right, by volumes? -/
def RightV (c : Nat) (r : Rd) (v : List Int) : Prop := max r.lo (hgt v r.g.toNat - hgt v r.f.toNat) ≤ (if r.g < c then min r.hi (hgt v (r.g.toNat + 1) - hgt v r.f.toNat - 1) else r.hi)
instance (c : Nat) (r : Rd) (v : List Int) : Decidable (RightV c r v) := by unfold RightV; infer_instance
/- 71 -/
theorem c_Right {fl : Nat} {h : Tr HBlk} {nx : Nat} (hd : D h nx) {c t a b : Int} {cn : Nat} {r : Rd} {p : Option (Nat × Nat)} {v : List Int} {n cp : Nat} (hn : n = v.length) (hlen : v.length ≤ 15) (hrow : Row ienc 1 h nx p v) (hv : ∀ x ∈ v, -1000000 ≤ x ∧ x ≤ 1000000)
    (hc : c = cn) (hcv : v.length = cn) (hr : RdOk2 c r) : C LW fl 71 [.agg [i64 c, i64 t, i64 a, i64 b], .agg r.enc, .slice p n cp] ⟨h, nx⟩ (Sc (· = .bool (decide (RightV cn r v))) ⟨h, nx⟩) := by
  subst hn
  obtain ⟨f, g, lo, hi⟩ := r
  unfold RdOk2 at hr
  dsimp only at hr
  obtain ⟨f', rfl⟩ : ∃ k : Nat, f = k := ⟨f.toNat, by omega⟩
  obtain ⟨g', rfl⟩ : ∃ k : Nat, g = k := ⟨g.toNat, by omega⟩
  have b1 := hgt_bd (B := 1000000) (by omega) hv f' (by omega)
  have b2 := hgt_bd (B := 1000000) (by omega) hv g' (by omega)
  have cH : ∀ fl h' n' (k : Nat), k ≤ v.length → Ext h nx h' n' → C LW fl 38 [.slice p v.length cp, i64 k] ⟨h', n'⟩ (Sc (· = i64 (hgt v k)) ⟨h', n'⟩) := fun fl h' n' k hk e => c_Height rfl hk (by omega) (hrow.ext e) hv
  have key1 : g' < cn → (RightV cn ⟨f', g', lo, hi⟩ v ↔ max lo (hgt v g' - hgt v f') ≤ min hi (hgt v (g' + 1) - hgt v f' - 1)) := fun hg => by
    unfold RightV; simp only [Int.toNat_natCast]; rw [if_pos (by omega)]
  have key2 : ¬ g' < cn → (RightV cn ⟨f', g', lo, hi⟩ v ↔ max lo (hgt v g' - hgt v f') ≤ hi) := fun hg => by
    unfold RightV; simp only [Int.toNat_natCast]; rw [if_neg (by omega)]
  show C LW fl 71 [.agg [i64 c, i64 t, i64 a, i64 b], .agg [i64 f', i64 g', i64 lo, i64 hi], .slice p v.length cp] ⟨h, nx⟩ _
  refine c_in lw71 rfl rfl rfl ?_
  dsimp only [L71]
  repeat' first
   | refine r_nil ?_
   | refine th_n ?_
   | refine w_seq ?_
   | refine w_reg ?_
   | refine w_ret ?_
   | refine w_skip ?_
   | refine w_t (by simp (disch:=first|decide|(simp only[zF,zG];decide)) only [zA,zB,zC,zD,zE,zF,zG,zH,zI,zJ,zK,HV.cells]; first|done|exact rfl) ?_
   | refine w_f (by simp (disch:=first|decide|(simp only[zF,zG];decide)) only [zA,zB,zC,zD,zE,zF,zG,zH,zI,zJ,zK,HV.cells]; first|done|exact rfl) ?_
   | refine r_move (by simp (disch:=first|decide|(simp only[zF,zG];decide)) only [zA,zB,zC,zD,zE,zF,zG,zH,zI,zJ,zK,HV.cells]; try exact rfl) ?_
   | refine r_fa (by simp (disch:=first|decide|(simp only[zF,zG];decide)) only [zA,zB,zC,zD,zE,zF,zG,zH,zI,zJ,zK,HV.cells]; try exact rfl) ?_
   | refine r_ld1 (by simp (disch:=first|decide|(simp only[zF,zG];decide)) only [zA,zB,zC,zD,zE,zF,zG,zH,zI,zJ,zK,HV.cells]; try exact rfl) (by first|assumption|(simp (disch:=omega) only [get_same,get_other]; first|done|exact rfl)) (by first|assumption|rfl|(simp only [zI,zJ,HV.cells]; exact rfl)) ?_
   | refine r_box (by simp (disch:=first|decide|(simp only[zF,zG];decide)) only [zA,zB,zC,zD,zE,zF,zG,zH,zI,zJ,zK,HV.cells]; try exact rfl) ?_
   | refine r_add (by simp (disch:=first|decide|(simp only[zF,zG];decide)) only [zA,zB,zC,zD,zE,zF,zG,zH,zI,zJ,zK,HV.cells]; try exact rfl) (by simp (disch:=first|decide|(simp only[zF,zG];decide)) only [zA,zB,zC,zD,zE,zF,zG,zH,zI,zJ,zK,HV.cells]; try exact rfl) (by omega) (by omega) ?_
   | refine r_sub (by simp (disch:=first|decide|(simp only[zF,zG];decide)) only [zA,zB,zC,zD,zE,zF,zG,zH,zI,zJ,zK,HV.cells]; try exact rfl) (by simp (disch:=first|decide|(simp only[zF,zG];decide)) only [zA,zB,zC,zD,zE,zF,zG,zH,zI,zJ,zK,HV.cells]; try exact rfl) (by omega) (by omega) ?_
   | refine r_max2 (by simp (disch:=first|decide|(simp only[zF,zG];decide)) only [zA,zB,zC,zD,zE,zF,zG,zH,zI,zJ,zK,HV.cells]; try exact rfl) (by simp (disch:=first|decide|(simp only[zF,zG];decide)) only [zA,zB,zC,zD,zE,zF,zG,zH,zI,zJ,zK,HV.cells]; try exact rfl) ?_
   | refine r_lss (by simp (disch:=first|decide|(simp only[zF,zG];decide)) only [zA,zB,zC,zD,zE,zF,zG,zH,zI,zJ,zK,HV.cells]; try exact rfl) (by simp (disch:=first|decide|(simp only[zF,zG];decide)) only [zA,zB,zC,zD,zE,zF,zG,zH,zI,zJ,zK,HV.cells]; try exact rfl) (fun hc => ?_) (fun hc => ?_) <;> (try (exfalso; omega))
   | refine r_leq (by simp (disch:=first|decide|(simp only[zF,zG];decide)) only [zA,zB,zC,zD,zE,zF,zG,zH,zI,zJ,zK,HV.cells]; try exact rfl) (by simp (disch:=first|decide|(simp only[zF,zG];decide)) only [zA,zB,zC,zD,zE,zF,zG,zH,zI,zJ,zK,HV.cells]; try exact rfl) (fun hc => ?_) (fun hc => ?_) <;> (try (exfalso; omega))
   | refine r_calls (by simp (disch:=first|decide|(simp only[zF,zG];decide)) only [zA,zB,zC,zD,zE,zF,zG,zH,zI,zJ,zK,HV.cells]; try exact rfl) (by simp (disch:=first|decide|(simp only[zF,zG];decide)) only [List.map_cons,List.map_nil,List.nil_append,List.cons_append,List.append_nil,zA,zB,zC,zD,zE,zF,zG,zH,zI,zJ,zK,HV.cells]; try exact rfl) (cH _ _ _ _ (by omega) (by repeat' first|assumption|refine Ext.put ?_ (by omega) (by omega)|exact Ext.up (by assumption) (by omega)|exact Ext.nx (by assumption) (by omega))) (fun n' hn' => ?_)
   | refine w_draw (by omega) (by repeat' first|assumption|refine D.upd ?_ (by omega)|exact D.mono (by assumption) (by omega)) ?_
   | refine d_rest rfl ?_
   | refine d_one rfl ?_
   | refine d_next (by omega) ?_
   | fail
  case refine_1 =>
    have hg1 : g' < cn := by omega
    have b3 := hgt_bd (B := 1000000) (by omega) hv (g' + 1) (by omega)
    have cH1 : ∀ fl h' n', Ext h nx h' n' → C LW fl 38 [.slice p v.length cp, i64 ((g' : Int) + 1)] ⟨h', n'⟩ (Sc (· = i64 (hgt v (g' + 1))) ⟨h', n'⟩) := fun fl h' n' e => cH fl h' n' (g' + 1) (by omega) e
    repeat' first
     | refine r_nil ?_
     | refine th_n ?_
     | refine w_seq ?_
     | refine w_reg ?_
     | refine w_ret ?_
     | refine r_move (by simp (disch:=first|decide|(simp only[zF,zG];decide)) only [zA,zB,zC,zD,zE,zF,zG,zH,zI,zJ,zK,HV.cells]; try exact rfl) ?_
     | refine r_sub (by simp (disch:=first|decide|(simp only[zF,zG];decide)) only [zA,zB,zC,zD,zE,zF,zG,zH,zI,zJ,zK,HV.cells]; try exact rfl) (by simp (disch:=first|decide|(simp only[zF,zG];decide)) only [zA,zB,zC,zD,zE,zF,zG,zH,zI,zJ,zK,HV.cells]; try exact rfl) (by omega) (by omega) ?_
     | refine r_min2 (by simp (disch:=first|decide|(simp only[zF,zG];decide)) only [zA,zB,zC,zD,zE,zF,zG,zH,zI,zJ,zK,HV.cells]; try exact rfl) (by simp (disch:=first|decide|(simp only[zF,zG];decide)) only [zA,zB,zC,zD,zE,zF,zG,zH,zI,zJ,zK,HV.cells]; try exact rfl) ?_
     | refine r_leq (by simp (disch:=first|decide|(simp only[zF,zG];decide)) only [zA,zB,zC,zD,zE,zF,zG,zH,zI,zJ,zK,HV.cells]; try exact rfl) (by simp (disch:=first|decide|(simp only[zF,zG];decide)) only [zA,zB,zC,zD,zE,zF,zG,zH,zI,zJ,zK,HV.cells]; try exact rfl) (fun hc => ?_) (fun hc => ?_) <;> (try (exfalso; omega))
     | refine r_calls (by simp (disch:=first|decide|(simp only[zF,zG];decide)) only [zA,zB,zC,zD,zE,zF,zG,zH,zI,zJ,zK,HV.cells]; try exact rfl) (by simp (disch:=first|decide|(simp only[zF,zG];decide)) only [List.map_cons,List.map_nil,List.nil_append,List.cons_append,List.append_nil,zA,zB,zC,zD,zE,zF,zG,zH,zI,zJ,zK,HV.cells]; try exact rfl) (cH1 _ _ _ (by repeat' first|assumption|refine Ext.put ?_ (by omega) (by omega)|exact Ext.up (by assumption) (by omega)|exact Ext.nx (by assumption) (by omega))) (fun n' hn' => ?_)
     | fail
    · refine fin_r (by simp only [zL,zM]) (by simp (disch:=first|decide|(simp only[zF,zG];decide)) only [zA,zB,zC,zD,zE,zF,zG,zH,zI,zJ,zK,HV.cells]; try exact rfl) (sc_flat rfl (by dsimp only; omega) ?_); rw [decide_eq_true ((key1 hg1).2 (by omega))]
    · refine fin_r (by simp only [zL,zM]) (by simp (disch:=first|decide|(simp only[zF,zG];decide)) only [zA,zB,zC,zD,zE,zF,zG,zH,zI,zJ,zK,HV.cells]; try exact rfl) (sc_flat rfl (by dsimp only; omega) ?_); rw [decide_eq_false (fun e => absurd ((key1 hg1).1 e) (by omega))]
  · refine fin_r (by simp only [zL,zM]) (by simp (disch:=first|decide|(simp only[zF,zG];decide)) only [zA,zB,zC,zD,zE,zF,zG,zH,zI,zJ,zK,HV.cells]; try exact rfl) (sc_flat rfl (by dsimp only; omega) ?_); rw [decide_eq_true ((key2 (by omega)).2 (by omega))]
  · refine fin_r (by simp only [zL,zM]) (by simp (disch:=first|decide|(simp only[zF,zG];decide)) only [zA,zB,zC,zD,zE,zF,zG,zH,zI,zJ,zK,HV.cells]; try exact rfl) (sc_flat rfl (by dsimp only; omega) ?_); rw [decide_eq_false (fun e => absurd ((key2 (by omega)).1 e) (by omega))]
/-- Are volumes a truth of readings? -/
def TruthV (c t a b : Int) (l : List Rd) (v : List Int) : Prop := (v.length : Int) = c ∧ (∀ x ∈ v, a ≤ x ∧ x ≤ b) ∧ (∀ r ∈ l, RightV v.length r v) ∧ hgt v v.length = t
instance (c t a b : Int) (l : List Rd) (v : List Int) : Decidable (TruthV c t a b l v) := by unfold TruthV; infer_instance
/- 27 -/
theorem loop27w1 {fl : Nat} {h : Tr HBlk} {Q : HExit → HAct → HS → Prop} {p pl : Option (Nat × Nat)} {v : List Int} {cp ll lc tb : Nat} {t : Tb} (hlen : v.length < 1000000000) :
    ∀ (m i : Nat) (a : HAct) (nx : Nat), m + i = v.length → fl ≤ nx → D h nx → h.get tb = some (.cells t.cells .exact) → Row ienc 1 h nx p v → a.nt = 53 → a.defers = [] → a.tmp 1 = .slice pl ll lc → a.tmp 2 = .slice p v.length cp → a.tmp 3 = .ptr (some (tb, 0)) → a.tmp 7 = i64 i →
      (∀ a' n', nx ≤ n' → a'.nt = 53 → a'.defers = [] → a'.tmp 1 = .slice pl ll lc → a'.tmp 2 = .slice p v.length cp → a'.tmp 3 = .ptr (some (tb, 0)) → (∀ x ∈ v.drop i, t.a ≤ x ∧ x ≤ t.b) → Q .normal a' ⟨h, n'⟩) →
      (∀ a' n', nx ≤ n' → a'.nt = 53 → a'.defers = [] → a'.tmp 6 = .bool false → ¬ (∀ x ∈ v.drop i, t.a ≤ x ∧ x ≤ t.b) → Q .ret a' ⟨h, n'⟩) → W LW fl none (.loop L27w1) (inBlockH 0 Q) a ⟨h, nx⟩
  | 0, i, a, nx, hm, hfl, hd, htg, hrow, hnt, hds, h1, h2, h3, h7, hq, hr => by
    refine w_it (show L27w1 = _ by unfold L27w1; exact rfl) ?_
    repeat' first
     | refine r_nil ?_
     | refine th_n ?_
     | refine th_e ?_
     | refine ib_e ?_
     | refine w_exit ?_
     | refine w_seq ?_
     | refine w_reg ?_
     | refine w_f (by simp (disch:=first|decide|(simp only[zF,zG,hnt, h1, h2, h3, h7];decide)) only [zA,zB,zC,zD,zE,zF,zG,zH,zI,zJ,zK,HV.cells,hnt, h1, h2, h3, h7]; first|done|exact rfl) ?_
     | refine r_move (by simp (disch:=first|decide|(simp only[zF,zG,hnt, h1, h2, h3, h7];decide)) only [zA,zB,zC,zD,zE,zF,zG,zH,zI,zJ,zK,HV.cells,hnt, h1, h2, h3, h7]; try exact rfl) ?_
     | refine r_lss (by simp (disch:=first|decide|(simp only[zF,zG,hnt, h1, h2, h3, h7];decide)) only [zA,zB,zC,zD,zE,zF,zG,zH,zI,zJ,zK,HV.cells,hnt, h1, h2, h3, h7]; try exact rfl) (by simp (disch:=first|decide|(simp only[zF,zG,hnt, h1, h2, h3, h7];decide)) only [zA,zB,zC,zD,zE,zF,zG,zH,zI,zJ,zK,HV.cells,hnt, h1, h2, h3, h7]; try exact rfl) (fun hc => ?_) (fun hc => ?_) <;> (try (exfalso; omega))
     | refine r_len (by simp (disch:=first|decide|(simp only[zF,zG,hnt, h1, h2, h3, h7];decide)) only [zA,zB,zC,zD,zE,zF,zG,zH,zI,zJ,zK,HV.cells,hnt, h1, h2, h3, h7]; try exact rfl) ?_
     | fail
    refine hq _ _ (Nat.le_refl _) ?_ ?_ ?_ ?_ ?_ (fun r hr => by rw [List.drop_of_length_le (by omega)] at hr; cases hr)
    all_goals first|(simp only [zL,zM,zF,zG,hnt, hds, h1, h2, h3];done)|(simp (disch:=first|decide|(simp only[zF,zG,hnt, hds, h1, h2, h3];decide)) only [zA,zB,zC,zD,zE,zF,zG,zH,zI,zJ,zK,HV.cells,hnt, hds, h1, h2, h3];first|done|exact rfl)|assumption
  | m + 1, i, a, nx, hm, hfl, hd, htg, hrow, hnt, hds, h1, h2, h3, h7, hq, hr => by
    have hi : i < v.length := by omega
    have hrow0 := hrow
    obtain ⟨b, o, cs, kk, rfl, hb, hg, hcs⟩ := hrow (by intro e; rw [e] at hi; simp at hi)
    have hy : v[i]? = some v[i] := by simp [hi]
    have e0 := take_at (hcs i _ hy) (j := 0) rfl
    have ea : t.cells[0 + 2 + 0]? = some (i64 t.a) := rfl
    have eb : t.cells[0 + 2 + 1]? = some (i64 t.b) := rfl
    have hdrop := List.drop_eq_getElem_cons hi
    refine w_it (show L27w1 = _ by unfold L27w1; exact rfl) ?_
    repeat' first
     | refine r_nil ?_
     | refine th_n ?_
     | refine th_r ?_
     | refine ib_n ?_
     | refine ib_r ?_
     | refine w_seq ?_
     | refine w_reg ?_
     | refine w_ret ?_
     | refine w_skip ?_
     | refine w_block ?_
     | refine w_t (by simp (disch:=first|decide|(simp only[zF,zG,hnt, h1, h2, h3, h7];decide)) only [zA,zB,zC,zD,zE,zF,zG,zH,zI,zJ,zK,HV.cells,hnt, h1, h2, h3, h7]; first|done|exact rfl) ?_
     | refine w_f (by simp (disch:=first|decide|(simp only[zF,zG,hnt, h1, h2, h3, h7];decide)) only [zA,zB,zC,zD,zE,zF,zG,zH,zI,zJ,zK,HV.cells,hnt, h1, h2, h3, h7]; first|done|exact rfl) ?_
     | refine r_move (by simp (disch:=first|decide|(simp only[zF,zG,hnt, h1, h2, h3, h7];decide)) only [zA,zB,zC,zD,zE,zF,zG,zH,zI,zJ,zK,HV.cells,hnt, h1, h2, h3, h7]; try exact rfl) ?_
     | refine r_fa (by simp (disch:=first|decide|(simp only[zF,zG,hnt, h1, h2, h3, h7];decide)) only [zA,zB,zC,zD,zE,zF,zG,zH,zI,zJ,zK,HV.cells,hnt, h1, h2, h3, h7]; try exact rfl) ?_
     | refine r_ld1 (by simp (disch:=first|decide|(simp only[zF,zG,hnt, h1, h2, h3, h7];decide)) only [zA,zB,zC,zD,zE,zF,zG,zH,zI,zJ,zK,HV.cells,hnt, h1, h2, h3, h7]; try exact rfl) (by first|assumption|(simp (disch:=omega) only [get_same,get_other,hnt, h1, h2, h3, h7]; first|done|exact rfl)) (by first|assumption|rfl|(simp only [zI,zJ,HV.cells,hnt, h1, h2, h3, h7]; exact rfl)) ?_
     | refine r_add (by simp (disch:=first|decide|(simp only[zF,zG,hnt, h1, h2, h3, h7];decide)) only [zA,zB,zC,zD,zE,zF,zG,zH,zI,zJ,zK,HV.cells,hnt, h1, h2, h3, h7]; try exact rfl) (by simp (disch:=first|decide|(simp only[zF,zG,hnt, h1, h2, h3, h7];decide)) only [zA,zB,zC,zD,zE,zF,zG,zH,zI,zJ,zK,HV.cells,hnt, h1, h2, h3, h7]; try exact rfl) (by omega) (by omega) ?_
     | refine r_lss (by simp (disch:=first|decide|(simp only[zF,zG,hnt, h1, h2, h3, h7];decide)) only [zA,zB,zC,zD,zE,zF,zG,zH,zI,zJ,zK,HV.cells,hnt, h1, h2, h3, h7]; try exact rfl) (by simp (disch:=first|decide|(simp only[zF,zG,hnt, h1, h2, h3, h7];decide)) only [zA,zB,zC,zD,zE,zF,zG,zH,zI,zJ,zK,HV.cells,hnt, h1, h2, h3, h7]; try exact rfl) (fun hc => ?_) (fun hc => ?_) <;> (try (exfalso; omega))
     | refine r_not1 (by simp (disch:=first|decide|(simp only[zF,zG,hnt, h1, h2, h3, h7];decide)) only [zA,zB,zC,zD,zE,zF,zG,zH,zI,zJ,zK,HV.cells,hnt, h1, h2, h3, h7]; try exact rfl) ?_
     | refine r_len (by simp (disch:=first|decide|(simp only[zF,zG,hnt, h1, h2, h3, h7];decide)) only [zA,zB,zC,zD,zE,zF,zG,zH,zI,zJ,zK,HV.cells,hnt, h1, h2, h3, h7]; try exact rfl) ?_
     | refine r_ixs (by simp (disch:=first|decide|(simp only[zF,zG,hnt, h1, h2, h3, h7];decide)) only [zA,zB,zC,zD,zE,zF,zG,zH,zI,zJ,zK,HV.cells,hnt, h1, h2, h3, h7]; try exact rfl) (by simp (disch:=first|decide|(simp only[zF,zG,hnt, h1, h2, h3, h7];decide)) only [zA,zB,zC,zD,zE,zF,zG,zH,zI,zJ,zK,HV.cells,hnt, h1, h2, h3, h7]; try exact rfl) (by omega) ?_
     | refine r_calld (by simp (disch:=first|decide|(simp only[zF,zG,hnt, h1, h2, h3, h7];decide)) only [zA,zB,zC,zD,zE,zF,zG,zH,zI,zJ,zK,HV.cells,hnt, h1, h2, h3, h7]; try exact rfl) (by simp (disch:=first|decide|(simp only[zF,zG,hnt, h1, h2, h3, h7];decide)) only [List.map_cons,List.map_nil,List.nil_append,List.cons_append,List.append_nil,zA,zB,zC,zD,zE,zF,zG,zH,zI,zJ,zK,HV.cells,hnt, h1, h2, h3, h7]; try exact rfl) c_In (fun n' hn' hc => ?_) (fun n' hn' hc => ?_) <;> (try (exfalso; omega))
     | refine w_draw (by omega) (by repeat' first|assumption|refine D.upd ?_ (by omega)|exact D.mono (by assumption) (by omega)) ?_
     | refine d_rest rfl ?_
     | refine d_one rfl ?_
     | refine d_next (by omega) ?_
     | fail
    · refine loop27w1 (cp := cp) (pl := pl) (ll := ll) (lc := lc) hlen m (i + 1) _ _ (by omega) (by omega) (by repeat' first|assumption|refine D.upd ?_ (by omega)|exact D.mono (by assumption) (by omega)) htg (Row.ext hrow0 (by repeat' first|assumption|refine Ext.put ?_ (by omega) (by omega)|exact Ext.up (by assumption) (by omega)|exact Ext.nx (by assumption) (by omega))) ?_ ?_ ?_ ?_ ?_ ?_ (fun a' n2 g0 g1 g2 g3 g4 g5 g6 => hq a' n2 (by omega) g1 g2 g3 g4 g5 ?_) (fun a' n2 g0 g1 g2 g3 g4 => hr a' n2 (by omega) g1 g2 g3 ?_)
      all_goals try first|(simp only [zL,zM,zF,zG,hnt, hds, h1, h2, h3, h7];done)|(simp (disch:=first|decide|(simp only[zF,zG,hnt, hds, h1, h2, h3, h7];decide)) only [zA,zB,zC,zD,zE,zF,zG,zH,zI,zJ,zK,HV.cells,hnt, hds, h1, h2, h3, h7];first|done|exact rfl)|assumption
      · rw [hdrop]; intro r hr; rcases List.mem_cons.1 hr with e | e
        · rw [e]; exact hc
        · exact g6 r e
      · rw [hdrop]; exact fun e => g4 fun r hr => e r (List.mem_cons_of_mem _ hr)
    · refine hr _ _ (by omega) ?_ ?_ ?_ (fun e => hc (e _ (by rw [hdrop]; exact List.mem_cons_self ..)))
      all_goals first|(simp only [zL,zM,zF,zG,hnt, hds];done)|(simp (disch:=first|decide|(simp only[zF,zG,hnt, hds];decide)) only [zA,zB,zC,zD,zE,zF,zG,zH,zI,zJ,zK,HV.cells,hnt, hds];first|done|exact rfl)|assumption
theorem loop27w0 {fl : Nat} {h : Tr HBlk} {Q : HExit → HAct → HS → Prop} {p pl : Option (Nat × Nat)} {v : List Int} {l : List Rd} {cp lc tb : Nat} {t : Tb} (hlen : v.length ≤ 15) (hll : l.length < 1000000000) (htc : t.c = v.length) (hv : ∀ x ∈ v, -1000000 ≤ x ∧ x ≤ 1000000) (hl : ∀ r ∈ l, RdOk2 t.c r) :
    ∀ (m i : Nat) (a : HAct) (nx : Nat), m + i = l.length → fl ≤ nx → D h nx → h.get tb = some (.cells t.cells .exact) → Row ienc 1 h nx p v → Row Rd.enc 4 h nx pl l → a.nt = 53 → a.defers = [] → a.tmp 1 = .slice pl l.length lc → a.tmp 2 = .slice p v.length cp → a.tmp 3 = .ptr (some (tb, 0)) → a.tmp 8 = i64 i →
      (∀ a' n', nx ≤ n' → a'.nt = 53 → a'.defers = [] → a'.tmp 2 = .slice p v.length cp → a'.tmp 3 = .ptr (some (tb, 0)) → (∀ r ∈ l.drop i, RightV v.length r v) → Q .normal a' ⟨h, n'⟩) →
      (∀ a' n', nx ≤ n' → a'.nt = 53 → a'.defers = [] → a'.tmp 6 = .bool false → ¬ (∀ r ∈ l.drop i, RightV v.length r v) → Q .ret a' ⟨h, n'⟩) → W LW fl none (.loop L27w0) (inBlockH 2 Q) a ⟨h, nx⟩
  | 0, i, a, nx, hm, hfl, hd, htg, hrow, hrl, hnt, hds, h1, h2, h3, h8, hq, hr => by
    refine w_it (show L27w0 = _ by unfold L27w0; exact rfl) ?_
    repeat' first
     | refine r_nil ?_
     | refine th_n ?_
     | refine th_e ?_
     | refine ib_e ?_
     | refine w_exit ?_
     | refine w_seq ?_
     | refine w_reg ?_
     | refine w_f (by simp (disch:=first|decide|(simp only[zF,zG,hnt, h1, h2, h3, h8];decide)) only [zA,zB,zC,zD,zE,zF,zG,zH,zI,zJ,zK,HV.cells,hnt, h1, h2, h3, h8]; first|done|exact rfl) ?_
     | refine r_move (by simp (disch:=first|decide|(simp only[zF,zG,hnt, h1, h2, h3, h8];decide)) only [zA,zB,zC,zD,zE,zF,zG,zH,zI,zJ,zK,HV.cells,hnt, h1, h2, h3, h8]; try exact rfl) ?_
     | refine r_lss (by simp (disch:=first|decide|(simp only[zF,zG,hnt, h1, h2, h3, h8];decide)) only [zA,zB,zC,zD,zE,zF,zG,zH,zI,zJ,zK,HV.cells,hnt, h1, h2, h3, h8]; try exact rfl) (by simp (disch:=first|decide|(simp only[zF,zG,hnt, h1, h2, h3, h8];decide)) only [zA,zB,zC,zD,zE,zF,zG,zH,zI,zJ,zK,HV.cells,hnt, h1, h2, h3, h8]; try exact rfl) (fun hc => ?_) (fun hc => ?_) <;> (try (exfalso; omega))
     | refine r_len (by simp (disch:=first|decide|(simp only[zF,zG,hnt, h1, h2, h3, h8];decide)) only [zA,zB,zC,zD,zE,zF,zG,zH,zI,zJ,zK,HV.cells,hnt, h1, h2, h3, h8]; try exact rfl) ?_
     | fail
    refine hq _ _ (Nat.le_refl _) ?_ ?_ ?_ ?_ (fun r hr => by rw [List.drop_of_length_le (by omega)] at hr; cases hr)
    all_goals first|(simp only [zL,zM,zF,zG,hnt, hds, h2, h3];done)|(simp (disch:=first|decide|(simp only[zF,zG,hnt, hds, h2, h3];decide)) only [zA,zB,zC,zD,zE,zF,zG,zH,zI,zJ,zK,HV.cells,hnt, hds, h2, h3];first|done|exact rfl)|assumption
  | m + 1, i, a, nx, hm, hfl, hd, htg, hrow, hrl, hnt, hds, h1, h2, h3, h8, hq, hr => by
    have hi : i < l.length := by omega
    have hrl0 := hrl
    obtain ⟨b, o, cs, kk, rfl, hb, hg, hcs⟩ := hrl (by intro e; rw [e] at hi; simp at hi)
    have hy : l[i]? = some l[i] := by simp [hi]
    have e0 := hcs i _ hy
    have et : takeN 4 (t.cells.drop 0) = some t.cells := rfl
    have hdrop := List.drop_eq_getElem_cons hi
    have hR : ∀ fl n', nx ≤ n' → C LW fl 71 [.agg t.cells, .agg l[i].enc, .slice p v.length cp] ⟨h, n'⟩ (Sc (· = .bool (decide (RightV v.length l[i] v))) ⟨h, n'⟩) := fun fl n' hn' =>
      c_Right (hd.mono hn') rfl hlen (Row.ext hrow (Ext.nx hd hn')) hv htc rfl (hl _ (List.getElem_mem hi))
    refine w_it (show L27w0 = _ by unfold L27w0; exact rfl) ?_
    repeat' first
     | refine r_nil ?_
     | refine th_n ?_
     | refine th_r ?_
     | refine ib_n ?_
     | refine ib_r ?_
     | refine w_seq ?_
     | refine w_reg ?_
     | refine w_ret ?_
     | refine w_skip ?_
     | refine w_block ?_
     | refine w_t (by simp (disch:=first|decide|(simp only[zF,zG,hnt, h1, h2, h3, h8];decide)) only [zA,zB,zC,zD,zE,zF,zG,zH,zI,zJ,zK,HV.cells,hnt, h1, h2, h3, h8]; first|done|exact rfl) ?_
     | refine w_f (by simp (disch:=first|decide|(simp only[zF,zG,hnt, h1, h2, h3, h8];decide)) only [zA,zB,zC,zD,zE,zF,zG,zH,zI,zJ,zK,HV.cells,hnt, h1, h2, h3, h8]; first|done|exact rfl) ?_
     | refine r_move (by simp (disch:=first|decide|(simp only[zF,zG,hnt, h1, h2, h3, h8];decide)) only [zA,zB,zC,zD,zE,zF,zG,zH,zI,zJ,zK,HV.cells,hnt, h1, h2, h3, h8]; try exact rfl) ?_
     | refine r_ldn (by simp (disch:=first|decide|(simp only[zF,zG,hnt, h1, h2, h3, h8];decide)) only [zA,zB,zC,zD,zE,zF,zG,zH,zI,zJ,zK,HV.cells,hnt, h1, h2, h3, h8]; try exact rfl) (by first|assumption|(simp (disch:=omega) only [get_same,get_other,hnt, h1, h2, h3, h8]; first|done|exact rfl)) (by first|assumption|rfl|(simp only [zI,zJ,HV.cells,hnt, h1, h2, h3, h8]; exact rfl)) ?_
     | refine r_add (by simp (disch:=first|decide|(simp only[zF,zG,hnt, h1, h2, h3, h8];decide)) only [zA,zB,zC,zD,zE,zF,zG,zH,zI,zJ,zK,HV.cells,hnt, h1, h2, h3, h8]; try exact rfl) (by simp (disch:=first|decide|(simp only[zF,zG,hnt, h1, h2, h3, h8];decide)) only [zA,zB,zC,zD,zE,zF,zG,zH,zI,zJ,zK,HV.cells,hnt, h1, h2, h3, h8]; try exact rfl) (by omega) (by omega) ?_
     | refine r_lss (by simp (disch:=first|decide|(simp only[zF,zG,hnt, h1, h2, h3, h8];decide)) only [zA,zB,zC,zD,zE,zF,zG,zH,zI,zJ,zK,HV.cells,hnt, h1, h2, h3, h8]; try exact rfl) (by simp (disch:=first|decide|(simp only[zF,zG,hnt, h1, h2, h3, h8];decide)) only [zA,zB,zC,zD,zE,zF,zG,zH,zI,zJ,zK,HV.cells,hnt, h1, h2, h3, h8]; try exact rfl) (fun hc => ?_) (fun hc => ?_) <;> (try (exfalso; omega))
     | refine r_not1 (by simp (disch:=first|decide|(simp only[zF,zG,hnt, h1, h2, h3, h8];decide)) only [zA,zB,zC,zD,zE,zF,zG,zH,zI,zJ,zK,HV.cells,hnt, h1, h2, h3, h8]; try exact rfl) ?_
     | refine r_len (by simp (disch:=first|decide|(simp only[zF,zG,hnt, h1, h2, h3, h8];decide)) only [zA,zB,zC,zD,zE,zF,zG,zH,zI,zJ,zK,HV.cells,hnt, h1, h2, h3, h8]; try exact rfl) ?_
     | refine r_ixs (by simp (disch:=first|decide|(simp only[zF,zG,hnt, h1, h2, h3, h8];decide)) only [zA,zB,zC,zD,zE,zF,zG,zH,zI,zJ,zK,HV.cells,hnt, h1, h2, h3, h8]; try exact rfl) (by simp (disch:=first|decide|(simp only[zF,zG,hnt, h1, h2, h3, h8];decide)) only [zA,zB,zC,zD,zE,zF,zG,zH,zI,zJ,zK,HV.cells,hnt, h1, h2, h3, h8]; try exact rfl) (by omega) ?_
     | refine r_calld (by simp (disch:=first|decide|(simp only[zF,zG,hnt, h1, h2, h3, h8];decide)) only [zA,zB,zC,zD,zE,zF,zG,zH,zI,zJ,zK,HV.cells,hnt, h1, h2, h3, h8]; try exact rfl) (by simp (disch:=first|decide|(simp only[zF,zG,hnt, h1, h2, h3, h8];decide)) only [List.map_cons,List.map_nil,List.nil_append,List.cons_append,List.append_nil,zA,zB,zC,zD,zE,zF,zG,zH,zI,zJ,zK,HV.cells,hnt, h1, h2, h3, h8]; try exact rfl) (hR _ _ (by omega)) (fun n' hn' hc => ?_) (fun n' hn' hc => ?_) <;> (try (exfalso; omega))
     | refine w_draw (by omega) (by repeat' first|assumption|refine D.upd ?_ (by omega)|exact D.mono (by assumption) (by omega)) ?_
     | refine d_rest rfl ?_
     | refine d_one rfl ?_
     | refine d_next (by omega) ?_
     | fail
    · refine loop27w0 (cp := cp) (lc := lc) hlen hll htc hv hl m (i + 1) _ _ (by omega) (by omega) (by repeat' first|assumption|refine D.upd ?_ (by omega)|exact D.mono (by assumption) (by omega)) htg (Row.ext hrow (by repeat' first|assumption|refine Ext.put ?_ (by omega) (by omega)|exact Ext.up (by assumption) (by omega)|exact Ext.nx (by assumption) (by omega))) (Row.ext hrl0 (by repeat' first|assumption|refine Ext.put ?_ (by omega) (by omega)|exact Ext.up (by assumption) (by omega)|exact Ext.nx (by assumption) (by omega))) ?_ ?_ ?_ ?_ ?_ ?_ (fun a' n2 g0 g1 g2 g4 g5 g6 => hq a' n2 (by omega) g1 g2 g4 g5 ?_) (fun a' n2 g0 g1 g2 g3 g4 => hr a' n2 (by omega) g1 g2 g3 ?_)
      all_goals try first|(simp only [zL,zM,zF,zG,hnt, hds, h1, h2, h3, h8];done)|(simp (disch:=first|decide|(simp only[zF,zG,hnt, hds, h1, h2, h3, h8];decide)) only [zA,zB,zC,zD,zE,zF,zG,zH,zI,zJ,zK,HV.cells,hnt, hds, h1, h2, h3, h8];first|done|exact rfl)|assumption
      · rw [hdrop]; intro r hr; rcases List.mem_cons.1 hr with e | e
        · rw [e]; exact hc
        · exact g6 r e
      · rw [hdrop]; exact fun e => g4 fun r hr => e r (List.mem_cons_of_mem _ hr)
    · refine hr _ _ (by omega) ?_ ?_ ?_ (fun e => hc (e _ (by rw [hdrop]; exact List.mem_cons_self ..)))
      all_goals first|(simp only [zL,zM,zF,zG,hnt, hds];done)|(simp (disch:=first|decide|(simp only[zF,zG,hnt, hds];decide)) only [zA,zB,zC,zD,zE,zF,zG,zH,zI,zJ,zK,HV.cells,hnt, hds];first|done|exact rfl)|assumption
theorem c_IsTruth {fl : Nat} {h : Tr HBlk} {nx : Nat} (hd : D h nx) {t : Tb} {l : List Rd} {pl p : Option (Nat × Nat)} {v : List Int} {n m cp lc : Nat} (hn : n = v.length) (hm : m = l.length) (hlen : v.length ≤ 15) (hll : l.length < 1000000000) (hrow : Row ienc 1 h nx p v) (hrl : Row Rd.enc 4 h nx pl l)
    (ht : TubeOk t.c t.t t.a t.b) (hl : ∀ r ∈ l, RdOk2 t.c r) : C LW fl 27 [.agg t.cells, .slice pl m lc, .slice p n cp] ⟨h, nx⟩ (Sc (· = .bool (decide (TruthV t.c t.t t.a t.b l v))) ⟨h, nx⟩) := by
  subst hn
  subst hm
  have ec : t.cells[0 + 0]? = some (i64 t.c) := rfl
  have et : t.cells[0 + 1]? = some (i64 t.t) := rfl
  refine c_in lw27 rfl rfl rfl ?_
  dsimp only [L27]
  repeat' first
   | refine r_nil ?_
   | refine th_n ?_
   | refine th_r ?_
   | refine w_seq ?_
   | refine w_reg ?_
   | refine w_ret ?_
   | refine w_skip ?_
   | refine w_block ?_
   | refine w_t (by simp (disch:=first|decide|(simp only[zF,zG];decide)) only [zA,zB,zC,zD,zE,zF,zG,zH,zI,zJ,zK,HV.cells]; first|done|exact rfl) ?_
   | refine w_f (by simp (disch:=first|decide|(simp only[zF,zG];decide)) only [zA,zB,zC,zD,zE,zF,zG,zH,zI,zJ,zK,HV.cells]; first|done|exact rfl) ?_
   | refine r_move (by simp (disch:=first|decide|(simp only[zF,zG];decide)) only [zA,zB,zC,zD,zE,zF,zG,zH,zI,zJ,zK,HV.cells]; try exact rfl) ?_
   | refine r_fa (by simp (disch:=first|decide|(simp only[zF,zG];decide)) only [zA,zB,zC,zD,zE,zF,zG,zH,zI,zJ,zK,HV.cells]; try exact rfl) ?_
   | refine r_ld1 (by simp (disch:=first|decide|(simp only[zF,zG];decide)) only [zA,zB,zC,zD,zE,zF,zG,zH,zI,zJ,zK,HV.cells]; try exact rfl) (by first|assumption|(simp (disch:=omega) only [get_same,get_other]; first|done|exact rfl)) (by first|assumption|rfl|(simp only [zI,zJ,HV.cells]; exact rfl)) ?_
   | refine r_box (by simp (disch:=first|decide|(simp only[zF,zG];decide)) only [zA,zB,zC,zD,zE,zF,zG,zH,zI,zJ,zK,HV.cells]; try exact rfl) ?_
   | refine r_ne (by simp (disch:=first|decide|(simp only[zF,zG];decide)) only [zA,zB,zC,zD,zE,zF,zG,zH,zI,zJ,zK,HV.cells]; try exact rfl) (by simp (disch:=first|decide|(simp only[zF,zG];decide)) only [zA,zB,zC,zD,zE,zF,zG,zH,zI,zJ,zK,HV.cells]; try exact rfl) (fun hc => ?_) (fun hc => ?_) <;> (try (exfalso; omega))
   | refine r_len (by simp (disch:=first|decide|(simp only[zF,zG];decide)) only [zA,zB,zC,zD,zE,zF,zG,zH,zI,zJ,zK,HV.cells]; try exact rfl) ?_
   | fail
  · refine fin_r (by simp only [zL,zM]) (by simp (disch:=first|decide|(simp only[zF,zG];decide)) only [zA,zB,zC,zD,zE,zF,zG,zH,zI,zJ,zK,HV.cells]; try exact rfl) (sc_flat rfl (by dsimp only; omega) ?_); rw [decide_eq_false (fun e => hc e.1)]
  · refine loop27w1 (cp := cp) (pl := pl) (ll := l.length) (lc := lc) (t := t) (tb := nx) (by omega) v.length 0 _ _ (by omega) (by omega) (by repeat' first|assumption|refine D.upd ?_ (by omega)|exact D.mono (by assumption) (by omega)) (by first|assumption|(simp (disch:=omega) only [get_same,get_other]; first|done|exact rfl)) (Row.ext hrow (by repeat' first|assumption|refine Ext.put ?_ (by omega) (by omega)|exact Ext.up (by assumption) (by omega)|exact Ext.nx (by assumption) (by omega))) ?_ ?_ ?_ ?_ ?_ ?_ (fun a' n2 g0 g1 g2 g3 g4 g5 g6 => ?_) (fun a' n2 g0 g1 g2 g3 g4 => ?_)
    all_goals try first|(simp only [zL,zM,zF,zG];done)|(simp (disch:=first|decide|(simp only[zF,zG];decide)) only [zA,zB,zC,zD,zE,zF,zG,zH,zI,zJ,zK,HV.cells];first|done|exact rfl)|assumption
    · have hv : ∀ x ∈ v, t.a ≤ x ∧ x ≤ t.b := by simpa using g6
      unfold TubeOk at ht
      repeat' first
       | refine r_nil ?_
       | refine th_n ?_
       | refine w_seq ?_
       | refine w_reg ?_
       | refine w_block ?_
       | refine r_move (by simp (disch:=first|decide|(simp only[zF,zG,g1, g3, g4, g5];decide)) only [zA,zB,zC,zD,zE,zF,zG,zH,zI,zJ,zK,HV.cells,g1, g3, g4, g5]; try exact rfl) ?_
       | fail
      refine loop27w0 (cp := cp) (lc := lc) (t := t) (tb := nx) hlen hll (by omega) (fun x hx => by have := hv x hx; omega) hl l.length 0 _ _ (by omega) (by omega) (by repeat' first|assumption|refine D.upd ?_ (by omega)|exact D.mono (by assumption) (by omega)) (by first|assumption|(simp (disch:=omega) only [get_same,get_other]; first|done|exact rfl)) (Row.ext hrow (by repeat' first|assumption|refine Ext.put ?_ (by omega) (by omega)|exact Ext.up (by assumption) (by omega)|exact Ext.nx (by assumption) (by omega))) (Row.ext hrl (by repeat' first|assumption|refine Ext.put ?_ (by omega) (by omega)|exact Ext.up (by assumption) (by omega)|exact Ext.nx (by assumption) (by omega))) ?_ ?_ ?_ ?_ ?_ ?_ (fun a2 n3 e0 e1 e2 e4 e5 e6 => ?_) (fun a2 n3 e0 e1 e2 e3 e4 => ?_)
      all_goals try first|(simp only [zL,zM,zF,zG,g1, g2, g3, g4, g5];done)|(simp (disch:=first|decide|(simp only[zF,zG,g1, g2, g3, g4, g5];decide)) only [zA,zB,zC,zD,zE,zF,zG,zH,zI,zJ,zK,HV.cells,g1, g2, g3, g4, g5];first|done|exact rfl)|assumption
      · have hH : ∀ fl h' n', Ext h nx h' n' → C LW fl 38 [.slice p v.length cp, i64 t.c] ⟨h', n'⟩ (Sc (· = i64 (hgt v v.length)) ⟨h', n'⟩) := fun fl h' n' e => by
          rw [show t.c = (v.length : Int) by omega]
          exact c_Height rfl (Nat.le_refl _) (by omega) (Row.ext hrow e) (fun x hx => by have := hv x hx; omega)
        repeat' first
         | refine r_nil ?_
         | refine th_n ?_
         | refine w_seq ?_
         | refine w_ret ?_
         | refine r_move (by simp (disch:=first|decide|(simp only[zF,zG,e1, e4, e5];decide)) only [zA,zB,zC,zD,zE,zF,zG,zH,zI,zJ,zK,HV.cells,e1, e4, e5]; try exact rfl) ?_
         | refine r_fa (by simp (disch:=first|decide|(simp only[zF,zG,e1, e4, e5];decide)) only [zA,zB,zC,zD,zE,zF,zG,zH,zI,zJ,zK,HV.cells,e1, e4, e5]; try exact rfl) ?_
         | refine r_ld1 (by simp (disch:=first|decide|(simp only[zF,zG,e1, e4, e5];decide)) only [zA,zB,zC,zD,zE,zF,zG,zH,zI,zJ,zK,HV.cells,e1, e4, e5]; try exact rfl) (by first|assumption|(simp (disch:=omega) only [get_same,get_other,e1, e4, e5]; first|done|exact rfl)) (by first|assumption|rfl|(simp only [zI,zJ,HV.cells,e1, e4, e5]; exact rfl)) ?_
         | refine r_eq (by simp (disch:=first|decide|(simp only[zF,zG,e1, e4, e5];decide)) only [zA,zB,zC,zD,zE,zF,zG,zH,zI,zJ,zK,HV.cells,e1, e4, e5]; try exact rfl) (by simp (disch:=first|decide|(simp only[zF,zG,e1, e4, e5];decide)) only [zA,zB,zC,zD,zE,zF,zG,zH,zI,zJ,zK,HV.cells,e1, e4, e5]; try exact rfl) (fun hc => ?_) (fun hc => ?_) <;> (try (exfalso; omega))
         | refine r_calls (by simp (disch:=first|decide|(simp only[zF,zG,e1, e4, e5];decide)) only [zA,zB,zC,zD,zE,zF,zG,zH,zI,zJ,zK,HV.cells,e1, e4, e5]; try exact rfl) (by simp (disch:=first|decide|(simp only[zF,zG,e1, e4, e5];decide)) only [List.map_cons,List.map_nil,List.nil_append,List.cons_append,List.append_nil,zA,zB,zC,zD,zE,zF,zG,zH,zI,zJ,zK,HV.cells,e1, e4, e5]; try exact rfl) (hH _ _ _ (by repeat' first|assumption|refine Ext.put ?_ (by omega) (by omega)|exact Ext.up (by assumption) (by omega)|exact Ext.nx (by assumption) (by omega))) (fun n' hn' => ?_)
         | refine w_draw (by omega) (by repeat' first|assumption|refine D.upd ?_ (by omega)|exact D.mono (by assumption) (by omega)) ?_
         | refine d_rest rfl ?_
         | refine d_one rfl ?_
         | refine d_next (by omega) ?_
         | fail
        · refine fin_r (by simp only [zL, e2]) (by simp (disch:=first|decide|(simp only[zF,zG,e1];decide)) only [zA,zB,zC,zD,zE,zF,zG,zH,zI,zJ,zK,HV.cells,e1]; try exact rfl) (sc_flat rfl (by dsimp only; omega) ?_); rw [decide_eq_true ⟨by omega, hv, by simpa using e6, hc⟩]
        · refine fin_r (by simp only [zL, e2]) (by simp (disch:=first|decide|(simp only[zF,zG,e1];decide)) only [zA,zB,zC,zD,zE,zF,zG,zH,zI,zJ,zK,HV.cells,e1]; try exact rfl) (sc_flat rfl (by dsimp only; omega) ?_); rw [decide_eq_false (fun e => hc e.2.2.2)]
      · repeat' first
         | refine th_r ?_
         | fail
        refine fin_r (by simp only [zL, e2]) (by simp (disch:=first|decide|(simp only[zF,zG,e1, e3];decide)) only [zA,zB,zC,zD,zE,zF,zG,zH,zI,zJ,zK,HV.cells,e1, e3]; try exact rfl) (sc_flat rfl (by dsimp only; omega) ?_)
        rw [decide_eq_false (fun e => e4 (by simpa using e.2.2.1))]
    · repeat' first
       | refine th_r ?_
       | fail
      refine fin_r (by simp only [zL, g2]) (by simp (disch:=first|decide|(simp only[zF,zG,g1, g3];decide)) only [zA,zB,zC,zD,zE,zF,zG,zH,zI,zJ,zK,HV.cells,g1, g3]; try exact rfl) (sc_flat rfl (by dsimp only; omega) ?_)
      rw [decide_eq_false (fun e => g4 (by simpa using e.2.1))]
end Go.Hx

namespace Go.Hx
set_option linter.unusedSimpArgs false
set_option linter.unusedVariables false
set_option maxRecDepth 20000
set_option maxHeartbeats 4000000
attribute [local irreducible] W R C thenH inBlockH
theorem Rd.enc_len (r : Rd) : r.enc.length = 4 := rfl
theorem Rd.enc_flat (r : Rd) : r.enc.all flat1 = true := rfl
theorem Rd.enc_one (r : Rd) : r.enc.all HV.one = true := rfl
/- 23 -/
theorem loop23 {fl : Nat} {h0 : Tr HBlk} {n0 : Nat} {Q : HExit → HAct → HS → Prop} {p : Option (Nat × Nat)} {l : List Rd} {cp : Nat} (hlen : l.length < 1000000) (hfl : fl ≤ n0) (hrow : Row Rd.enc 4 h0 n0 p l) :
    ∀ (m i : Nat) (a : HAct) (h : Tr HBlk) (nx : Nat) (v : HV), m + i = l.length → Ext h0 n0 h nx → Out Rd.enc 4 n0 h nx v (l.take i) → a.nt = 32 → a.defers = [] → a.tmp 0 = .slice p l.length cp → a.tmp 3 = v → a.tmp 4 = i64 i →
      (∀ a' h' n' v', Ext h0 n0 h' n' → a'.nt = 32 → a'.defers = [] → a'.tmp 3 = v' → Out Rd.enc 4 n0 h' n' v' l → Q .normal a' ⟨h', n'⟩) → W LW fl none (.loop L23w0) (inBlockH 0 Q) a ⟨h, nx⟩
  | 0, i, a, h, nx, v, hm, he, ho, hnt, hds, h1, h3, h4, hq => by
    have hle := he.le
    refine w_it (show L23w0 = _ by unfold L23w0; exact rfl) ?_
    repeat' first
     | refine r_nil ?_
     | refine th_n ?_
     | refine th_e ?_
     | refine ib_e ?_
     | refine w_exit ?_
     | refine w_seq ?_
     | refine w_reg ?_
     | refine w_f (by simp (disch:=first|decide|(simp only[zF,zG,hnt, h1, h3, h4];decide)) only [zA,zB,zC,zD,zE,zF,zG,zH,zI,zJ,zK,HV.cells,hnt, h1, h3, h4]; first|done|exact rfl) ?_
     | refine r_move (by simp (disch:=first|decide|(simp only[zF,zG,hnt, h1, h3, h4];decide)) only [zA,zB,zC,zD,zE,zF,zG,zH,zI,zJ,zK,HV.cells,hnt, h1, h3, h4]; try exact rfl) ?_
     | refine r_lss (by simp (disch:=first|decide|(simp only[zF,zG,hnt, h1, h3, h4];decide)) only [zA,zB,zC,zD,zE,zF,zG,zH,zI,zJ,zK,HV.cells,hnt, h1, h3, h4]; try exact rfl) (by simp (disch:=first|decide|(simp only[zF,zG,hnt, h1, h3, h4];decide)) only [zA,zB,zC,zD,zE,zF,zG,zH,zI,zJ,zK,HV.cells,hnt, h1, h3, h4]; try exact rfl) (fun hc => ?_) (fun hc => ?_) <;> (try (exfalso; omega))
     | refine r_len (by simp (disch:=first|decide|(simp only[zF,zG,hnt, h1, h3, h4];decide)) only [zA,zB,zC,zD,zE,zF,zG,zH,zI,zJ,zK,HV.cells,hnt, h1, h3, h4]; try exact rfl) ?_
     | fail
    rw [List.take_of_length_le (by omega)] at ho
    refine hq _ _ _ v he ?_ ?_ ?_ ho
    all_goals first|(simp only [zL,zM,zF,zG,hnt, hds, h3];done)|(simp (disch:=first|decide|(simp only[zF,zG,hnt, hds, h3];decide)) only [zA,zB,zC,zD,zE,zF,zG,zH,zI,zJ,zK,HV.cells,hnt, hds, h3];first|done|exact rfl)|assumption
  | m + 1, i, a, h, nx, v, hm, he, ho, hnt, hds, h1, h3, h4, hq => by
    have hi : i < l.length := by omega
    have hrow0 := hrow.ext he
    obtain ⟨b, o, cs, kk, rfl, hb, hg, hcs⟩ := hrow0 (by intro e; rw [e] at hi; simp at hi)
    have hy : l[i]? = some l[i] := by simp [hi]
    have e0 := hcs i _ hy
    have ef := take_at e0 (j := 0) (v := i64 l[i].f) rfl
    have eg := take_at e0 (j := 1) (v := i64 l[i].g) rfl
    have er : takeN 2 (cs.drop (o + i * 4 + 2)) = some [i64 l[i].lo, i64 l[i].hi] := take_sub e0 (j := 2) (n := 2) (by omega) rfl
    have hd := he.d
    have hle := he.le
    have fi : fillH [i64 0, i64 0, i64 0, i64 0] [(0, 1, i64 l[i].f), (1, 1, i64 l[i].g), (2, 2, .agg [i64 l[i].lo, i64 l[i].hi])] = some l[i].enc := rfl
    have fi2 : fillH (repl 1 [i64 0, i64 0, i64 0, i64 0]) [(0, 4, .agg l[i].enc)] = some l[i].enc := rfl
    refine w_it (show L23w0 = _ by unfold L23w0; exact rfl) ?_
    repeat' first
     | refine r_nil ?_
     | refine th_n ?_
     | refine w_seq ?_
     | refine w_reg ?_
     | refine w_skip ?_
     | refine w_block ?_
     | refine w_t (by simp (disch:=first|decide|(simp only[zF,zG,hnt, h1, h3, h4, fi, fi2];decide)) only [zA,zB,zC,zD,zE,zF,zG,zH,zI,zJ,zK,HV.cells,hnt, h1, h3, h4, fi, fi2]; first|done|exact rfl) ?_
     | refine r_move (by simp (disch:=first|decide|(simp only[zF,zG,hnt, h1, h3, h4, fi, fi2];decide)) only [zA,zB,zC,zD,zE,zF,zG,zH,zI,zJ,zK,HV.cells,hnt, h1, h3, h4, fi, fi2]; try exact rfl) ?_
     | refine r_fa (by simp (disch:=first|decide|(simp only[zF,zG,hnt, h1, h3, h4, fi, fi2];decide)) only [zA,zB,zC,zD,zE,zF,zG,zH,zI,zJ,zK,HV.cells,hnt, h1, h3, h4, fi, fi2]; try exact rfl) ?_
     | refine r_ld1 (by simp (disch:=first|decide|(simp only[zF,zG,hnt, h1, h3, h4, fi, fi2];decide)) only [zA,zB,zC,zD,zE,zF,zG,zH,zI,zJ,zK,HV.cells,hnt, h1, h3, h4, fi, fi2]; try exact rfl) (by first|assumption|(simp (disch:=omega) only [get_same,get_other,hnt, h1, h3, h4, fi, fi2]; first|done|exact rfl)) (by first|assumption|rfl|(simp only [zI,zJ,HV.cells,hnt, h1, h3, h4, fi, fi2]; exact rfl)) ?_
     | refine r_ldn (by simp (disch:=first|decide|(simp only[zF,zG,hnt, h1, h3, h4, fi, fi2];decide)) only [zA,zB,zC,zD,zE,zF,zG,zH,zI,zJ,zK,HV.cells,hnt, h1, h3, h4, fi, fi2]; try exact rfl) (by first|assumption|(simp (disch:=omega) only [get_same,get_other,hnt, h1, h3, h4, fi, fi2]; first|done|exact rfl)) (by first|assumption|rfl|(simp only [zI,zJ,HV.cells,hnt, h1, h3, h4, fi, fi2]; exact rfl)) ?_
     | refine r_lss (by simp (disch:=first|decide|(simp only[zF,zG,hnt, h1, h3, h4, fi, fi2];decide)) only [zA,zB,zC,zD,zE,zF,zG,zH,zI,zJ,zK,HV.cells,hnt, h1, h3, h4, fi, fi2]; try exact rfl) (by simp (disch:=first|decide|(simp only[zF,zG,hnt, h1, h3, h4, fi, fi2];decide)) only [zA,zB,zC,zD,zE,zF,zG,zH,zI,zJ,zK,HV.cells,hnt, h1, h3, h4, fi, fi2]; try exact rfl) (fun hc => ?_) (fun hc => ?_) <;> (try (exfalso; omega))
     | refine r_len (by simp (disch:=first|decide|(simp only[zF,zG,hnt, h1, h3, h4, fi, fi2];decide)) only [zA,zB,zC,zD,zE,zF,zG,zH,zI,zJ,zK,HV.cells,hnt, h1, h3, h4, fi, fi2]; try exact rfl) ?_
     | refine r_ixs (by simp (disch:=first|decide|(simp only[zF,zG,hnt, h1, h3, h4, fi, fi2];decide)) only [zA,zB,zC,zD,zE,zF,zG,zH,zI,zJ,zK,HV.cells,hnt, h1, h3, h4, fi, fi2]; try exact rfl) (by simp (disch:=first|decide|(simp only[zF,zG,hnt, h1, h3, h4, fi, fi2];decide)) only [zA,zB,zC,zD,zE,zF,zG,zH,zI,zJ,zK,HV.cells,hnt, h1, h3, h4, fi, fi2]; try exact rfl) (by omega) ?_
     | refine r_build (by simp (disch:=first|decide|(simp only[zF,zG,hnt, h1, h3, h4, fi, fi2];decide)) only [evParts,List.map_cons,List.map_nil,List.nil_append,List.cons_append,List.append_nil,zA,zB,zC,zD,zE,zF,zG,zH,zI,zJ,zK,HV.cells,hnt, h1, h3, h4, fi, fi2]; try exact rfl) ?_
     | refine r_bs (by simp (disch:=first|decide|(simp only[zF,zG,hnt, h1, h3, h4, fi, fi2];decide)) only [evParts,List.map_cons,List.map_nil,List.nil_append,List.cons_append,List.append_nil,zA,zB,zC,zD,zE,zF,zG,zH,zI,zJ,zK,HV.cells,hnt, h1, h3, h4, fi, fi2]; try exact rfl) ?_
     | refine r_calls (by simp (disch:=first|decide|(simp only[zF,zG,hnt, h1, h3, h4, fi, fi2];decide)) only [zA,zB,zC,zD,zE,zF,zG,zH,zI,zJ,zK,HV.cells,hnt, h1, h3, h4, fi, fi2]; try exact rfl) (by simp (disch:=first|decide|(simp only[zF,zG,hnt, h1, h3, h4, fi, fi2];decide)) only [List.map_cons,List.map_nil,List.nil_append,List.cons_append,List.append_nil,zA,zB,zC,zD,zE,zF,zG,zH,zI,zJ,zK,HV.cells,hnt, h1, h3, h4, fi, fi2]; try exact rfl) c_to (fun n' hn' => ?_)
     | refine w_draw (by omega) (by repeat' first|assumption|refine D.upd ?_ (by omega)|exact D.mono (by assumption) (by omega)) ?_
     | refine d_rest rfl ?_
     | refine d_one rfl ?_
     | refine d_next (by omega) ?_
     | fail
    have hln : (l.take i).length = i := by simp; omega
    obtain ⟨v', h', ha, ho', hs', hd'⟩ := Out.app (x := l[i]) (bytes := 32) (fl := fl) Rd.enc_len (Rd.enc_one _) (by omega) hfl (hd.mono hn') (ho.keep hn' (fun _ _ => rfl)) (by omega) (by omega) (by omega)
    rw [show l.take i ++ [l[i]] = l.take (i + 1) by rw [List.take_add_one, hy]; rfl] at ho'
    refine r_app (by simp (disch:=first|decide|(simp only[zF,zG,hnt, h3];decide)) only [zA,zB,zC,zD,zE,zF,zG,zH,zI,zJ,zK,HV.cells,hnt, h3]; try exact rfl) (by simp (disch:=first|decide|(simp only[zF,zG,hnt];decide)) only [zA,zB,zC,zD,zE,zF,zG,zH,zI,zJ,zK,HV.cells,hnt]; try exact rfl) ha ?_
    repeat' first
     | refine r_nil ?_
     | refine th_n ?_
     | refine ib_n ?_
     | refine w_reg ?_
     | refine r_move (by simp (disch:=first|decide|(simp only[zF,zG,hnt, h1, h4];decide)) only [zA,zB,zC,zD,zE,zF,zG,zH,zI,zJ,zK,HV.cells,hnt, h1, h4]; try exact rfl) ?_
     | refine r_add (by simp (disch:=first|decide|(simp only[zF,zG,hnt, h1, h4];decide)) only [zA,zB,zC,zD,zE,zF,zG,zH,zI,zJ,zK,HV.cells,hnt, h1, h4]; try exact rfl) (by simp (disch:=first|decide|(simp only[zF,zG,hnt, h1, h4];decide)) only [zA,zB,zC,zD,zE,zF,zG,zH,zI,zJ,zK,HV.cells,hnt, h1, h4]; try exact rfl) (by omega) (by omega) ?_
     | fail
    have e2 : Ext h0 n0 h' (n' + 2) := ⟨by omega, hd', fun b hb => (hs' b hb).trans (he.same b hb)⟩
    refine loop23 (cp := cp) hlen hfl hrow m (i + 1) _ _ _ v' (by omega) e2 ho' ?_ ?_ ?_ ?_ ?_ hq
    all_goals first|(simp only [zL,zM,zF,zG,hnt, hds, h1, h4];done)|(simp (disch:=first|decide|(simp only[zF,zG,hnt, hds, h1, h4];decide)) only [zA,zB,zC,zD,zE,zF,zG,zH,zI,zJ,zK,HV.cells,hnt, hds, h1, h4];first|done|exact rfl)|assumption
theorem c_Readings {fl : Nat} {h : Tr HBlk} {nx : Nat} (hd : D h nx) {p : Option (Nat × Nat)} {l : List Rd} {n cp : Nat} (hn : n = l.length) (hlen : l.length < 1000000) (hrow : Row Rd.enc 4 h nx p l) :
    C LW fl 23 [.slice p n cp] ⟨h, nx⟩ (ScL Rd.enc 4 l ⟨h, nx⟩) := by
  subst hn
  refine c_in lw23 rfl rfl rfl ?_
  dsimp only [L23]
  repeat' first
   | refine r_nil ?_
   | refine th_n ?_
   | refine w_seq ?_
   | refine w_reg ?_
   | refine w_block ?_
   | refine r_move (by simp (disch:=first|decide|(simp only[zF,zG];decide)) only [zA,zB,zC,zD,zE,zF,zG,zH,zI,zJ,zK,HV.cells]; try exact rfl) ?_
   | fail
  refine loop23 (cp := cp) hlen (Nat.le_refl _) hrow l.length 0 _ _ _ (.slice none 0 0) (by omega) (Ext.refl hd) Out.nil ?_ ?_ ?_ ?_ ?_ (fun a' h' n' v' g1 g2 g3 g4 g5 => ?_)
  all_goals try first|(simp only [zL,zM,zF,zG];done)|(simp (disch:=first|decide|(simp only[zF,zG];decide)) only [zA,zB,zC,zD,zE,zF,zG,zH,zI,zJ,zK,HV.cells];first|done|exact rfl)|assumption
  repeat' first
   | refine r_nil ?_
   | refine th_n ?_
   | refine w_seq ?_
   | refine w_reg ?_
   | refine w_ret ?_
   | refine r_move (by simp (disch:=first|decide|(simp only[zF,zG,g2, g4];decide)) only [zA,zB,zC,zD,zE,zF,zG,zH,zI,zJ,zK,HV.cells,g2, g4]; try exact rfl) ?_
   | fail
  refine fin_r (by simp only [zL, g3]) (by simp (disch:=first|decide|(simp only[zF,zG,g2, g4];decide)) only [zA,zB,zC,zD,zE,zF,zG,zH,zI,zJ,zK,HV.cells,g2, g4]; try exact rfl) (scl_out Rd.enc_len Rd.enc_flat hd g1.le g5)
theorem ienc_len (n : Int) : (ienc n).length = 1 := rfl
theorem ienc_flat (n : Int) : (ienc n).all flat1 = true := rfl
theorem ienc_one (n : Int) : (ienc n).all HV.one = true := rfl
end Go.Hx

namespace Go.Hx
set_option linter.unusedSimpArgs false
set_option linter.unusedVariables false
set_option maxRecDepth 20000
set_option maxHeartbeats 4000000
attribute [local irreducible] W R C thenH inBlockH
end Go.Hx

namespace Go.Hx
set_option linter.unusedSimpArgs false
set_option linter.unusedVariables false
set_option maxRecDepth 20000
set_option maxHeartbeats 4000000
attribute [local irreducible] W R C thenH inBlockH
end Go.Hx

namespace Go.Hx
set_option linter.unusedSimpArgs false
set_option linter.unusedVariables false
set_option maxRecDepth 20000
set_option maxHeartbeats 4000000
attribute [local irreducible] W R C thenH inBlockH
theorem errOf_zero {c t a b : Int} {l : List Rd} (h : errOf c t a b l = 0) : TubeOk c t a b ∧ l.length ≤ 12 ∧ ∀ r ∈ l, RdOk2 c r := by
  unfold errOf at h
  split at h
  · rename_i h1
    split at h
    · rename_i h2
      split at h
      · rename_i h3; exact ⟨h1, h2, h3⟩
      · cases h
    · cases h
  · cases h
end Go.Hx

namespace Go.Hx
set_option linter.unusedSimpArgs false
set_option linter.unusedVariables false
set_option maxRecDepth 20000
set_option maxHeartbeats 4000000
attribute [local irreducible] W R C thenH inBlockH
theorem c_wakes {fl : Nat} {h : Tr HBlk} {nx : Nat} : C LW fl 19 [] ⟨h, nx⟩ (Sc (· = .bool true) ⟨h, nx⟩) :=
  c_spec (lf := ⟨0, .bad, [], false, some spWakes⟩) rfl rfl rfl (Nat.le_refl _) ⟨rfl, nx, Nat.le_refl _, rfl⟩
end Go.Hx

/- The plain machine once more, as closures: what the kernel can reckon fast. This file: the machine. -/
namespace Go.Hx
noncomputable section

/-- Where a run goes on: temporaries, marks, blocks, the next number. -/
abbrev Kt := Tr HV → List Nat → Tr HBlk → Nat → Option (HV × HS)
/-- Where an operation's value goes. -/
abbrev Kv := HV → Tr HBlk → Nat → Option (HV × HS)
/-- Operations: the floor, temporaries, blocks, the next number, and where the value goes. -/
abbrev Ko := Nat → Tr HV → Tr HBlk → Nat → Kv → Option (HV × HS)
/-- Codes: the floor, the round, and where they go: behind, out of a block, out of the function. -/
abbrev Kc := Nat → Option Nat → Kt → (Nat → Kt) → Kt → Kt
/-- Functions. -/
abbrev Kf := Nat → List HV → Tr HBlk → Nat → Kv → Option (HV × HS)

def Pa.tmp (p : Pa) (a : Tr HV) : HV := Option.rec (motive := fun _ => HV) .undef (fun v => v) (Tr.getP p a)
/-- A closure that is made once: the kernel keeps what a closed term comes to. -/
inductive Bx (α : Type) where
  | mk (f : α)
def Bx.run {α : Type} (b : Bx α) : α := Bx.rec (motive := fun _ => α) (fun f => f) b
def Bx.then {α β : Type} (b : Bx α) (g : α → Bx β) : Bx β := Bx.rec (motive := fun _ => Bx β) g b
/-- A road, made once. -/
def Pa.then {β : Type} (p : Pa) (g : Pa → Bx β) : Bx β := Pa.rec (motive := fun _ => Bx β) (g .z) (fun q _ => g (.a q)) (fun q _ => g (.b q)) (fun q _ => g (.c q)) (fun q _ => g (.d q)) p
def evK (x : Lo) : Bx (Tr HV → HV) :=
  match x with
  | .t n => .mk (Pa.tmp (pa n))
  | .c v => .mk (fun _ => v)
def evL (x : Lo) (a : Tr HV) : HV := (evK x).run a
/-- All that is not served by itself. -/
def slowK (lp : Nat → Option LFunc) (nt : Nat) (o : LOp) : Ko := fun fl a h nx k =>
  match opH lp (exec lp 0) fl o ⟨nt, a, []⟩ ⟨h, nx⟩ with
  | some (v, σ) => k v σ.h σ.nx
  | none => none
def callK (fn : Nat → Bx Kf) (ro : Nat → Nat → List HV → Tr HBlk → Nat → Kv → Option (HV × HS)) (f : Tr HV → HV) (xs : List Lo) : Ko := fun fl a h nx k =>
  match f a with
  | .func g first captured => (fn g).run fl (first ++ xs.map (fun x => evL x a) ++ captured) h nx k
  | .yield l => ro fl l (xs.map fun x => evL x a) h nx k
  | _ => none
def binK (g : IntKind → Int → Int → Option HV) (x y : HV) (h : Tr HBlk) (nx : Nat) (k : Kv) : Option (HV × HS) :=
  match x, y with
  | .int k1 m, .int k2 n => bif sameK k1 k2 then (match g k1 m n with | some v => k v h nx | none => none) else none
  | _, _ => none
def addrK (off : Nat) (x : HV) (h : Tr HBlk) (nx : Nat) (k : Kv) : Option (HV × HS) :=
  match x with
  | .ptr (some (b, o)) => k (.ptr (some (b, Nat.add o off))) h nx
  | _ => none
def idxK (len size : Nat) (x i : HV) (h : Tr HBlk) (nx : Nat) (k : Kv) : Option (HV × HS) :=
  match x, i with
  | .ptr (some (b, o)), .int _ (.ofNat i) => bif Nat.blt i len then k (.ptr (some (b, Nat.add o (Nat.mul i size)))) h nx else none
  | _, _ => none
def nilK (x : HV) (h : Tr HBlk) (nx : Nat) (k : Kv) : Option (HV × HS) :=
  match x with
  | .ptr (some p) => k (.ptr (some p)) h nx
  | .func f first captured => k (.func f first captured) h nx
  | _ => none
def nthK (i : Nat) : List HV → Option HV :=
  Nat.rec (motive := fun _ => List HV → Option HV) (fun l => List.rec (motive := fun _ => Option HV) none (fun v _ _ => some v) l) (fun _ ih l => List.rec (motive := fun _ => Option HV) none (fun _ t _ => ih t) l) i
def setR (i : Nat) (v : HV) : List HV → List HV :=
  Nat.rec (motive := fun _ => List HV → List HV) (fun l => List.rec (motive := fun _ => List HV) [] (fun _ t _ => v :: t) l) (fun _ ih l => List.rec (motive := fun _ => List HV) [] (fun x t _ => x :: ih t) l) i
def loadK (x : HV) (h : Tr HBlk) (nx : Nat) (k : Kv) : Option (HV × HS) :=
  match x with
  | .ptr (some (b, o)) =>
    match h.get b with
    | some (.cells cs _) =>
      match nthK o cs with
      | some v => k v h nx
      | none => none
    | _ => none
  | _ => none
def wrOk : BK → Bool
  | .ro => false
  | _ => true
def storeK (fl : Nat) (x v : HV) (h : Tr HBlk) (nx : Nat) (k : Kv) : Option (HV × HS) :=
  match x with
  | .ptr (some (b, o)) =>
    match h.get b with
    | some (.cells cs bk) =>
      bif Nat.ble fl b && v.one && wrOk bk then
        match nthK o cs with
        | some _ => k .undef (h.set b (some (.cells (setR o v cs) bk))) nx
        | none => none
      else none
    | _ => none
  | _ => none
def compOp (lp : Nat → Option LFunc) (fn : Nat → Bx Kf) (ro : Nat → Nat → List HV → Tr HBlk → Nat → Kv → Option (HV × HS)) (nt : Nat) (o : LOp) : Bx Ko :=
  match o with
  | .move x => (evK x).then fun e => .mk fun _ a h nx k => k (e a) h nx
  | .bin op x y => (evK x).then fun e => (evK y).then fun f => .mk fun _ a h nx k => binK (bif isShift op then shiftH op else intFast op) (e a) (f a) h nx k
  | .fieldAddr off x => (evK x).then fun e => .mk fun _ a h nx k => addrK off (e a) h nx k
  | .indexAddrA len size x i => (evK x).then fun e => (evK i).then fun f => .mk fun _ a h nx k => idxK len size (e a) (f a) h nx k
  | .nilCheck x => (evK x).then fun e => .mk fun _ a h nx k => nilK (e a) h nx k
  | .load false 1 x => (evK x).then fun e => .mk fun _ a h nx k => loadK (e a) h nx k
  | .store 1 x v => (evK x).then fun e => (evK v).then fun f => .mk fun fl a h nx k => storeK fl (e a) (f a) h nx k
  | .call f xs => (evK f).then fun e => .mk (callK fn ro e xs)
  | o => .mk (slowK lp nt o)
def putK (nt : Nat) (dst : Option Nat) : Bx (Tr HV → HV → Tr HV) :=
  match dst with
  | none => .mk fun a _ => a
  | some d => bif Nat.blt d nt then (pa d).then fun p => .mk (fun a v => Tr.setP (some v) p a) else .mk fun a _ => a
def isB (want : Bool) : HV → Bool
  | .bool b => b == want
  | _ => false
def guardK (g : Option (Nat × Bool)) (o : Bx Ko) : Bx Ko :=
  match g with
  | none => o
  | some (t, want) => (evK (.t t)).then fun e => o.then fun o => .mk fun fl a h nx k =>
      bif isB want (e a) then o fl a h nx k else k .undef h nx
def compOps (op : LOp → Bx Ko) (nt : Nat) : List LOper → Bx (Nat → Kt → Kt)
  | [] => .mk fun _ k => k
  | o :: os => (guardK o.g (op o.op)).then fun f => (putK nt o.dst).then fun p => (compOps op nt os).then fun r => .mk fun fl k a ds h nx => f fl a h nx fun v h nx => r fl k (p a v) ds h nx
def drawK (op : LOp → Bx Ko) (nt s : Nat) : List LOper → Bx (Nat → Nat → Tr HBlk → List (Nat × List (Nat × HBlk)) → Kt → Tr HV → List Nat → Nat → Option (HV × HS))
  | [] => .mk fun _ _ h0 done k a ds nx => k a ds (merge h0 none done) nx
  | o :: os => (guardK o.g (op o.op)).then fun f => (putK nt o.dst).then fun p => (drawK op nt s os).then fun r => (compOps op nt (o :: os)).then fun q => .mk fun fl i h0 done k a ds nx =>
      bif Nat.blt i s then
        f nx a (merge h0 (some o.anc) done) nx fun v h nx' => bif Nat.ble nx nx' then r fl (Nat.succ i) h0 (bif Nat.beq nx nx' then done else (i, newFrom h nx (Nat.sub nx' nx)) :: done) k (p a v) ds nx' else none
      else q fl k a ds (merge h0 none done) nx
/-- The loop's record, by its parts. -/
def loopK (b : Option HBlk) (k : LState → HExit → Nat → Tr HV → List Nat → LCode → LCode → Nat → Option (HV × HS)) : Option (HV × HS) :=
  match b with
  | some (.loop ⟨st, pe, nt, tm, ps, asg, bo, mk⟩) => k st pe nt tm ps asg bo mk
  | _ => none
def marksK (rd : Option Nat) (h : Tr HBlk) (nx : Nat) (k : Nat → List Nat → Tr HBlk → Nat → Option (HV × HS)) : Option (HV × HS) :=
  match rd with
  | none => k nx [nx] (h.set nx (some .marks)) (Nat.succ nx)
  | some l => loopK (h.get l) fun _ _ _ _ _ _ _ mk => k mk [] h nx
def notBusy : LState → Bool
  | .busy => false
  | _ => true
def isReady : LState → Bool
  | .ready => true
  | _ => false
def jumpK (e : HExit) (kn : Kt) (kx : Nat → Kt) (kr : Kt) : Kt :=
  match e with
  | .normal => kn
  | .exit i => kx i
  | .ret => kr
def rangeK (fn : Nat → Bx Kf) (nt : Nat) (e : Tr HV → HV) (ps : List Nat) (assign body : LCode) : Kc := fun fl rd kn kx kr a ds h nx =>
  match e a with
  | .func g first captured =>
    marksK rd h nx fun mk ms h1 n1 =>
      (fn g).run fl (first ++ [.yield n1] ++ captured) (h1.set n1 (some (.loop ⟨.ready, .normal, nt, a, ps, assign, body, mk⟩))) (Nat.succ n1) fun _ h3 n3 =>
        loopK (h3.get n1) fun st pe nt' tm ps' asg bo mk' =>
          bif notBusy st && Nat.ble fl n1 then jumpK pe kn kx kr a (ms ++ ds) (h3.set n1 (some (.loop ⟨.exhausted, pe, nt', tm, ps', asg, bo, mk'⟩))) n3 else none
  | _ => none
def endK (l : Nat) (e : HExit) (k : Kv) (h : Tr HBlk) (nx : Nat) : Option (HV × HS) :=
  loopK (h.get l) fun _ _ nt tm ps asg bo mk =>
    match e with
    | .normal => k (.bool true) (h.set l (some (.loop ⟨.ready, .normal, nt, tm, ps, asg, bo, mk⟩))) nx
    | e => k (.bool false) (h.set l (some (.loop ⟨.done, e, nt, tm, ps, asg, bo, mk⟩))) nx
def roundK (co : Nat → LCode → Bx Kc) : Nat → Nat → List HV → Tr HBlk → Nat → Kv → Option (HV × HS) := fun fl l args h nx k =>
  loopK (h.get l) fun _ _ nt tm ps asg bo _ =>
    match zipPut nt tm ps args with
    | some tm1 =>
      (co nt asg).run fl (some l)
        (fun a1 ds1 h1 n1 => loopK (h1.get l) fun st pe nt' tm' ps' asg' bo' mk' =>
          bif isReady st && Nat.ble fl l then
            (co nt bo).run fl (some l) (fun _ _ => endK l .normal k) (fun i _ _ => endK l (.exit i) k) (fun _ _ => endK l .ret k) a1 ds1 (h1.set l (some (.loop ⟨.busy, pe, nt', tm', ps', asg', bo', mk'⟩))) n1
          else none)
        (fun _ _ _ _ _ => none) (fun _ _ _ _ => none) tm1 [] h nx
    | none => none
def comp (op : LOp → Bx Ko) (fn : Nat → Bx Kf) (nt : Nat) : LCode → Bx Kc
  | .skip => .mk fun _ _ kn _ _ => kn
  | .seq x y => (comp op fn nt x).then fun f => (comp op fn nt y).then fun g => .mk fun fl rd kn kx kr => f fl rd (g fl rd kn kx kr) kx kr
  | .cond c x y => (evK c).then fun e => (comp op fn nt x).then fun f => (comp op fn nt y).then fun g => .mk fun fl rd kn kx kr a ds h nx =>
      match e a with
      | .bool b => bif b then f fl rd kn kx kr a ds h nx else g fl rd kn kx kr a ds h nx
      | _ => none
  | .block id x => (comp op fn nt x).then fun f => .mk fun fl rd kn kx kr => f fl rd kn (fun i => bif Nat.beq i id then kn else kx i) kr
  | .loop x => (comp op fn nt x).then fun f => .mk fun fl rd _ kx kr => Nat.rec (motive := fun _ => Kt) (fun _ _ _ _ => none) (fun _ ih => f fl rd ih kx kr) 1000000
  | .scope x => comp op fn nt x
  | .exit id => .mk fun _ _ _ kx _ => kx id
  | .ret => .mk fun _ _ _ _ kr => kr
  | .reg ops => (compOps op nt ops).then fun f => .mk fun fl _ kn _ _ => f fl kn
  | .draw s ops => (drawK op nt s ops).then fun f => .mk fun fl _ kn _ _ a ds h nx => bif Nat.ble fl nx then f fl 0 h [] kn a ds nx else none
  | .rangeFunc f ps assign body => (evK f).then fun e => .mk (rangeK fn nt e ps assign body)
  | .bad => .mk fun _ _ _ _ _ _ _ _ _ => none
def leaveK (fl : Nat) (nt : Nat) (res : List LRes) (k : Kv) : Kt := fun a ds h nx =>
  match leaveH fl ⟨nt, a, ds⟩ res ⟨h, nx⟩ with
  | some (v, σ) => k v σ.h σ.nx
  | none => none
abbrev Kr := Nat → Nat → List HV → Tr HBlk → Nat → Kv → Option (HV × HS)
/-- Behind a call that wrote nothing of its caller's. -/
def gcK (h : Tr HBlk) (nx : Nat) (k : Kv) : Kv := fun v h' nx' => k v (keepD h' nx 5 [v] h) nx'
def specK (g : List HV → HS → Option (HV × HS)) : Kf := fun _ args h nx k =>
  match g args ⟨h, nx⟩ with
  | some (v, σ) => bif Nat.ble nx σ.nx then k v σ.h σ.nx else none
  | none => none
def enterK (lf : LFunc) (body : Kc) : Bx Kf :=
  bif lf.imp then .mk fun fl args h nx k => bif Nat.ble args.length lf.nt then body fl none (leaveK fl lf.nt lf.res k) (fun _ _ _ _ _ => none) (leaveK fl lf.nt lf.res k) (putAll .e 0 args) [] h nx else none
  else .mk fun _ args h nx k => bif Nat.ble args.length lf.nt then body nx none (leaveK nx lf.nt lf.res (gcK h nx k)) (fun _ _ _ _ _ => none) (leaveK nx lf.nt lf.res (gcK h nx k)) (putAll .e 0 args) [] h nx else none
/-- Functions and rounds, so deep. -/
def bothK (lp : Nat → Option LFunc) : Nat → (Nat → Bx Kf) × Kr
  | 0 => (fun _ => .mk fun _ _ _ _ _ => none, fun _ _ _ _ _ _ => none)
  | n + 1 =>
    (fun f =>
      match lp f with
      | none => .mk fun _ _ _ _ _ => none
      | some lf =>
        match lf.spec with
        | some g => .mk (specK g)
        | none => (comp (compOp lp (bothK lp n).1 (bothK lp n).2 lf.nt) (bothK lp n).1 lf.nt lf.body).then (enterK lf),
     roundK fun nt c => comp (compOp lp (bothK lp n).1 (bothK lp n).2 nt) (bothK lp n).1 nt c)
def fnK (lp : Nat → Option LFunc) (n : Nat) : Nat → Bx Kf := (bothK lp n).1
end
end Go.Hx

