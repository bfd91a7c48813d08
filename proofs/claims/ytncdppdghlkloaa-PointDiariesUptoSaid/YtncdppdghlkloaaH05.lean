/- The functions of the program, of which one is known: the closed examples tell true. -/
import Derived.Test.YtncdppdghlkloaaH02
import Derived.Test.YtncdppdghlkloaaH03
import Derived.Test.YtncdppdghlkloaaH04
set_option linter.all false
/- The functions of the program, of which one is known: the closed examples tell true. -/
namespace Go.Hx
noncomputable section
def spWakes : List HV → HS → Option (HV × HS)
  | [], σ => some (.bool true, σ)
  | _, _ => none
def LW : Nat → Option LFunc := withS LP 22 spWakes
theorem withS_of {lp : Nat → Option LFunc} {f : Nat} {g : List HV → HS → Option (HV × HS)} {k : Nat} {lf : LFunc} (hk : Nat.beq k f = false) (h : lp k = some lf) : withS lp f g k = some lf := by
  unfold withS
  rw [hk]
  exact h
theorem lw_of {k : Nat} {lf : LFunc} (hk : Nat.beq k 22 = false) (h : LP k = some lf) : LW k = some lf := withS_of hk h
theorem lw15 : LW 15 = some L15 := lw_of rfl lp15
theorem lw17 : LW 17 = some L17 := lw_of rfl lp17
theorem lw19 : LW 19 = some L19 := lw_of rfl lp19
theorem lw20 : LW 20 = some L20 := lw_of rfl lp20
theorem lw21 : LW 21 = some L21 := lw_of rfl lp21
theorem lw25 : LW 25 = some L25 := lw_of rfl lp25
theorem lw29 : LW 29 = some L29 := lw_of rfl lp29
theorem lw34 : LW 34 = some L34 := lw_of rfl lp34
theorem lw37 : LW 37 = some L37 := lw_of rfl lp37
theorem lw38 : LW 38 = some L38 := lw_of rfl lp38
theorem lw39 : LW 39 = some L39 := lw_of rfl lp39
theorem lw40 : LW 40 = some L40 := lw_of rfl lp40
theorem lw42 : LW 42 = some L42 := lw_of rfl lp42
theorem lw52 : LW 52 = some L52 := lw_of rfl lp52
theorem lw55 : LW 55 = some L55 := lw_of rfl lp55
theorem lw64 : LW 64 = some L64 := lw_of rfl lp64
theorem lw67 : LW 67 = some L67 := lw_of rfl lp67
theorem lw68 : LW 68 = some L68 := lw_of rfl lp68
theorem lw69 : LW 69 = some L69 := lw_of rfl lp69
theorem lw70 : LW 70 = some L70 := lw_of rfl lp70
theorem lw72 : LW 72 = some L72 := lw_of rfl lp72
theorem lw73 : LW 73 = some L73 := lw_of rfl lp73
theorem lw74 : LW 74 = some L74 := lw_of rfl lp74
theorem lw75 : LW 75 = some L75 := lw_of rfl lp75
theorem lw76 : LW 76 = some L76 := lw_of rfl lp76
theorem lw77 : LW 77 = some L77 := lw_of rfl lp77
theorem lw81 : LW 81 = some L81 := lw_of rfl lp81
theorem lw82 : LW 82 = some L82 := lw_of rfl lp82
theorem lw91 : LW 91 = some L91 := lw_of rfl lp91
theorem lw92 : LW 92 = some L92 := lw_of rfl lp92
theorem lw93 : LW 93 = some L93 := lw_of rfl lp93
theorem lw94 : LW 94 = some L94 := lw_of rfl lp94
theorem lw95 : LW 95 = some L95 := lw_of rfl lp95
theorem lw96 : LW 96 = some L96 := lw_of rfl lp96
theorem lw97 : LW 97 = some L97 := lw_of rfl lp97
theorem lw98 : LW 98 = some L98 := lw_of rfl lp98
theorem lw99 : LW 99 = some L99 := lw_of rfl lp99
theorem lw100 : LW 100 = some L100 := lw_of rfl lp100
theorem lw101 : LW 101 = some L101 := lw_of rfl lp101
theorem lw103 : LW 103 = some L103 := lw_of rfl lp103
theorem V.ct_wakes {fl : Nat} {h : Tr HBlk} {nx : Nat} : C LW fl 22 [] ⟨h, nx⟩ (V.KS (.bool true) nx h) :=
  c_spec (lf := ⟨0, .bad, [], false, some spWakes⟩) rfl rfl rfl (Nat.le_refl _) ⟨rfl, nx, Nat.le_refl _, rfl⟩
end
end Go.Hx

/- What is known of the temporaries, and no more. -/
namespace Go.Hx.V
open Go.Hx
variable {lp : Nat → Option LFunc} {fl nt : Nat} {rd : Option Nat} {Q : HExit → HAct → HS → Prop} {T : Tr HV} {ds : List Nat} {σ : HS} {c : LCode}
theorem w_gen (p : Tr HV → Prop) (hp : p T) (h : ∀ T, p T → W lp fl rd c Q ⟨nt, T, ds⟩ σ) : W lp fl rd c Q ⟨nt, T, ds⟩ σ := h T hp
end Go.Hx.V

/- Arrays at the end of what a box holds, as functions of places. -/
namespace Go.Hx.V
open Go.Hx
def eI (k : IntKind) (n : Nat) (f : Nat → Int) : List HV := (List.range n).map fun i => .int k (f i)
def eB (n : Nat) (f : Nat → Bool) : List HV := (List.range n).map fun i => .bool (f i)
def ups {α : Type} (f : Nat → α) (j : Nat) (v : α) : Nat → α := fun i => if i = j then v else f i
section
variable {k : IntKind} {n : Nat} {f : Nat → Int} {g : Nat → Bool}
theorem eI_len : (eI k n f).length = n := by unfold eI; rw [List.length_map, List.length_range]
theorem eB_len : (eB n g).length = n := by unfold eB; rw [List.length_map, List.length_range]
theorem eI_one : (eI k n f).all HV.one = true := by
  unfold eI; rw [List.all_map, List.all_eq_true]; intro i _; rfl
theorem eB_one : (eB n g).all HV.one = true := by
  unfold eB; rw [List.all_map, List.all_eq_true]; intro i _; rfl
theorem eI_get {i : Nat} (h : i < n) : (eI k n f)[i]? = some (.int k (f i)) := by
  unfold eI; rw [List.getElem?_map, List.getElem?_range h]; rfl
theorem ovw1 : ∀ (l : List HV) (i : Nat) (v : HV), i < l.length → overwrite l i [v] = some (l.set i v)
  | [], i, v, h => by simp at h
  | x :: l, 0, v, h => by cases l <;> rfl
  | x :: l, i + 1, v, h => by
    show (overwrite l i [v]).map _ = _
    rw [ovw1 l i v (by simpa using h)]; rfl
theorem eI_set {i : Nat} {v : Int} : (eI k n f).set i (.int k v) = eI k n (ups f i v) := by
  apply List.ext_getElem?
  intro j
  rw [List.getElem?_set]
  by_cases hj : j < n
  · rw [eI_get (f := ups f i v) hj, eI_len]
    by_cases e : i = j
    · subst e; rw [if_pos rfl, if_pos hj]; unfold ups; rw [if_pos rfl]
    · rw [if_neg e, eI_get hj]; unfold ups; rw [if_neg (Ne.symm e)]
  · rw [List.getElem?_eq_none (l := eI k n (ups f i v)) (by rw [eI_len]; omega), List.getElem?_eq_none (l := eI k n f) (by rw [eI_len]; omega), eI_len]
    by_cases e : i = j
    · subst e; rw [if_pos rfl, if_neg hj]
    · rw [if_neg e]
theorem ar_set (P : List HV) {p off ix : Nat} {v : Int} (hp : P.length = p) (ho : off = p + ix) (hl : ix < n) : overwrite (P ++ eI k n f) off [.int k v] = some (P ++ eI k n (ups f ix v)) := by
  rw [ovw1 _ _ _ (by rw [List.length_append, eI_len]; omega), List.set_append_right _ _ (by omega), show off - P.length = ix by omega, eI_set]
end
theorem ar_get0 {k : IntKind} {n : Nat} {f : Nat → Int} {off ix : Nat} (ho : off = ix) (hl : ix < n) : (eI k n f)[off]? = some (.int k (f ix)) := by rw [ho]; exact eI_get hl
theorem ar_set0 {k : IntKind} {n : Nat} {f : Nat → Int} {off ix : Nat} {v : Int} (ho : off = ix) (hl : ix < n) : overwrite (eI k n f) off [.int k v] = some (eI k n (ups f ix v)) := ar_set (p := 0) [] rfl (by omega) hl
section
variable {n0 nx : Nat} {h0 h : Tr HBlk} {F0 F : PH} {L : List LE}
theorem St.cells (st : St n0 h0 F0 F h nx L) (i : Nat) {b : Nat} {cs : List HV} (hi : L[i]? = some (.bx b cs)) (cs' : List HV) (he : cs = cs') : St n0 h0 F0 F h nx (L.set i (.bx b cs')) := by
  subst he
  have : L.set i (.bx b cs) = L := by
    apply List.ext_getElem?
    intro j
    rw [List.getElem?_set]
    by_cases e : i = j
    · subst e
      rw [if_pos rfl, hi]
      split
      · rfl
      · rename_i hn; rw [List.getElem?_eq_none (by omega)] at hi; cases hi
    · rw [if_neg e]
  rw [this]; exact st
end
def rF (k : IntKind) (n : Nat) : Rel (Nat → Int) := fun _ f r => r = eI k n f
def rFB (n : Nat) : Rel (Nat → Bool) := fun _ f r => r = eB n f
instance {k : IntKind} {n : Nat} : OkR (rF k n) n := ⟨fun _ h => h, fun h => by rw [h]; exact eI_len, fun h => by rw [h]; exact eI_one⟩
instance {n : Nat} : OkR (rFB n) n := ⟨fun _ h => h, fun h => by rw [h]; exact eB_len, fun h => by rw [h]; exact eB_one⟩
end Go.Hx.V

/- Maps, as functions from keys. -/
namespace Go.Hx.V
set_option linter.unusedVariables false
open Go.Hx
def KD {κ : Type} [DecidableEq κ] (D : ED) (en : κ → HV) : Prop := ∀ a b : κ, eqH D (en a) (en b) = some (decide (a = b))
def KRw {κ : Type} [DecidableEq κ] (ks : List Leaf) (en : κ → List HV) : Prop := ∀ a b : κ, eqRow ks (en a) (en b) = some (decide (a = b))
theorem KD.int {k : IntKind} : KD (.cell (.i k)) (fun x : Int => .int k x) := fun a b => by
  show (if k = k ∧ k = k then some (a == b) else none) = _
  rw [if_pos ⟨rfl, rfl⟩]; rfl
theorem KRw.one {k : IntKind} : KRw [.i k] (fun x : Int => [.int k x]) := fun a b => by
  show (match (if k = k ∧ k = k then some (a == b) else none), some true with | some a, some b => some (a && b) | _, _ => none) = _
  rw [if_pos ⟨rfl, rfl⟩]
  show some ((a == b) && true) = _
  rw [Bool.and_true]; rfl
theorem KRw.cons {κ : Type} [DecidableEq κ] {ks : List Leaf} {en : κ → List HV} {k : IntKind} (h : KRw ks en) : KRw (.i k :: ks) (fun p : Int × κ => .int k p.1 :: en p.2) := fun a b => by
  show (match (if k = k ∧ k = k then some (a.1 == b.1) else none), eqRow ks (en a.2) (en b.2) with | some a, some b => some (a && b) | _, _ => none) = _
  rw [if_pos ⟨rfl, rfl⟩, h a.2 b.2]
  show some ((a.1 == b.1) && decide (a.2 = b.2)) = _
  congr 1
  obtain ⟨a1, a2⟩ := a
  obtain ⟨b1, b2⟩ := b
  by_cases c : a1 = b1
  · by_cases c' : a2 = b2
    · subst c; subst c'; simp
    · simp [c, c']
  · simp [c]
theorem KD.row {κ : Type} [DecidableEq κ] {ks : List Leaf} {en : κ → List HV} (h : KRw ks en) : KD (.row ks) (fun k => .agg (en k)) := h
section
variable {κ β : Type} [DecidableEq κ]
def look : List (κ × β) → κ → Option β
  | [], _ => none
  | (x, v) :: l, k => if k = x then some v else look l k
def putM (k : κ) (v : β) : List (κ × β) → List (κ × β)
  | [] => [(k, v)]
  | (x, u) :: l => if k = x then (k, v) :: l else (x, u) :: putM k v l
def upm (m : κ → Option β) (k : κ) (v : β) : κ → Option β := fun j => if j = k then some v else m j
theorem look_put {k : κ} {v : β} : ∀ (l : List (κ × β)) (j : κ), look (putM k v l) j = if j = k then some v else look l j
  | [], j => rfl
  | (x, u) :: l, j => by
    unfold putM
    by_cases c : k = x
    · rw [if_pos c]
      unfold look
      by_cases c' : j = k
      · rw [if_pos c', if_pos c']
      · rw [if_neg c', if_neg c', if_neg (fun e => c' (e.trans c.symm))]
    · rw [if_neg c]
      unfold look
      by_cases c' : j = x
      · rw [if_pos c', if_neg (fun e => c (e.symm.trans c')), if_pos c']
      · rw [if_neg c', if_neg c', look_put l j]
def MR (D : ED) (en : κ → HV) (ev : β → HV) (es : List (HV × HV)) (m : κ → Option β) : Prop := KD D en ∧ ∃ l : List (κ × β), es = l.map (fun p => (en p.1, ev p.2)) ∧ ∀ k, m k = look l k
theorem MR.nil {D : ED} {en : κ → HV} {ev : β → HV} (h : KD D en) : MR D en ev [] (fun _ => none) := ⟨h, [], rfl, fun _ => rfl⟩
theorem MR.find {D : ED} {en : κ → HV} {ev : β → HV} {es : List (HV × HV)} {m : κ → Option β} (h : MR D en ev es m) (k : κ) : findH D (en k) es = some ((m k).map ev) := by
  obtain ⟨hd, l, rfl, hm⟩ := h
  rw [hm k]
  clear hm
  induction l with
  | nil => rfl
  | cons p l ih =>
    obtain ⟨x, v⟩ := p
    show (match eqH D (en k) (en x) with | some true => some (some (ev v)) | some false => findH D (en k) (l.map fun p : κ × β => (en p.1, ev p.2)) | none => none) = _
    rw [hd k x]
    unfold look
    by_cases c : k = x
    · rw [decide_eq_true c, if_pos c]; rfl
    · rw [decide_eq_false c, if_neg c]; exact ih
theorem MR.upd {D : ED} {en : κ → HV} {ev : β → HV} {es : List (HV × HV)} {m : κ → Option β} (h : MR D en ev es m) (k : κ) (v : β) : ∃ es', updH D (en k) (ev v) es = some es' ∧ MR D en ev es' (upm m k v) := by
  obtain ⟨hd, l, rfl, hm⟩ := h
  refine ⟨(putM k v l).map (fun p => (en p.1, ev p.2)), ?_, hd, putM k v l, rfl, fun j => ?_⟩
  · clear hm
    induction l with
    | nil => rfl
    | cons p l ih =>
      obtain ⟨x, u⟩ := p
      show (match eqH D (en k) (en x) with | some true => some ((en k, ev v) :: l.map fun p : κ × β => (en p.1, ev p.2)) | some false => (updH D (en k) (ev v) (l.map fun p : κ × β => (en p.1, ev p.2))).map ((en x, ev u) :: ·) | none => none) = _
      rw [hd k x]
      unfold putM
      by_cases c : k = x
      · rw [decide_eq_true c, if_pos c]; rfl
      · rw [decide_eq_false c, if_neg c]
        show (updH D (en k) (ev v) (l.map fun p : κ × β => (en p.1, ev p.2))).map ((en x, ev u) :: ·) = _
        rw [ih]; rfl
  · rw [look_put]
    unfold upm
    rw [hm j]
theorem MR.key {D : ED} {en : κ → HV} {ev : β → HV} {es : List (HV × HV)} {m : κ → Option β} (h : MR D en ev es m) (k : κ) : keyOk D (en k) = true := by
  unfold keyOk; rw [h.1 k k]; rfl
end
section
variable {lp : Nat → Option LFunc} {fl : Nat} {N : HAct → HS → Prop} {nt d : Nat} {T : Tr HV} {ds : List Nat} {h : Tr HBlk} {nx : Nat} {os : List LOper} {anc : List Nat} {κ β : Type} [DecidableEq κ]
theorem v_mm {n0 : Nat} {h0 : Tr HBlk} {F0 F : PH} {L : List LE} (st : St n0 h0 F0 F h nx L) (hn : ∀ b h' n', St n0 h0 F0 F h' n' (L ++ [.any b (.map [])]) → R lp fl os N ⟨nt, T.set d (some (.map (some b))), ds⟩ ⟨h', n'⟩) (hd : Nat.blt d nt = true := by rfl) : R lp fl (⟨some d, .makeMap, none, anc⟩ :: os) N ⟨nt, T, ds⟩ ⟨h, nx⟩ :=
  r_mm (by
    rw [put_eq hd]
    have hne := st.ext.le
    exact hn _ _ _ (st.push (b := nx) (Ext.set st.d (by omega) (by omega) (by omega)) (fun c hc => by rw [os_any hc]; omega) ⟨by omega, by omega, get_same _ _ _⟩))
theorem v_lk2 {D : ED} {en : κ → HV} {ev : β → HV} {es : List (HV × HV)} {m : κ → Option β} {b : Nat} {x y : Lo} {kv zero : HV} (hm : MR D en ev es m) (hg : h.get b = some (.map es)) (k : κ) (z : β) (hk : kv = en k) (hz : zero = ev z) (hn : R lp fl os N ⟨nt, T.set d (some (.tuple [ev ((m k).getD z), .bool (m k).isSome])), ds⟩ ⟨h, nx⟩) (hx : lo T x = .map (some b) := by first | exact ev_c | (apply ev_t; exact gA)) (hy : lo T y = kv := by first | exact ev_c | (apply ev_t; exact gA)) (hd : Nat.blt d nt = true := by rfl) : R lp fl (⟨some d, .lookup D zero true x y, none, anc⟩ :: os) N ⟨nt, T, ds⟩ ⟨h, nx⟩ := by
  subst hk; subst hz
  refine r_go (v := .tuple [ev ((m k).getD z), .bool (m k).isSome]) ?_ (by rw [put_eq hd]; exact hn)
  show oLookup D (ev z) true x y _ _ = _
  unfold oLookup
  rw [(ev_eq y).trans hy, (ev_eq x).trans hx]
  simp only [hm.key k, cond_true, hg, hm.find k]
  cases m k <;> rfl
theorem v_mu {n0 : Nat} {h0 : Tr HBlk} {F0 F : PH} {L : List LE} {D : ED} {en : κ → HV} {ev : β → HV} {es : List (HV × HV)} {m : κ → Option β} {b : Nat} {x y z : Lo} {kv vv : HV} (st : St n0 h0 F0 F h nx L) (i : Nat) (hi : L[i]? = some (.any b (.map es))) (hm : MR D en ev es m) (k : κ) (v : β) (hk : kv = en k) (hv : vv = ev v) (hfl : fl ≤ n0) (hn : ∀ es' h', MR D en ev es' (upm m k v) → St n0 h0 F0 F h' nx (L.set i (.any b (.map es'))) → R lp fl os N ⟨nt, T, ds⟩ ⟨h', nx⟩) (hx : lo T x = .map (some b) := by first | exact ev_c | (apply ev_t; exact gA)) (hy : lo T y = kv := by first | exact ev_c | (apply ev_t; exact gA)) (hw : lo T z = vv := by first | exact ev_c | (apply ev_t; exact gA)) : R lp fl (⟨none, .mapUpdate D x y z, none, anc⟩ :: os) N ⟨nt, T, ds⟩ ⟨h, nx⟩ := by
  subst hk; subst hv
  obtain ⟨es', e1, e2⟩ := hm.upd k v
  obtain ⟨h1, h2, h3⟩ := st.at hi
  refine r_mup ((ev_eq x).trans hx) ((ev_eq y).trans hy) ((ev_eq z).trans hw) (hm.key k) h3 (Nat.le_trans hfl h1) e1 ?_
  exact hn es' _ e2 (st.swap hi (Nat.le_refl _) (st.d.upd h2) (fun c hc hne => get_other _ _ fun e => hne (List.mem_singleton.2 e)) (fun c hc => .inl hc) ⟨h1, h2, get_same _ _ _⟩)
end
end Go.Hx.V

/- Appending, in the part of a region that draws, to a row that this part itself has laid. -/
namespace Go.Hx.V
set_option linter.unusedVariables false
open Go.Hx
section
variable {lp : Nat → Option LFunc} {fl : Nat} {N : HAct → HS → Prop} {nt d : Nat} {T : Tr HV} {ds : List Nat} {os : List LOper}
variable {h1 hm h0 : Tr HBlk} {nx s n1 n0 i : Nat} {done : List (Nat × List (Nat × HBlk))} {V : List (Nat × PH)} {F F0 : PH} {L : List LE}
theorem sl_len {α : Type} {l : List α} {a b : Nat} (h : b ≤ l.length) : b - a = ((l.drop a).take (b - a)).length := by rw [List.length_take, List.length_drop]; omega
theorem drop_nil {anc : List Nat} : ∀ {done : List (Nat × List (Nat × HBlk))}, (∀ p ∈ done, anc.contains p.1 = true) → dropAll anc done = []
  | [], _ => rfl
  | (j, l) :: ds, h => by
    have hj : anc.contains j = true := h (j, l) (List.mem_cons_self ..)
    rw [dr_in hj]
    exact drop_nil fun p hp => h p (List.mem_cons_of_mem _ hp)
theorem y_own {α : Type} {rel : Rel α} {sz m : Nat} {l : List α} {o : LOper} (st : St n0 h0 F0 F h1 n1 L) (dw : Dw n1 nx h1 done V) (hV : V.all (fun e => o.anc.contains e.1) = true)
    (h2 : ∀ hm, Vw n1 nx h1 hm o.anc V → R lp (max fl n1) [o] (fun a σ => ∃ o' c' cs', a = ⟨nt, T.set d (some (slv o' m c')), ds⟩ ∧ nx ≤ σ.nx ∧ D σ.h σ.nx ∧ LE.ok n1 σ.nx σ.h (.ls o' c' cs' sz) ∧ LR rel sz F l cs') ⟨nt, T, ds⟩ ⟨hm, nx⟩)
    (hr : ∀ o' c' cs' n2 done' G, nx ≤ n2 → Dw n1 n2 h1 done' [(i, G)] → (∀ hE nE, PH.sub G hE → n2 ≤ nE → LE.ok n1 nE hE (.ls o' c' cs' sz)) → (∀ b, o' = some b → ∃ x, G b = some x) → LR rel sz F l cs' → DG lp fl s n1 h1 os (i + 1) done' N ⟨nt, T.set d (some (slv o' m c')), ds⟩ n2)
    (hi : Nat.blt i s = true := by rfl) (hw : o.anc.contains i = true := by rfl) : DG lp fl s n1 h1 (o :: os) i done N ⟨nt, T, ds⟩ nx := by
  obtain ⟨n, a, σ, e, o', c', cs', rfl, g1, g2, g3, g4⟩ := h2 _ (dw.view st.d o.anc)
  obtain ⟨h', n'⟩ := σ
  have hle := dw.le
  have hdr : dropAll o.anc done = [] := drop_nil fun p hp => by
    obtain ⟨e, he, h⟩ := dw.idx p hp
    rw [← h]
    exact List.all_eq_true.1 hV e he
  refine x_stepW hi hw rfl ⟨n, _, _, e, x_extW g1 g2 hdr fun l1 a1 a2 a3 => ?_⟩
  have dom : ∀ b x, h'.get b = some x → b < n' := fun b x hx => Nat.not_le.1 fun h => by
    have g2' := g2
    unfold D at g2'
    rw [g2' b h] at hx
    cases hx
  have hG : ∀ b x, (if n1 ≤ b then h'.get b else none) = some x → n1 ≤ b ∧ h'.get b = some x := fun b x hx => by
    by_cases c : n1 ≤ b
    · rw [if_pos c] at hx; exact ⟨c, hx⟩
    · rw [if_neg c] at hx; cases hx
  have dw' : Dw n1 n' h1 [(i, l1)] [(i, fun b => if n1 ≤ b then h'.get b else none)] := by
    refine ⟨Nat.le_trans hle g1, fun e he b x hx => ?_, fun f g e he hf b x hx => ?_, fun f g b hb => ?_, fun f g e he hf b x hx => ?_, List.pairwise_singleton .., fun p hp => ⟨_, List.mem_singleton.2 rfl, by rw [List.mem_singleton.1 hp]⟩⟩
    · rw [List.mem_singleton.1 he] at hx
      obtain ⟨q1, q2⟩ := hG b x hx
      exact ⟨q1, dom b x q2⟩
    · rw [List.mem_singleton.1 he] at hx hf
      obtain ⟨q1, q2⟩ := hG b x hx
      show (bif f i then addAll g l1 else g).get b = _
      have hf' : f i = true := hf
      rw [hf', cond_true]
      exact a2 g b x q1 q2
    · show (bif f i then addAll g l1 else g).get b = _
      cases f i with
      | false => rfl
      | true => exact a1 g b hb
    · rw [List.mem_singleton.1 he] at hf
      show (bif f i then addAll g l1 else g).get b = _
      have hf' : f i = false := hf
      rw [hf']; rfl
  refine hr o' c' cs' n' _ _ g1 dw' (fun hE nE hs hn => ?_) (fun b hb => ?_) g4
  · match o', g3 with
    | none, g3 => exact g3
    | some b, ⟨q1, q2, q3⟩ =>
      have q2' : b < n' := q2
      refine ⟨q1, by omega, ?_⟩
      rcases q3 with ⟨r1, r2⟩ | ⟨rest, r1, r2⟩
      · exact .inl ⟨hs b _ (by show (if n1 ≤ b then h'.get b else none) = _; rw [if_pos q1]; exact r1), r2⟩
      · exact .inr ⟨rest, hs b _ (by show (if n1 ≤ b then h'.get b else none) = _; rw [if_pos q1]; exact r1), r2⟩
  · subst hb
    obtain ⟨q1, q2, q3⟩ := g3
    rcases q3 with ⟨r1, r2⟩ | ⟨rest, r1, r2⟩
    · exact ⟨_, by show (if n1 ≤ b then h'.get b else none) = _; rw [if_pos q1]; exact r1⟩
    · exact ⟨_, by show (if n1 ≤ b then h'.get b else none) = _; rw [if_pos q1]; exact r1⟩
theorem u_app {α : Type} {rel : Rel α} {sz m bytes cx b0 : Nat} {p : Option (Nat × Nat)} {l : List α} {A anc : List Nat} {s' x : Lo} [OkR rel sz] (st : St n0 h0 F0 F h1 n1 L) (vw : Vw n1 nx h1 hm A V) (hg : hm.get b0 = some (.cells [] .exact)) (hb0 : n1 ≤ b0) (hfl : fl ≤ n1) (hr : RowF rel sz F p cx l)
    (hb : (([] : List α).length + l.length) * bytes ≤ 35184372088832 ∧ ([] : List α).length + l.length ≤ 35184372088832) (hz : 0 < sz) (hm' : l.length = m)
    (hs : lo T s' = .slice (some (b0, 0)) 0 0 := by first | exact ev_c | (apply ev_t; exact gA)) (hx : lo T x = .slice p l.length cx := by first | exact ev_c | (apply ev_t; exact gA)) (hd : Nat.blt d nt = true := by rfl) :
    R lp (max fl n1) [⟨some d, .append sz bytes s' x, none, anc⟩] (fun a σ => ∃ o' c' cs', a = ⟨nt, T.set d (some (slv o' m c')), ds⟩ ∧ nx ≤ σ.nx ∧ D σ.h σ.nx ∧ LE.ok n1 σ.nx σ.h (.ls o' c' cs' sz) ∧ LR rel sz F l cs') ⟨nt, T, ds⟩ ⟨hm, nx⟩ := by
  have hlt : b0 < nx := Nat.not_le.1 fun h => by
    have hd' := vw.d
    unfold D at hd'
    rw [hd' b0 h] at hg
    cases hg
  subst hm'
  have hb' : l.length * bytes ≤ 35184372088832 ∧ l.length ≤ 35184372088832 := by
    rw [List.length_nil, Nat.zero_add] at hb; exact hb
  obtain ⟨row, q1, q2⟩ := RowF.cells hr
  by_cases hne : l = []
  · subst hne
    refine r_app ((ev_eq s').trans hs) ((ev_eq x).trans hx) (app_none (Nat.le_refl _)) ?_
    rw [put_eq hd]
    exact r_nil ⟨some b0, 0, [], rfl, Nat.le_refl _, vw.d, ⟨hb0, hlt, .inr ⟨[], by rw [List.append_nil]; exact hg, by simp⟩⟩, LR.nil⟩
  · obtain ⟨b, oo, csx, kx, rfl, g1, g2⟩ := q2 hne
    have hpos : 0 < l.length := List.length_pos_iff.2 hne
    have hle := vw.le
    refine r_app ((ev_eq s').trans hs) ((ev_eq x).trans hx) (app_exact (k := 0) (n := l.length) (old := []) (vw.fz st g1) g2 hg (by rw [Nat.zero_mul]; rfl) (by omega) (by rw [Nat.zero_add]; exact hb'.1) (by omega) hz) ?_
    rw [put_eq hd, Nat.zero_add]
    exact r_nil ⟨some nx, l.length, row, rfl, Nat.le_succ _, (show D (hm.set nx _) (nx + 1) from vw.d.put (by omega) (by omega)), ⟨hle, Nat.lt_succ_self _, .inl ⟨by rw [get_same]; rfl, q1.1⟩⟩, q1⟩
theorem St.ownB {h : Tr HBlk} {n2 c sz : Nat} {o : Option Nat} {cs : List HV} {G : PH} {E : List (Nat × List HV)} (sto : St n0 h0 F0 F h1 n1 L) (st : St n0 h0 F0 F h n2 (L ++ E.map fun e => .bx e.1 e.2)) (ok : LE.ok n1 n2 h (.ls o c cs sz)) (gb : ∀ b, o = some b → ∃ x, G b = some x) (hE : ∀ e ∈ E, G e.1 = none) : St n0 h0 F0 F h n2 ((L ++ E.map fun e => .bx e.1 e.2) ++ [.ls o c cs sz]) := by
  have hne := sto.ext.le
  have low : ∀ b, o = some b → n1 ≤ b := fun b hb => by
    subst hb
    exact ok.1
  refine ⟨st.ext, st.sub, st.le, st.lo, fun e he b hb => ?_, fun e he => ?_, ?_⟩
  · rcases List.mem_append.1 he with h3 | h3
    · exact st.off e h3 b hb
    · rw [List.mem_singleton.1 h3] at hb
      have := low b (os_ls hb)
      cases hF : F b with
      | none => rfl
      | some y => have := sto.dom hF; omega
  · rcases List.mem_append.1 he with h3 | h3
    · exact st.own e h3
    · rw [List.mem_singleton.1 h3]
      match o, ok with
      | none, ok => exact ok
      | some b, ⟨q1, q2, q3⟩ => exact ⟨by omega, q2, q3⟩
  · refine List.pairwise_append.2 ⟨st.dist, List.pairwise_singleton .., fun y hy z hz b hb hb2 => ?_⟩
    rw [List.mem_singleton.1 hz] at hb2
    have e1 := os_ls hb2
    have := low b e1
    rcases List.mem_append.1 hy with h3 | h3
    · have := (LE.ok_bd (sto.own y h3) hb).2; omega
    · obtain ⟨e3, he3, rfl⟩ := List.mem_map.1 h3
      have e2 := os_bx hb
      obtain ⟨x, hx⟩ := gb b e1
      rw [e2, hE e3 he3] at hx
      cases hx
end
end Go.Hx.V

/- What the functions of the program come to. -/
namespace Go.Hx.V
open Go.Hx
set_option linter.unusedVariables false
set_option maxRecDepth 20000
set_option maxHeartbeats 4000000
/- meniscus/meniscuslaw03.Scale -/
def sf17 (N : Nat) (a0_0 : Int) (a0_1 : Int) : Option (Int × Int) :=
  some (a0_0, a0_1)
/- meniscus/meniscuslaw03.Scales -/
def sf25_L1 (N : Nat) (a0 : (List (Int × Int))) (x3 : ((List (Int × Int)) × Int)) : Option (((List (Int × Int)) × Int) ⊕ (List (Int × Int))) :=
  (bif (decide (x3.2 < ((a0).length : Int))) then (ix a0 x3.2 fun x20 => (bnd (sf17 N x20.1 x20.2) fun v21 => (ck ((x3.1.length + 1) * 16 ≤ 35184372088832 ∧ x3.1.length + 1 ≤ 35184372088832) ((ck (rng (x3.2 + (1 : Int))) (some (.inl ((x3.1 ++ [(v21.1, v21.2)]), (x3.2 + (1 : Int)))))))))) else some (.inr x3.1))
def sf25 (N : Nat) (a0 : (List (Int × Int))) : Option (List (Int × Int)) :=
  bnd (iter (sf25_L1 N a0) N (([] : List (Int × Int)), (0 : Int))) (fun y16 => some y16)
/- meniscus/meniscuslaw03.to -/
def sf19 (N : Nat) (a0_0 : Int) (a0_1 : Int) : Option (Int × Int) :=
  some (a0_0, a0_1)
/- meniscus/meniscuslaw03.Diary -/
def sf38_L1 (N : Nat) (a0 : (List (Int × Int × Int))) (x3 : ((List (Int × Int × Int)) × Int)) : Option (((List (Int × Int × Int)) × Int) ⊕ (List (Int × Int × Int))) :=
  (bif (decide (x3.2 < ((a0).length : Int))) then (ix a0 x3.2 fun x22 => (ix a0 x3.2 fun x23 => (bnd (sf19 N x23.2.1 x23.2.2) fun v24 => (ck ((x3.1.length + 1) * 24 ≤ 35184372088832 ∧ x3.1.length + 1 ≤ 35184372088832) ((ck (rng (x3.2 + (1 : Int))) (some (.inl ((x3.1 ++ [(x22.1, v24.1, v24.2)]), (x3.2 + (1 : Int))))))))))) else some (.inr x3.1))
def sf38 (N : Nat) (a0 : (List (Int × Int × Int))) : Option (List (Int × Int × Int)) :=
  bnd (iter (sf38_L1 N a0) N (([] : List (Int × Int × Int)), (0 : Int))) (fun y18 => some y18)
/- meniscus/point.upTo -/
def sf72 (N : Nat) (a0 : Int) : Option (Int × Int) :=
  (ck (rng (-a0)) (some ((-a0), a0)))
/- (meniscus/point.Range).has -/
def sf73 (N : Nat) (a0_0 : Int) (a0_1 : Int) (a1 : Int) : Option Bool :=
  (bif (decide (a0_0 ≤ a1)) then some (decide (a1 ≤ a0_1)) else some false)
/- (meniscus/point.Scale).valid -/
def sf52 (N : Nat) (a0_0 : Int) (a0_1 : Int) : Option Bool :=
  (bnd (sf72 N (1000 : Int)) fun v4 => (bnd (sf73 N v4.1 v4.2 a0_0) fun v11 => (bif v11 then (bnd (sf73 N v4.1 v4.2 a0_1) fun v15 => (bif v15 then some (!(decide (a0_0 = a0_1))) else some false)) else some false)))
/- meniscus/lists.All[meniscus/point.Scale] -/
def sf97_L1 (N : Nat) (a0 : (List (Int × Int))) (x1 : Int) : Option (Int ⊕ (Unit ⊕ Unit)) :=
  (bif (decide (x1 < ((a0).length : Int))) then (ix a0 x1 fun x20 => (bnd (sf52 N x20.1 x20.2) fun v25 => (bif (!v25) then some (.inr (.inl ())) else (ck (rng (x1 + (1 : Int))) (some (.inl (x1 + (1 : Int)))))))) else some (.inr (.inr ())))
def sf97 (N : Nat) (a0 : (List (Int × Int))) : Option Bool :=
  bnd (iter (sf97_L1 N a0) N (0 : Int)) (sel (fun w15 => some false) (fun w17 => some true))
/- meniscus/point.checkScales -/
def sf74 (N : Nat) (a0 : (List (Int × Int))) : Option Int :=
  (bif (decide ((8 : Int) < ((a0).length : Int))) then some (3 : Int) else (bnd (sf97 N a0) fun v2 => (bif (!v2) then some (1 : Int) else some (0 : Int))))
/- meniscus/point.boundsOfReadings -/
def sf75 (N : Nat) : Option (Int × Int) :=
  (bnd (sf72 N (1000000 : Int)) fun v4 => some (v4.1, v4.2))
/- meniscus/point.boundsOfEntries -/
def sf93 (N : Nat) : Option (Int × Int × Int × Int) :=
  (bnd (sf75 N ) fun v4 => (bnd (sf72 N (100000 : Int)) fun v7 => some (v4.1, v4.2, v7.1, v7.2)))
/- (meniscus/point.Range).liesIn -/
def sf64 (N : Nat) (a0_0 : Int) (a0_1 : Int) (a1_0 : Int) (a1_1 : Int) : Option Bool :=
  (bif (decide (a0_0 ≤ a0_1)) then (bnd (sf73 N a1_0 a1_1 a0_0) fun v8 => (bif v8 then (bnd (sf73 N a1_0 a1_1 a0_1) fun v12 => some v12) else some false)) else some false)
/- (meniscus/point.entryBounds).allow -/
def sf94 (N : Nat) (a0_0 : Int) (a0_1 : Int) (a0_2 : Int) (a0_3 : Int) (a1_0 : Int) (a1_1 : Int) (a1_2 : Int) : Option Bool :=
  (bnd (sf73 N a0_0 a0_1 a1_0) fun v7 => (bif v7 then (bnd (sf64 N a1_1 a1_2 a0_2 a0_3) fun v11 => some v11) else some false))
/- meniscus/lists.All[meniscus/point.Entry] -/
def sf92_L1 (N : Nat) (a0 : (List (Int × Int × Int))) (a1f0_0 : Int) (a1f0_1 : Int) (a1f0_2 : Int) (a1f0_3 : Int) (x1 : Int) : Option (Int ⊕ (Unit ⊕ Unit)) :=
  (bif (decide (x1 < ((a0).length : Int))) then (ix a0 x1 fun x20 => (bnd (sf94 N a1f0_0 a1f0_1 a1f0_2 a1f0_3 x20.1 x20.2.1 x20.2.2) fun v25 => (bif (!v25) then some (.inr (.inl ())) else (ck (rng (x1 + (1 : Int))) (some (.inl (x1 + (1 : Int)))))))) else some (.inr (.inr ())))
def sf92 (N : Nat) (a0 : (List (Int × Int × Int))) (a1f0_0 : Int) (a1f0_1 : Int) (a1f0_2 : Int) (a1f0_3 : Int) : Option Bool :=
  bnd (iter (sf92_L1 N a0 a1f0_0 a1f0_1 a1f0_2 a1f0_3) N (0 : Int)) (sel (fun w15 => some false) (fun w17 => some true))
/- meniscus/point.checkDiary -/
def sf67 (N : Nat) (a0 : (List (Int × Int))) (a1 : (List (Int × Int × Int))) : Option Int :=
  (bif (decide ((12 : Int) < ((a1).length : Int))) then some (3 : Int) else (bnd (sf74 N a0) fun v2 => (bif (!(decide (v2 = (0 : Int)))) then some v2 else (bnd (sf93 N ) fun v6 => (bnd (sf92 N a1 v6.1 v6.2.1 v6.2.2.1 v6.2.2.2) fun v9 => (bif (!v9) then some (2 : Int) else some (0 : Int)))))))
/- (meniscus/point.Scale).upright -/
def sf76 (N : Nat) (a0_0 : Int) (a0_1 : Int) : Option (Int × Int × Bool) :=
  (bif (decide (a0_0 < a0_1)) then some (a0_0, a0_1, false) else (ck (rng (-a0_0)) ((ck (rng (-a0_1)) (some ((-a0_0), (-a0_1), true))))))
/- (meniscus/point.upright).turn -/
def sf98 (N : Nat) (a0_0 : Int) (a0_1 : Int) (a0_2 : Bool) (a1_0 : Int) (a1_1 : Int) : Option (Int × Int) :=
  (bif a0_2 then (ck (rng (-a1_1)) ((ck (rng (-a1_0)) (some ((-a1_1), (-a1_0)))))) else some (a1_0, a1_1))
/- (meniscus/point.upright).halves -/
def sf77 (N : Nat) (a0_0 : Int) (a0_1 : Int) (a0_2 : Bool) (a1_0 : Int) (a1_1 : Int) : Option (Int × Int) :=
  (bnd (sf98 N a0_0 a0_1 a0_2 a1_0 a1_1) fun v10 => (ck (rng (v10.1 - a0_0)) ((ck (rng ((2 : Int) * (v10.1 - a0_0))) ((ck (rng (((2 : Int) * (v10.1 - a0_0)) - (1 : Int))) ((ck (rng (v10.2 - a0_0)) ((ck (rng ((2 : Int) * (v10.2 - a0_0))) ((ck (rng (((2 : Int) * (v10.2 - a0_0)) + (1 : Int))) (some ((((2 : Int) * (v10.1 - a0_0)) - (1 : Int)), (((2 : Int) * (v10.2 - a0_0)) + (1 : Int))))))))))))))))
/- meniscus/point.inward -/
def sf101 (N : Nat) : Option Unit :=
  some ()
/- (meniscus/point.upright).degrees -/
def sf100 (N : Nat) (a0_0 : Int) (a0_1 : Int) (a0_2 : Bool) : Option Int :=
  (ck (rng (a0_1 - a0_0)) (some (a0_1 - a0_0)))
/- (meniscus/point.upright).height -/
def sf82 (N : Nat) (a0_0 : Int) (a0_1 : Int) (a0_2 : Bool) (a1 : Int) : Option (Int × Int) :=
  (bnd (sf100 N a0_0 a0_1 a0_2) fun v7 => (ck (rng ((2 : Int) * v7)) (some (a1, ((2 : Int) * v7)))))
/- (meniscus/point.quotient).down -/
def sf91 (N : Nat) (a0_0 : Int) (a0_1 : Int) : Option Int :=
  (ck (a0_1 ≠ 0 ∧ rng (Int.tdiv a0_0 a0_1)) ((ck (a0_1 ≠ 0) ((bif (decide ((Int.tmod a0_0 a0_1) < (0 : Int))) then (ck (rng ((Int.tdiv a0_0 a0_1) - (1 : Int))) (some ((Int.tdiv a0_0 a0_1) - (1 : Int)))) else some (Int.tdiv a0_0 a0_1))))))
/- (meniscus/point.quotient).up -/
def sf99 (N : Nat) (a0_0 : Int) (a0_1 : Int) : Option Int :=
  (ck (rng (-a0_0)) ((bnd (sf91 N (-a0_0) a0_1) fun v5 => (ck (rng (-v5)) (some (-v5))))))
/- (meniscus/point.ends).of -/
def sf81 (N : Nat) (a1_0 : Int) (a1_1 : Int) (a2_0 : Int) (a2_1 : Int) : Option (Int × Int) :=
  (bnd (sf99 N a1_0 a1_1) fun v13 => (bnd (sf91 N a2_0 a2_1) fun v17 => some (v13, v17)))
/- (meniscus/point.readOn).explained -/
def sf103 (N : Nat) (a0_0 : Int) (a0_1 : Int) (a0_2 : Int) (a0_3 : Int) (a0_4 : Int) : Option Bool :=
  (bnd (sf76 N a0_0 a0_1) fun v4 => (bnd (sf77 N v4.1 v4.2.1 v4.2.2 a0_2 a0_2) fun v11 => (bnd (sf101 N ) fun v18 => (ck (rng ((1000 : Int) * v11.1)) ((bnd (sf82 N v4.1 v4.2.1 v4.2.2 ((1000 : Int) * v11.1)) fun v22 => (ck (rng ((1000 : Int) * v11.2)) ((bnd (sf82 N v4.1 v4.2.1 v4.2.2 ((1000 : Int) * v11.2)) fun v26 => (bnd (sf81 N v22.1 v22.2 v26.1 v26.2) fun v29 => (bif (decide (v29.1 ≤ a0_4)) then some (decide (a0_3 ≤ v29.2)) else some false)))))))))))
/- meniscus/point.explaining -/
def sf68_L1 (N : Nat) (a1 : (List (Int × Int × Int))) (x99 : (Int × Int)) (x104 : (Int × ((Int × Int × Int × Int × Int) → Option Bool))) : Option ((Int × ((Int × Int × Int × Int × Int) → Option Bool)) ⊕ (((Int × Int × Int × Int × Int) → Option Bool) ⊕ ((Int × Int × Int × Int × Int) → Option Bool))) :=
  (bif (decide (x104.1 < ((a1).length : Int))) then (ix a1 x104.1 fun x143 => (bif (!(Option.isSome (x104.2 (x99.1, x99.2, x143.1, x143.2.1, x143.2.2)))) then (bnd (sf103 N x99.1 x99.2 x143.1 x143.2.1 x143.2.2) fun v160 => (bif (!v160) then some (.inr (.inl (upm x104.2 (x99.1, x99.2, x143.1, x143.2.1, x143.2.2) v160))) else (ck (rng (x104.1 + (1 : Int))) (some (.inl ((x104.1 + (1 : Int)), (upm x104.2 (x99.1, x99.2, x143.1, x143.2.1, x143.2.2) v160))))))) else (bif (!(Option.getD (x104.2 (x99.1, x99.2, x143.1, x143.2.1, x143.2.2)) false)) then some (.inr (.inl x104.2)) else (ck (rng (x104.1 + (1 : Int))) (some (.inl ((x104.1 + (1 : Int)), x104.2))))))) else some (.inr (.inr x104.2)))
def sf68_L2 (N : Nat) (a0 : (List (Int × Int))) (a1 : (List (Int × Int × Int))) (x7 : ((List Int) × Int × ((Int × Int × Int × Int × Int) → Option Bool))) : Option (((List Int) × Int × ((Int × Int × Int × Int × Int) → Option Bool)) ⊕ ((List Int) × ((Int × Int × Int × Int × Int) → Option Bool))) :=
  (bif (decide (x7.2.1 < ((a0).length : Int))) then (ix a0 x7.2.1 fun x99 => bnd (iter (sf68_L1 N a1 x99) N ((0 : Int), x7.2.2)) (sel (fun w136 => (ck (rng (x7.2.1 + (1 : Int))) (some (.inl (x7.1, (x7.2.1 + (1 : Int)), w136))))) (fun w139 => (ck ((x7.1.length + 1) * 8 ≤ 35184372088832 ∧ x7.1.length + 1 ≤ 35184372088832) ((ck (rng (x7.2.1 + (1 : Int))) (some (.inl ((x7.1 ++ [x7.2.1]), (x7.2.1 + (1 : Int)), w139))))))))) else some (.inr (x7.1, x7.2.2)))
def sf68 (N : Nat) (a0 : (List (Int × Int))) (a1 : (List (Int × Int × Int))) : Option (List Int) :=
  bnd (iter (sf68_L2 N a0 a1) N (([] : List Int), (0 : Int), ((fun _ => none) : ((Int × Int × Int × Int × Int) → Option Bool)))) (fun y94 => some y94.1)
/- meniscus/point.Kinds -/
def sf37 (N : Nat) (a0 : (List (Int × Int))) (a1 : (List (Int × Int × Int))) : Option ((List Int) × Int) :=
  (bnd (sf67 N a0 a1) fun v1 => (bif (!(decide (v1 = (0 : Int)))) then some ([], v1) else (bnd (sf68 N a0 a1) fun v5 => some (v5, (0 : Int)))))
/- meniscus/point.leastWrong -/
def sf69_L1 (N : Nat) (a1 : (List (Int × Int × Int))) (x116 : (Int × Int)) (x127 : ((List Int) × Int × ((Int × Int × Int × Int × Int) → Option Bool))) : Option (((List Int) × Int × ((Int × Int × Int × Int × Int) → Option Bool)) ⊕ ((List Int) × ((Int × Int × Int × Int × Int) → Option Bool))) :=
  (bif (decide (x127.2.1 < ((a1).length : Int))) then (ix a1 x127.2.1 fun x174 => (bif (!(Option.isSome (x127.2.2 (x116.1, x116.2, x174.1, x174.2.1, x174.2.2)))) then (bnd (sf103 N x116.1 x116.2 x174.1 x174.2.1 x174.2.2) fun v191 => (bif (!v191) then (ck ((x127.1.length + 1) * 8 ≤ 35184372088832 ∧ x127.1.length + 1 ≤ 35184372088832) ((ck (rng (x127.2.1 + (1 : Int))) (some (.inl ((x127.1 ++ [x127.2.1]), (x127.2.1 + (1 : Int)), (upm x127.2.2 (x116.1, x116.2, x174.1, x174.2.1, x174.2.2) v191))))))) else (ck (rng (x127.2.1 + (1 : Int))) (some (.inl (x127.1, (x127.2.1 + (1 : Int)), (upm x127.2.2 (x116.1, x116.2, x174.1, x174.2.1, x174.2.2) v191))))))) else (bif (!(Option.getD (x127.2.2 (x116.1, x116.2, x174.1, x174.2.1, x174.2.2)) false)) then (ck ((x127.1.length + 1) * 8 ≤ 35184372088832 ∧ x127.1.length + 1 ≤ 35184372088832) ((ck (rng (x127.2.1 + (1 : Int))) (some (.inl ((x127.1 ++ [x127.2.1]), (x127.2.1 + (1 : Int)), x127.2.2)))))) else (ck (rng (x127.2.1 + (1 : Int))) (some (.inl (x127.1, (x127.2.1 + (1 : Int)), x127.2.2))))))) else some (.inr (x127.1, x127.2.2)))
def sf69_L2 (N : Nat) (a0 : (List (Int × Int))) (a1 : (List (Int × Int × Int))) (x8 : (Int × ((Int × Int × Int × Int × Int) → Option Bool) × (Nat → Int))) : Option ((Int × ((Int × Int × Int × Int × Int) → Option Bool) × (Nat → Int)) ⊕ (((Int × Int × Int × Int × Int) → Option Bool) × (Nat → Int))) :=
  (bif (decide (x8.1 < ((a0).length : Int))) then (ix a0 x8.1 fun x116 => bnd (iter (sf69_L1 N a1 x116) N (([] : List Int), (0 : Int), x8.2.1)) (fun y169 => (ck (0 ≤ x8.1 ∧ x8.1 < 8) ((ck (rng (x8.1 + (1 : Int))) (some (.inl ((x8.1 + (1 : Int)), y169.2, (ups x8.2.2 (Int.toNat x8.1) ((y169.1).length : Int)))))))))) else some (.inr (x8.2.1, x8.2.2)))
def sf69_L3 (a0 : (List (Int × Int))) (y112 : (((Int × Int × Int × Int × Int) → Option Bool) × (Nat → Int))) (x218 : (Int × Int)) : Option ((Int × Int) ⊕ Int) :=
  (bif (decide (x218.2 < ((a0).length : Int))) then (ck (0 ≤ x218.2 ∧ x218.2 < 8) ((ck (0 ≤ x218.1 ∧ x218.1 < 8) ((bif (decide ((y112.2 (Int.toNat x218.2)) < (y112.2 (Int.toNat x218.1)))) then (ck (rng (x218.2 + (1 : Int))) (some (.inl (x218.2, (x218.2 + (1 : Int)))))) else (ck (rng (x218.2 + (1 : Int))) (some (.inl (x218.1, (x218.2 + (1 : Int))))))))))) else some (.inr x218.1))
def sf69_L4 (N : Nat) (a1 : (List (Int × Int × Int))) (x240 : (Int × Int)) (x247 : ((List Int) × Int × ((Int × Int × Int × Int × Int) → Option Bool))) : Option (((List Int) × Int × ((Int × Int × Int × Int × Int) → Option Bool)) ⊕ ((List Int) × ((Int × Int × Int × Int × Int) → Option Bool))) :=
  (bif (decide (x247.2.1 < ((a1).length : Int))) then (ix a1 x247.2.1 fun x295 => (bif (!(Option.isSome (x247.2.2 (x240.1, x240.2, x295.1, x295.2.1, x295.2.2)))) then (bnd (sf103 N x240.1 x240.2 x295.1 x295.2.1 x295.2.2) fun v312 => (bif (!v312) then (ck ((x247.1.length + 1) * 8 ≤ 35184372088832 ∧ x247.1.length + 1 ≤ 35184372088832) ((ck (rng (x247.2.1 + (1 : Int))) (some (.inl ((x247.1 ++ [x247.2.1]), (x247.2.1 + (1 : Int)), (upm x247.2.2 (x240.1, x240.2, x295.1, x295.2.1, x295.2.2) v312))))))) else (ck (rng (x247.2.1 + (1 : Int))) (some (.inl (x247.1, (x247.2.1 + (1 : Int)), (upm x247.2.2 (x240.1, x240.2, x295.1, x295.2.1, x295.2.2) v312))))))) else (bif (!(Option.getD (x247.2.2 (x240.1, x240.2, x295.1, x295.2.1, x295.2.2)) false)) then (ck ((x247.1.length + 1) * 8 ≤ 35184372088832 ∧ x247.1.length + 1 ≤ 35184372088832) ((ck (rng (x247.2.1 + (1 : Int))) (some (.inl ((x247.1 ++ [x247.2.1]), (x247.2.1 + (1 : Int)), x247.2.2)))))) else (ck (rng (x247.2.1 + (1 : Int))) (some (.inl (x247.1, (x247.2.1 + (1 : Int)), x247.2.2))))))) else some (.inr (x247.1, x247.2.2)))
def sf69 (N : Nat) (a0 : (List (Int × Int))) (a1 : (List (Int × Int × Int))) : Option (Int × (List Int)) :=
  bnd (iter (sf69_L2 N a0 a1) N ((0 : Int), ((fun _ => none) : ((Int × Int × Int × Int × Int) → Option Bool)), (fun _ => 0))) (fun y112 => bnd (iter (sf69_L3 a0 y112) N ((0 : Int), (0 : Int))) (fun y228 => (ix a0 y228 fun x240 => bnd (iter (sf69_L4 N a1 x240) N (([] : List Int), (0 : Int), y112.1)) (fun y290 => some (y228, y290.1)))))
/- meniscus/point.Wrong -/
def sf39 (N : Nat) (a0 : (List (Int × Int))) (a1 : (List (Int × Int × Int))) : Option (Int × (List Int) × Int) :=
  (bnd (sf67 N a0 a1) fun v1 => (bif (!(decide (v1 = (0 : Int)))) then some ((0 : Int), [], v1) else (bif (decide (((a0).length : Int) = (0 : Int))) then some ((0 : Int), [], (7 : Int)) else (bnd (sf69 N a0 a1) fun v6 => some (v6.1, v6.2, (0 : Int))))))
/- meniscus/meniscusref03.In -/
def sf55 (N : Nat) (a0 : Int) (a1 : Int) (a2 : Int) : Option Bool :=
  (bif (decide (a1 ≤ a0)) then some (decide (a0 ≤ a2)) else some false)
/- meniscus/meniscusref03.IsScale -/
def sf20 (N : Nat) (a0_0 : Int) (a0_1 : Int) : Option Bool :=
  (bnd (sf55 N a0_0 (-1000 : Int) (1000 : Int)) fun v4 => (bif v4 then (bnd (sf55 N a0_1 (-1000 : Int) (1000 : Int)) fun v8 => (bif v8 then some (!(decide (a0_0 = a0_1))) else some false)) else some false))
/- meniscus/meniscusref03.Span -/
def sf34 (N : Nat) (a0_0 : Int) (a0_1 : Int) (a1 : Int) (a2 : Int) : Option Bool :=
  (bnd (sf55 N a0_0 a1 a0_1) fun v4 => (bif v4 then some (decide (a0_1 ≤ a2)) else some false))
/- meniscus/meniscusref03.AreReadings -/
def sf29 (N : Nat) (a0_0 : Int) (a0_1 : Int) : Option Bool :=
  (bnd (sf34 N a0_0 a0_1 (-1000000 : Int) (1000000 : Int)) fun v4 => some v4)
/- meniscus/meniscuslaw03.scaled -/
def sf21_L1 (N : Nat) (a0 : (List (Int × Int))) (x5 : Int) : Option (Int ⊕ (Int ⊕ Unit)) :=
  (bif (decide (x5 < ((a0).length : Int))) then (ix a0 x5 fun x20 => (bnd (sf20 N x20.1 x20.2) fun v21 => (bif (!v21) then some (.inr (.inl (1 : Int))) else (ck (rng (x5 + (1 : Int))) (some (.inl (x5 + (1 : Int)))))))) else some (.inr (.inr ())))
def sf21 (N : Nat) (a0 : (List (Int × Int))) (a1_0 : Int) (a1_1 : Int) : Option Int :=
  (bif (decide ((8 : Int) < ((a0).length : Int))) then some (3 : Int) else bnd (iter (sf21_L1 N a0) N (0 : Int)) (sel (fun w15 => some w15) (fun w17 => (bnd (sf29 N a1_0 a1_1) fun v30 => (bif (!v30) then some (2 : Int) else some (0 : Int))))))
/- meniscus/meniscusref03.IsEntry -/
def sf70 (N : Nat) (a0_0 : Int) (a0_1 : Int) (a0_2 : Int) : Option Bool :=
  (bnd (sf55 N a0_0 (-1000000 : Int) (1000000 : Int)) fun v4 => (bif v4 then (bnd (sf34 N a0_1 a0_2 (-100000 : Int) (100000 : Int)) fun v8 => some v8) else some false))
/- meniscus/meniscuslaw03.diaried -/
def sf40_L1 (N : Nat) (a1 : (List (Int × Int × Int))) (x26 : Int) : Option (Int ⊕ (Int ⊕ Unit)) :=
  (bif (decide (x26 < ((a1).length : Int))) then (ix a1 x26 fun x42 => (bnd (sf70 N x42.1 x42.2.1 x42.2.2) fun v43 => (bif (!v43) then some (.inr (.inl (2 : Int))) else (ck (rng (x26 + (1 : Int))) (some (.inl (x26 + (1 : Int)))))))) else some (.inr (.inr ())))
def sf40 (N : Nat) (a0 : (List (Int × Int))) (a1 : (List (Int × Int × Int))) : Option Int :=
  bnd (bnd ((bif (decide ((8 : Int) < ((a0).length : Int))) then some true else some (decide ((12 : Int) < ((a1).length : Int)))) : Option (Bool)) (fun y16 => (bif y16 then some (.inl (3 : Int)) else some (.inr ()))) : Option (Int ⊕ Unit)) (sel (fun w11 => some w11) (fun w13 => (bnd (sf21 N a0 (0 : Int) (0 : Int)) fun v22 => (bif (!(decide (v22 = (0 : Int)))) then some v22 else bnd (iter (sf40_L1 N a1) N (0 : Int)) (sel (fun w37 => some w37) (fun w39 => some (0 : Int)))))))
/- meniscus/meniscusref03.Above -/
def sf83 (N : Nat) (a0_0 : Int) (a0_1 : Int) (a1 : Int) : Option Int :=
  (bif (decide (a0_0 < a0_1)) then (ck (rng ((2 : Int) * a0_0)) ((ck (rng (a1 - ((2 : Int) * a0_0))) (some (a1 - ((2 : Int) * a0_0)))))) else (ck (rng ((2 : Int) * a0_0)) ((ck (rng (((2 : Int) * a0_0) - a1)) (some (((2 : Int) * a0_0) - a1))))))
/- meniscus/meniscusref03.Allowed -/
def sf56 (N : Nat) (a0_0 : Int) (a0_1 : Int) (a1_0 : Int) (a1_1 : Int) : Option (Int × Int) :=
  (ck (rng ((2 : Int) * a1_0)) ((ck (rng (((2 : Int) * a1_0) - (1 : Int))) ((bnd (sf83 N a0_0 a0_1 (((2 : Int) * a1_0) - (1 : Int))) fun v12 => (ck (rng ((2 : Int) * a1_1)) ((ck (rng (((2 : Int) * a1_1) + (1 : Int))) ((bnd (sf83 N a0_0 a0_1 (((2 : Int) * a1_1) + (1 : Int))) fun v18 => some ((min v12 v18), (max v12 v18))))))))))))
/- meniscus/meniscusref03.Size -/
def sf58 (N : Nat) (a0_0 : Int) (a0_1 : Int) : Option Int :=
  (bif (decide (a0_0 < a0_1)) then (ck (rng (a0_1 - a0_0)) ((ck (rng ((2 : Int) * (a0_1 - a0_0))) (some ((2 : Int) * (a0_1 - a0_0)))))) else (ck (rng (a0_0 - a0_1)) ((ck (rng ((2 : Int) * (a0_0 - a0_1))) (some ((2 : Int) * (a0_0 - a0_1)))))))
/- meniscus/meniscusref03.Explains -/
def sf71 (N : Nat) (a0_0 : Int) (a0_1 : Int) (a1_0 : Int) (a1_1 : Int) (a1_2 : Int) : Option Bool :=
  (bnd (sf56 N a0_0 a0_1 a1_0 a1_0) fun v7 => (ck (rng ((1000 : Int) * v7.1)) ((bnd (sf58 N a0_0 a0_1) fun v15 => (ck (rng (a1_2 * v15)) ((bif (decide (((1000 : Int) * v7.1) ≤ (a1_2 * v15))) then (ck (rng ((1000 : Int) * v7.2)) ((bnd (sf58 N a0_0 a0_1) fun v21 => (ck (rng (a1_1 * v21)) (some (decide ((a1_1 * v21) ≤ ((1000 : Int) * v7.2)))))))) else some false)))))))
/- meniscus/meniscusref03.Wrong -/
def sf41_L1 (N : Nat) (a0_0 : Int) (a0_1 : Int) (a1 : (List (Int × Int × Int))) (x6 : ((List Int) × Int)) : Option (((List Int) × Int) ⊕ (List Int)) :=
  (bif (decide (x6.2 < ((a1).length : Int))) then (ix a1 x6.2 fun x26 => (bnd (sf71 N a0_0 a0_1 x26.1 x26.2.1 x26.2.2) fun v28 => (bif (!v28) then (ck ((x6.1.length + 1) * 8 ≤ 35184372088832 ∧ x6.1.length + 1 ≤ 35184372088832) ((ck (rng (x6.2 + (1 : Int))) (some (.inl ((x6.1 ++ [x6.2]), (x6.2 + (1 : Int)))))))) else (ck (rng (x6.2 + (1 : Int))) (some (.inl (x6.1, (x6.2 + (1 : Int))))))))) else some (.inr x6.1))
def sf41 (N : Nat) (a0_0 : Int) (a0_1 : Int) (a1 : (List (Int × Int × Int))) : Option (List Int) :=
  bnd (iter (sf41_L1 N a0_0 a0_1 a1) N (([] : List Int), (0 : Int))) (fun y22 => some y22)
/- meniscus/meniscuslaw03.ints -/
def sf42_L1 (a0 : (List Int)) (a1 : (List Int)) (x2 : Int) : Option (Int ⊕ (Unit ⊕ Unit)) :=
  (bif (decide (x2 < ((a0).length : Int))) then (ix a0 x2 fun x16 => (ix a1 x2 fun x17 => (bif (!(decide (x16 = x17))) then some (.inr (.inl ())) else (ck (rng (x2 + (1 : Int))) (some (.inl (x2 + (1 : Int)))))))) else some (.inr (.inr ())))
def sf42 (N : Nat) (a0 : (List Int)) (a1 : (List Int)) : Option Bool :=
  (bif (!(decide (((a0).length : Int) = ((a1).length : Int)))) then some false else bnd (iter (sf42_L1 a0 a1) N (0 : Int)) (sel (fun w11 => some false) (fun w13 => some true)))
/- meniscus/meniscuslaw03.PointKinds -/
def sf6_L1 (N : Nat) (a0 : (List (Int × Int))) (a1 : (List (Int × Int × Int))) (x81 : ((List Int) × Int × Int)) : Option (((List Int) × Int × Int) ⊕ ((List Int) × Int)) :=
  (bif (decide (x81.2.2 < ((a0).length : Int))) then (ix a0 x81.2.2 fun x151 => (bnd (sf41 N x151.1 x151.2 a1) fun v152 => bnd ((bif (decide (((v152).length : Int) = (0 : Int))) then (ck ((x81.1.length + 1) * 8 ≤ 35184372088832 ∧ x81.1.length + 1 ≤ 35184372088832) (some (x81.1 ++ [x81.2.2]))) else some x81.1) : Option ((List Int))) (fun y169 => (ix a0 x81.2.1 fun x188 => (bnd (sf41 N x188.1 x188.2 a1) fun v189 => (bif (decide (((v152).length : Int) < ((v189).length : Int))) then (ck (rng (x81.2.2 + (1 : Int))) (some (.inl (y169, x81.2.2, (x81.2.2 + (1 : Int)))))) else (ck (rng (x81.2.2 + (1 : Int))) (some (.inl (y169, x81.2.1, (x81.2.2 + (1 : Int)))))))))))) else some (.inr (x81.1, x81.2.1)))
/- meniscus/meniscuslaw03.PointDiaries -/
def sf15_L1 (v70 : ((List Int) × Int)) (v97 : ((List Int) × Int)) (x500 : Int) (x601 : (Bool × Int)) : Option ((Bool × Int) ⊕ Bool) :=
  (bif (decide (x601.2 < ((v70.1).length : Int))) then (bif x601.1 then (ck (rng (x601.2 + (1 : Int))) (some (.inl (true, (x601.2 + (1 : Int)))))) else (ix v70.1 x601.2 fun x640 => (ix v97.1 x500 fun x641 => (ck (rng (x601.2 + (1 : Int))) (some (.inl ((decide (x640 = x641)), (x601.2 + (1 : Int))))))))) else some (.inr x601.1))
def sf15_L2 (N : Nat) (v70 : ((List Int) × Int)) (v97 : ((List Int) × Int)) (x500 : Int) : Option (Int ⊕ (Unit ⊕ Unit)) :=
  (bif (decide (x500 < ((v97.1).length : Int))) then bnd (iter (sf15_L1 v70 v97 x500) N (false, (0 : Int))) (fun y634 => (bif (!y634) then some (.inr (.inl ())) else (ck (rng (x500 + (1 : Int))) (some (.inl (x500 + (1 : Int))))))) else some (.inr (.inr ())))
def sf15_L3 (v249 : (Int × (List Int) × Int)) (x721 : ((List (Int × Int × Int)) × Int)) (x824 : (Bool × Int)) : Option ((Bool × Int) ⊕ Bool) :=
  (bif (decide (x824.2 < ((v249.2.1).length : Int))) then (bif x824.1 then (ck (rng (x824.2 + (1 : Int))) (some (.inl (true, (x824.2 + (1 : Int)))))) else (ix v249.2.1 x824.2 fun x860 => (ck (rng (x824.2 + (1 : Int))) (some (.inl ((decide (x860 = x721.2)), (x824.2 + (1 : Int)))))))) else some (.inr x824.1))
def sf15_L4 (N : Nat) (a1 : (List (Int × Int × Int))) (a2_0 : Int) (a2_1 : Int) (a2_2 : Int) (v249 : (Int × (List Int) × Int)) (x721 : ((List (Int × Int × Int)) × Int)) : Option (((List (Int × Int × Int)) × Int) ⊕ (List (Int × Int × Int))) :=
  (bif (decide (x721.2 < (((a1 ++ [(a2_0, a2_1, a2_2)])).length : Int))) then bnd (iter (sf15_L3 v249 x721) N (false, (0 : Int))) (fun y855 => (bif (!y855) then (ix (a1 ++ [(a2_0, a2_1, a2_2)]) x721.2 fun x889 => (ck ((x721.1.length + 1) * 24 ≤ 35184372088832 ∧ x721.1.length + 1 ≤ 35184372088832) ((ck (rng (x721.2 + (1 : Int))) (some (.inl ((x721.1 ++ [(x889.1, x889.2.1, x889.2.2)]), (x721.2 + (1 : Int))))))))) else (ck (rng (x721.2 + (1 : Int))) (some (.inl (x721.1, (x721.2 + (1 : Int)))))))) else some (.inr x721.1))
def sf15 (N : Nat) (a0 : (List (Int × Int))) (a1 : (List (Int × Int × Int))) (a2_0 : Int) (a2_1 : Int) (a2_2 : Int) (a3 : Int) : Option Bool :=
  (ck ((([] : List (Int × Int × Int)).length + a1.length) * 24 ≤ 35184372088832 ∧ ([] : List (Int × Int × Int)).length + a1.length ≤ 35184372088832) ((ck ((a1.length + 1) * 24 ≤ 35184372088832 ∧ a1.length + 1 ≤ 35184372088832) (bnd (bnd ((bif (decide (((a0).length : Int) = (0 : Int))) then some true else (bif (decide ((11 : Int) < ((a1).length : Int))) then some true else (bnd (sf40 N a0 (a1 ++ [(a2_0, a2_1, a2_2)])) fun v41 => some (!(decide (v41 = (0 : Int))))))) : Option (Bool)) (fun y35 => (bif y35 then some (.inl true) else some (.inr ()))) : Option (Bool ⊕ Unit)) (sel (fun w26 => some w26) (fun w28 => (ck (IntKind.wrap .i64 a3 = a3) ((ck ((((a1 ++ [(a2_0, a2_1, a2_2)])).length : Int) ≠ 0) ((ck (0 ≤ (Int.tmod a3 (((a1 ++ [(a2_0, a2_1, a2_2)])).length : Int)) ∧ 0 ≤ (((a1 ++ [(a2_0, a2_1, a2_2)])).length : Int) ∧ ((Int.toNat (Int.tmod a3 (((a1 ++ [(a2_0, a2_1, a2_2)])).length : Int))) ≤ (a1 ++ [(a2_0, a2_1, a2_2)]).length ∧ (a1 ++ [(a2_0, a2_1, a2_2)]).length ≤ (a1 ++ [(a2_0, a2_1, a2_2)]).length)) ((ck ((([] : List (Int × Int × Int)).length + (((a1 ++ [(a2_0, a2_1, a2_2)]).drop (Int.toNat (Int.tmod a3 (((a1 ++ [(a2_0, a2_1, a2_2)])).length : Int)))).take ((a1 ++ [(a2_0, a2_1, a2_2)]).length - (Int.toNat (Int.tmod a3 (((a1 ++ [(a2_0, a2_1, a2_2)])).length : Int))))).length) * 24 ≤ 35184372088832 ∧ ([] : List (Int × Int × Int)).length + (((a1 ++ [(a2_0, a2_1, a2_2)]).drop (Int.toNat (Int.tmod a3 (((a1 ++ [(a2_0, a2_1, a2_2)])).length : Int)))).take ((a1 ++ [(a2_0, a2_1, a2_2)]).length - (Int.toNat (Int.tmod a3 (((a1 ++ [(a2_0, a2_1, a2_2)])).length : Int))))).length ≤ 35184372088832) ((ck (0 ≤ 0 ∧ 0 ≤ (Int.tmod a3 (((a1 ++ [(a2_0, a2_1, a2_2)])).length : Int)) ∧ (0 ≤ (Int.toNat (Int.tmod a3 (((a1 ++ [(a2_0, a2_1, a2_2)])).length : Int))) ∧ (Int.toNat (Int.tmod a3 (((a1 ++ [(a2_0, a2_1, a2_2)])).length : Int))) ≤ (a1 ++ [(a2_0, a2_1, a2_2)]).length)) ((ck (((((a1 ++ [(a2_0, a2_1, a2_2)]).drop (Int.toNat (Int.tmod a3 (((a1 ++ [(a2_0, a2_1, a2_2)])).length : Int)))).take ((a1 ++ [(a2_0, a2_1, a2_2)]).length - (Int.toNat (Int.tmod a3 (((a1 ++ [(a2_0, a2_1, a2_2)])).length : Int))))).length + (((a1 ++ [(a2_0, a2_1, a2_2)]).drop 0).take ((Int.toNat (Int.tmod a3 (((a1 ++ [(a2_0, a2_1, a2_2)])).length : Int))) - 0)).length) * 24 ≤ 35184372088832 ∧ (((a1 ++ [(a2_0, a2_1, a2_2)]).drop (Int.toNat (Int.tmod a3 (((a1 ++ [(a2_0, a2_1, a2_2)])).length : Int)))).take ((a1 ++ [(a2_0, a2_1, a2_2)]).length - (Int.toNat (Int.tmod a3 (((a1 ++ [(a2_0, a2_1, a2_2)])).length : Int))))).length + (((a1 ++ [(a2_0, a2_1, a2_2)]).drop 0).take ((Int.toNat (Int.tmod a3 (((a1 ++ [(a2_0, a2_1, a2_2)])).length : Int))) - 0)).length ≤ 35184372088832) ((bnd (sf25 N a0) fun v57 => (bnd (sf38 N a1) fun v63 => (bnd (sf37 N v57 v63) fun v70 => (bnd (sf25 N a0) fun v78 => (bnd (sf38 N (a1 ++ [(a2_0, a2_1, a2_2)])) fun v87 => (bnd (sf37 N v78 v87) fun v97 => (bnd (sf25 N a0) fun v108 => (bnd (sf38 N ((((a1 ++ [(a2_0, a2_1, a2_2)]).drop (Int.toNat (Int.tmod a3 (((a1 ++ [(a2_0, a2_1, a2_2)])).length : Int)))).take ((a1 ++ [(a2_0, a2_1, a2_2)]).length - (Int.toNat (Int.tmod a3 (((a1 ++ [(a2_0, a2_1, a2_2)])).length : Int))))) ++ (((a1 ++ [(a2_0, a2_1, a2_2)]).drop 0).take ((Int.toNat (Int.tmod a3 (((a1 ++ [(a2_0, a2_1, a2_2)])).length : Int))) - 0)))) fun v120 => (bnd (sf37 N v108 v120) fun v144 => (bnd (sf25 N a0) fun v159 => (bnd (sf38 N a1) fun v175 => (bnd (sf39 N v159 v175) fun v192 => (bnd (sf25 N a0) fun v210 => (bnd (sf38 N (a1 ++ [(a2_0, a2_1, a2_2)])) fun v229 => (bnd (sf39 N v210 v229) fun v249 => (bnd (sf25 N a0) fun v270 => (bnd (sf38 N ((((a1 ++ [(a2_0, a2_1, a2_2)]).drop (Int.toNat (Int.tmod a3 (((a1 ++ [(a2_0, a2_1, a2_2)])).length : Int)))).take ((a1 ++ [(a2_0, a2_1, a2_2)]).length - (Int.toNat (Int.tmod a3 (((a1 ++ [(a2_0, a2_1, a2_2)])).length : Int))))) ++ (((a1 ++ [(a2_0, a2_1, a2_2)]).drop 0).take ((Int.toNat (Int.tmod a3 (((a1 ++ [(a2_0, a2_1, a2_2)])).length : Int))) - 0)))) fun v292 => (bnd (sf39 N v270 v292) fun v315 => bnd (bnd ((bif (!(decide (v70.2 = (0 : Int)))) then some true else (bif (!(decide (v97.2 = (0 : Int)))) then some true else (bif (!(decide (v144.2 = (0 : Int)))) then some true else (bif (!(decide (v192.2.2 = (0 : Int)))) then some true else (bif (!(decide (v249.2.2 = (0 : Int)))) then some true else (bif (!(decide (v315.2.2 = (0 : Int)))) then some true else (bnd (sf42 N v97.1 v144.1) fun v427 => (bif (!v427) then some true else (bif (decide (((v249.2.1).length : Int) < ((v192.2.1).length : Int))) then some true else (bif (!(decide (v249.1 = v315.1))) then some true else (bif (!(decide (((v249.2.1).length : Int) = ((v315.2.1).length : Int)))) then some true else (bif (decide (v249.1 < (0 : Int))) then some true else (bif (decide (((a0).length : Int) ≤ v249.1)) then some true else some (!((decide ((0 : Int) < ((v97.1).length : Int))) == (decide (((v249.2.1).length : Int) = (0 : Int)))))))))))))))))) : Option (Bool)) (fun y417 => (bif y417 then some (.inl ()) else some (.inr ()))) : Option (Unit ⊕ Unit)) (sel (fun w398 => some false) (fun w400 => bnd (iter (sf15_L2 N v70 v97) N (0 : Int)) (sel (fun w596 => some false) (fun w598 => bnd (iter (sf15_L4 N a1 a2_0 a2_1 a2_2 v249) N (([] : List (Int × Int × Int)), (0 : Int))) (fun y820 => (ix a0 v249.1 fun x921 => (bnd (sf17 N x921.1 x921.2) fun v922 => (bnd (sf38 N y820) fun v928 => (bnd (sf37 N ([(v922.1, v922.2)]) v928) fun v983 => (bif (decide (v983.2 = (0 : Int))) then (ck (rng (((y820).length : Int) + ((v249.2.1).length : Int))) ((bif (decide ((((y820).length : Int) + ((v249.2.1).length : Int)) = (((a1 ++ [(a2_0, a2_1, a2_2)])).length : Int))) then (bnd (sf42 N v983.1 ([(0 : Int)])) fun v1048 => (bif v1048 then some true else some false)) else some false))) else some false))))))))))))))))))))))))))))))))))))))))))))))
end Go.Hx.V

/- Functions of the program come to that. -/
namespace Go.Hx.V
open Go.Hx
set_option linter.unusedVariables false
set_option maxRecDepth 20000
set_option maxHeartbeats 4000000
attribute [local irreducible] W R C thenH inBlockH Tr.get Tr.set lo ck bnd ix iter
theorem ct17 (N : Nat) {a0_0 : Int} {a0_1 : Int} {r : (Int × Int)} (hF : sf17 N a0_0 a0_1 = some r) {fl : Nat} {h0 : Tr HBlk} {n0 : Nat} {F0 : PH} (hd : D h0 n0) (hs : F0.sub h0) : C LW fl 17 [(.agg [(i64 a0_0), (i64 a0_1)])] ⟨h0, n0⟩ (KS (.agg [(i64 r.1), (i64 r.2)]) n0 h0) := by
  unfold sf17 at hF
  refine in_cT hd hs lw17 rfl rfl (by rfl) (fun st T hT => ?_)
  have hfl : n0 ≤ n0 := Nat.le_refl n0
  have t0 := hT 0 _ rfl
  dsimp only [L17]
  refine w_seq ?_; refine w_reg ?_; refine v_box st (fun b1 h2 n3 st => ?_); refine v_alloc st (fun b4 h5 n6 st => ?_); refine r_nil ?_; refine th_n ?_; refine w_seq ?_; refine w_reg ?_; refine v_fa ?_; refine v_ld1 (st.at (i := 0) rfl).2.2 rfl ?_; refine v_fa ?_; refine v_ld1 (st.at (i := 0) rfl).2.2 rfl ?_; refine v_build (cs := [(i64 a0_0), (i64 a0_1)]) rfl ?_; refine v_st (cs' := [(i64 a0_0), (i64 a0_1)]) st 1 rfl rfl rfl rfl hfl (fun h7 st => ?_); refine r_nil ?_; refine th_n ?_; refine w_ret ?_; obtain rfl := inj hF
  exact end_s st (Res.c gA (st.at (i := 1) rfl).2.2 (show takeN _ _ = some [(i64 a0_0), (i64 a0_1)] from rfl) Res.nil) rfl rfl
theorem ct19 (N : Nat) {a0_0 : Int} {a0_1 : Int} {r : (Int × Int)} (hF : sf19 N a0_0 a0_1 = some r) {fl : Nat} {h0 : Tr HBlk} {n0 : Nat} {F0 : PH} (hd : D h0 n0) (hs : F0.sub h0) : C LW fl 19 [(.agg [(i64 a0_0), (i64 a0_1)])] ⟨h0, n0⟩ (KS (.agg [(i64 r.1), (i64 r.2)]) n0 h0) := by
  unfold sf19 at hF
  refine in_cT hd hs lw19 rfl rfl (by rfl) (fun st T hT => ?_)
  have hfl : n0 ≤ n0 := Nat.le_refl n0
  have t0 := hT 0 _ rfl
  dsimp only [L19]
  refine w_seq ?_; refine w_reg ?_; refine v_box st (fun b1 h2 n3 st => ?_); refine v_alloc st (fun b4 h5 n6 st => ?_); refine r_nil ?_; refine th_n ?_; refine w_seq ?_; refine w_reg ?_; refine v_fa ?_; refine v_ld1 (st.at (i := 0) rfl).2.2 rfl ?_; refine v_fa ?_; refine v_ld1 (st.at (i := 0) rfl).2.2 rfl ?_; refine v_build (cs := [(i64 a0_0), (i64 a0_1)]) rfl ?_; refine v_st (cs' := [(i64 a0_0), (i64 a0_1)]) st 1 rfl rfl rfl rfl hfl (fun h7 st => ?_); refine r_nil ?_; refine th_n ?_; refine w_ret ?_; obtain rfl := inj hF
  exact end_s st (Res.c gA (st.at (i := 1) rfl).2.2 (show takeN _ _ = some [(i64 a0_0), (i64 a0_1)] from rfl) Res.nil) rfl rfl
theorem ct72 (N : Nat) {a0 : Int} {r : (Int × Int)} (hF : sf72 N a0 = some r) {fl : Nat} {h0 : Tr HBlk} {n0 : Nat} {F0 : PH} (hd : D h0 n0) (hs : F0.sub h0) : C LW fl 72 [(i64 a0)] ⟨h0, n0⟩ (KS (.agg [(i64 r.1), (i64 r.2)]) n0 h0) := by
  unfold sf72 at hF
  refine in_cT hd hs lw72 rfl rfl (by rfl) (fun st T hT => ?_)
  have hfl : n0 ≤ n0 := Nat.le_refl n0
  have t0 := hT 0 _ rfl
  dsimp only [L72]
  refine w_seq ?_; refine w_reg ?_; refine v_alloc st (fun b1 h2 n3 st => ?_); refine r_nil ?_; refine th_n ?_; refine w_seq ?_; refine w_reg ?_; refine v_move ?_; obtain ⟨q4, hF⟩ := ck_some hF; refine v_neg q4 ?_; refine v_move ?_; refine v_build (cs := [(i64 (-a0)), (i64 a0)]) rfl ?_; refine v_st (cs' := [(i64 (-a0)), (i64 a0)]) st 0 rfl rfl rfl rfl hfl (fun h5 st => ?_); refine r_nil ?_; refine th_n ?_; refine w_ret ?_; obtain rfl := inj hF
  exact end_s st (Res.c gA (st.at (i := 0) rfl).2.2 (show takeN _ _ = some [(i64 (-a0)), (i64 a0)] from rfl) Res.nil) rfl rfl
theorem ct73 (N : Nat) {a0_0 : Int} {a0_1 : Int} {a1 : Int} {r : Bool} (hF : sf73 N a0_0 a0_1 a1 = some r) {fl : Nat} {h0 : Tr HBlk} {n0 : Nat} {F0 : PH} (hd : D h0 n0) (hs : F0.sub h0) : C LW fl 73 [(.agg [(i64 a0_0), (i64 a0_1)]), (i64 a1)] ⟨h0, n0⟩ (KS (.bool r) n0 h0) := by
  unfold sf73 at hF
  refine in_cT hd hs lw73 rfl rfl (by rfl) (fun st T hT => ?_)
  have hfl : n0 ≤ n0 := Nat.le_refl n0
  have t0 := hT 0 _ rfl
  have t1 := hT 1 _ rfl
  dsimp only [L73]
  refine w_seq ?_; refine w_reg ?_; refine v_box st (fun b1 h2 n3 st => ?_); refine v_move ?_; refine r_nil ?_; refine th_n ?_; refine w_seq ?_; refine w_reg ?_; refine v_fa ?_; refine v_ld1 (st.at (i := 0) rfl).2.2 rfl ?_; refine v_move ?_; refine v_leq ?_; refine v_move ?_
  rcases Bool.eq_false_or_eq_true (decide (a0_0 ≤ a1)) with hb4 | hb4
  · have hF := bif_t hb4 hF; refine g_take hb4 (v_move ?_); refine g_take hb4 (v_fa ?_); refine g_take hb4 (v_ld1 (st.at (i := 0) rfl).2.2 rfl ?_); refine g_take hb4 (v_leq ?_); refine v_pick hb4 ?_; refine v_move ?_; refine r_nil ?_; refine th_n ?_; refine w_ret ?_; obtain rfl := inj hF
    exact end_s st (Res.t gA Res.nil) rfl rfl
  · have hF := bif_f hb4 hF; refine g_skip hb4 ?_; refine g_skip hb4 ?_; refine g_skip hb4 ?_; refine g_skip hb4 ?_; refine v_pick' hb4 ?_; refine v_move ?_; refine r_nil ?_; refine th_n ?_; refine w_ret ?_; obtain rfl := inj hF
    exact end_s st (Res.t gA Res.nil) rfl rfl
theorem ct76 (N : Nat) {a0_0 : Int} {a0_1 : Int} {r : (Int × Int × Bool)} (hF : sf76 N a0_0 a0_1 = some r) {fl : Nat} {h0 : Tr HBlk} {n0 : Nat} {F0 : PH} (hd : D h0 n0) (hs : F0.sub h0) : C LW fl 76 [(.agg [(i64 a0_0), (i64 a0_1)])] ⟨h0, n0⟩ (KS (.agg [(i64 r.1), (i64 r.2.1), (.bool r.2.2)]) n0 h0) := by
  unfold sf76 at hF
  refine in_cT hd hs lw76 rfl rfl (by rfl) (fun st T hT => ?_)
  have hfl : n0 ≤ n0 := Nat.le_refl n0
  have t0 := hT 0 _ rfl
  dsimp only [L76]
  refine w_seq ?_; refine w_reg ?_; refine v_box st (fun b1 h2 n3 st => ?_); refine v_alloc st (fun b4 h5 n6 st => ?_); refine r_nil ?_; refine th_n ?_; refine w_seq ?_; refine w_seq ?_; refine w_reg ?_; refine v_fa ?_; refine v_ld1 (st.at (i := 0) rfl).2.2 rfl ?_; refine v_fa ?_; refine v_ld1 (st.at (i := 0) rfl).2.2 rfl ?_; refine v_lss ?_; refine r_nil ?_; refine th_n ?_; refine v_cond (fun hb7 => ?_) (fun hb7 => ?_)
  · have hF := bif_t hb7 hF; refine w_seq ?_; refine w_reg ?_; refine v_ldn (vs := [(i64 a0_0), (i64 a0_1)]) (st.at (i := 0) rfl).2.2 rfl ?_; refine v_build (cs := [(i64 a0_0), (i64 a0_1), (.bool false)]) rfl ?_; refine v_st (cs' := [(i64 a0_0), (i64 a0_1), (.bool false)]) st 1 rfl rfl rfl rfl hfl (fun h8 st => ?_); refine r_nil ?_; refine th_n ?_; refine w_ret ?_; refine th_r ?_; obtain rfl := inj hF
    exact end_s st (Res.c gA (st.at (i := 1) rfl).2.2 (show takeN _ _ = some [(i64 a0_0), (i64 a0_1), (.bool false)] from rfl) Res.nil) rfl rfl
  · have hF := bif_f hb7 hF; refine w_skip ?_; refine th_n ?_; refine w_seq ?_; refine w_reg ?_; refine v_fa ?_; refine v_ld1 (st.at (i := 0) rfl).2.2 rfl ?_; obtain ⟨q9, hF⟩ := ck_some hF; refine v_neg q9 ?_; refine v_fa ?_; refine v_ld1 (st.at (i := 0) rfl).2.2 rfl ?_; obtain ⟨q10, hF⟩ := ck_some hF; refine v_neg q10 ?_; refine v_build (cs := [(i64 (-a0_0)), (i64 (-a0_1))]) rfl ?_; refine v_build (cs := [(i64 (-a0_0)), (i64 (-a0_1)), (.bool true)]) rfl ?_; refine v_st (cs' := [(i64 (-a0_0)), (i64 (-a0_1)), (.bool true)]) st 1 rfl rfl rfl rfl hfl (fun h11 st => ?_); refine r_nil ?_; refine th_n ?_; refine w_ret ?_; obtain rfl := inj hF
    exact end_s st (Res.c gA (st.at (i := 1) rfl).2.2 (show takeN _ _ = some [(i64 (-a0_0)), (i64 (-a0_1)), (.bool true)] from rfl) Res.nil) rfl rfl
theorem ct98 (N : Nat) {a0_0 : Int} {a0_1 : Int} {a0_2 : Bool} {a1_0 : Int} {a1_1 : Int} {r : (Int × Int)} (hF : sf98 N a0_0 a0_1 a0_2 a1_0 a1_1 = some r) {fl : Nat} {h0 : Tr HBlk} {n0 : Nat} {F0 : PH} (hd : D h0 n0) (hs : F0.sub h0) : C LW fl 98 [(.agg [(i64 a0_0), (i64 a0_1), (.bool a0_2)]), (.agg [(i64 a1_0), (i64 a1_1)])] ⟨h0, n0⟩ (KS (.agg [(i64 r.1), (i64 r.2)]) n0 h0) := by
  unfold sf98 at hF
  refine in_cT hd hs lw98 rfl rfl (by rfl) (fun st T hT => ?_)
  have hfl : n0 ≤ n0 := Nat.le_refl n0
  have t0 := hT 0 _ rfl
  have t1 := hT 1 _ rfl
  dsimp only [L98]
  refine w_seq ?_; refine w_reg ?_; refine v_box st (fun b1 h2 n3 st => ?_); refine v_box st (fun b4 h5 n6 st => ?_); refine v_alloc st (fun b7 h8 n9 st => ?_); refine r_nil ?_; refine th_n ?_; refine w_seq ?_; refine w_seq ?_; refine w_reg ?_; refine v_fa ?_; refine v_ld1 (st.at (i := 0) rfl).2.2 rfl ?_; refine r_nil ?_; refine th_n ?_; refine v_cond (fun hb10 => ?_) (fun hb10 => ?_)
  · have hF := bif_t hb10 hF; refine w_seq ?_; refine w_reg ?_; refine v_fa ?_; refine v_ld1 (st.at (i := 1) rfl).2.2 rfl ?_; obtain ⟨q11, hF⟩ := ck_some hF; refine v_neg q11 ?_; refine v_fa ?_; refine v_ld1 (st.at (i := 1) rfl).2.2 rfl ?_; obtain ⟨q12, hF⟩ := ck_some hF; refine v_neg q12 ?_; refine v_build (cs := [(i64 (-a1_1)), (i64 (-a1_0))]) rfl ?_; refine v_st (cs' := [(i64 (-a1_1)), (i64 (-a1_0))]) st 2 rfl rfl rfl rfl hfl (fun h13 st => ?_); refine r_nil ?_; refine th_n ?_; refine w_ret ?_; refine th_r ?_; obtain rfl := inj hF
    exact end_s st (Res.c gA (st.at (i := 2) rfl).2.2 (show takeN _ _ = some [(i64 (-a1_1)), (i64 (-a1_0))] from rfl) Res.nil) rfl rfl
  · have hF := bif_f hb10 hF; refine w_skip ?_; refine th_n ?_; refine w_seq ?_; refine w_reg ?_; refine v_ldn (vs := [(i64 a1_0), (i64 a1_1)]) (st.at (i := 1) rfl).2.2 rfl ?_; refine v_st (cs' := [(i64 a1_0), (i64 a1_1)]) st 2 rfl rfl rfl rfl hfl (fun h14 st => ?_); refine r_nil ?_; refine th_n ?_; refine w_ret ?_; obtain rfl := inj hF
    exact end_s st (Res.c gA (st.at (i := 2) rfl).2.2 (show takeN _ _ = some [(i64 a1_0), (i64 a1_1)] from rfl) Res.nil) rfl rfl
theorem ct101 (N : Nat) {r : Unit} (hF : sf101 N = some r) {fl : Nat} {h0 : Tr HBlk} {n0 : Nat} {F0 : PH} (hd : D h0 n0) (hs : F0.sub h0) : C LW fl 101 [] ⟨h0, n0⟩ (KS (.agg [(.func 99 [] []), (.func 91 [] [])]) n0 h0) := by
  unfold sf101 at hF
  refine in_cT hd hs lw101 rfl rfl (by rfl) (fun st T hT => ?_)
  have hfl : n0 ≤ n0 := Nat.le_refl n0
  dsimp only [L101]
  refine w_seq ?_; refine w_reg ?_; refine v_alloc st (fun b1 h2 n3 st => ?_); refine r_nil ?_; refine th_n ?_; refine w_seq ?_; refine w_reg ?_; refine v_build (cs := [(.func 99 [] []), (.func 91 [] [])]) rfl ?_; refine v_st (cs' := [(.func 99 [] []), (.func 91 [] [])]) st 0 rfl rfl rfl rfl hfl (fun h4 st => ?_); refine r_nil ?_; refine th_n ?_; refine w_ret ?_; obtain rfl := inj hF
  exact end_s st (Res.c gA (st.at (i := 0) rfl).2.2 (show takeN _ _ = some [(.func 99 [] []), (.func 91 [] [])] from rfl) Res.nil) rfl rfl
theorem ct100 (N : Nat) {a0_0 : Int} {a0_1 : Int} {a0_2 : Bool} {r : Int} (hF : sf100 N a0_0 a0_1 a0_2 = some r) {fl : Nat} {h0 : Tr HBlk} {n0 : Nat} {F0 : PH} (hd : D h0 n0) (hs : F0.sub h0) : C LW fl 100 [(.agg [(i64 a0_0), (i64 a0_1), (.bool a0_2)])] ⟨h0, n0⟩ (KS (i64 r) n0 h0) := by
  unfold sf100 at hF
  refine in_cT hd hs lw100 rfl rfl (by rfl) (fun st T hT => ?_)
  have hfl : n0 ≤ n0 := Nat.le_refl n0
  have t0 := hT 0 _ rfl
  dsimp only [L100]
  refine w_seq ?_; refine w_reg ?_; refine v_box st (fun b1 h2 n3 st => ?_); refine v_move ?_; refine r_nil ?_; refine th_n ?_; refine w_seq ?_; refine w_reg ?_; refine v_fa ?_; refine v_fa ?_; refine v_ld1 (st.at (i := 0) rfl).2.2 rfl ?_; refine v_fa ?_; refine v_fa ?_; refine v_ld1 (st.at (i := 0) rfl).2.2 rfl ?_; obtain ⟨q4, hF⟩ := ck_some hF; refine v_sub q4 ?_; refine v_move ?_; refine r_nil ?_; refine th_n ?_; refine w_ret ?_; obtain rfl := inj hF
  exact end_s st (Res.t gA Res.nil) rfl rfl
theorem ct91 (N : Nat) {a0_0 : Int} {a0_1 : Int} {r : Int} (hF : sf91 N a0_0 a0_1 = some r) {fl : Nat} {h0 : Tr HBlk} {n0 : Nat} {F0 : PH} (hd : D h0 n0) (hs : F0.sub h0) : C LW fl 91 [(.agg [(i64 a0_0), (i64 a0_1)])] ⟨h0, n0⟩ (KS (i64 r) n0 h0) := by
  unfold sf91 at hF
  refine in_cT hd hs lw91 rfl rfl (by rfl) (fun st T hT => ?_)
  have hfl : n0 ≤ n0 := Nat.le_refl n0
  have t0 := hT 0 _ rfl
  dsimp only [L91]
  refine w_seq ?_; refine w_reg ?_; refine v_box st (fun b1 h2 n3 st => ?_); refine v_move ?_; refine r_nil ?_; refine th_n ?_; refine w_seq ?_; refine w_reg ?_; refine v_fa ?_; refine v_ld1 (st.at (i := 0) rfl).2.2 rfl ?_; refine v_fa ?_; refine v_ld1 (st.at (i := 0) rfl).2.2 rfl ?_; obtain ⟨q4, hF⟩ := ck_some hF; refine v_quo q4 ?_; refine v_move ?_; refine r_nil ?_; refine th_n ?_; refine w_seq ?_; refine w_seq ?_; refine w_reg ?_; refine v_fa ?_; refine v_ld1 (st.at (i := 0) rfl).2.2 rfl ?_; refine v_fa ?_; refine v_ld1 (st.at (i := 0) rfl).2.2 rfl ?_; obtain ⟨q5, hF⟩ := ck_some hF; refine v_rem q5 ?_; refine v_lss ?_; refine r_nil ?_; refine th_n ?_; refine v_cond (fun hb6 => ?_) (fun hb6 => ?_)
  · have hF := bif_t hb6 hF; refine w_reg ?_; refine v_move ?_; obtain ⟨q7, hF⟩ := ck_some hF; refine v_sub q7 ?_; refine v_move ?_; refine r_nil ?_; refine th_n ?_; refine w_seq ?_; refine w_reg ?_; refine v_move ?_; refine v_move ?_; refine r_nil ?_; refine th_n ?_; refine w_ret ?_; obtain rfl := inj hF
    exact end_s st (Res.t gA Res.nil) rfl rfl
  · have hF := bif_f hb6 hF; refine w_skip ?_; refine th_n ?_; refine w_seq ?_; refine w_reg ?_; refine v_move ?_; refine v_move ?_; refine r_nil ?_; refine th_n ?_; refine w_ret ?_; obtain rfl := inj hF
    exact end_s st (Res.t gA Res.nil) rfl rfl
theorem ct55 (N : Nat) {a0 : Int} {a1 : Int} {a2 : Int} {r : Bool} (hF : sf55 N a0 a1 a2 = some r) {fl : Nat} {h0 : Tr HBlk} {n0 : Nat} {F0 : PH} (hd : D h0 n0) (hs : F0.sub h0) : C LW fl 55 [(i64 a0), (i64 a1), (i64 a2)] ⟨h0, n0⟩ (KS (.bool r) n0 h0) := by
  unfold sf55 at hF
  refine in_cT hd hs lw55 rfl rfl (by rfl) (fun st T hT => ?_)
  have hfl : n0 ≤ n0 := Nat.le_refl n0
  have t0 := hT 0 _ rfl
  have t1 := hT 1 _ rfl
  have t2 := hT 2 _ rfl
  dsimp only [L55]
  refine w_seq ?_; refine w_reg ?_; refine v_move ?_; refine r_nil ?_; refine th_n ?_; refine w_seq ?_; refine w_reg ?_; refine v_move ?_; refine v_move ?_; refine v_geq ?_; refine v_move ?_
  rcases Bool.eq_false_or_eq_true (decide (a1 ≤ a0)) with hb1 | hb1
  · have hF := bif_t hb1 hF; refine g_take hb1 (v_move ?_); refine g_take hb1 (v_move ?_); refine g_take hb1 (v_leq ?_); refine v_pick hb1 ?_; refine v_move ?_; refine r_nil ?_; refine th_n ?_; refine w_ret ?_; obtain rfl := inj hF
    exact end_s st (Res.t gA Res.nil) rfl rfl
  · have hF := bif_f hb1 hF; refine g_skip hb1 ?_; refine g_skip hb1 ?_; refine g_skip hb1 ?_; refine v_pick' hb1 ?_; refine v_move ?_; refine r_nil ?_; refine th_n ?_; refine w_ret ?_; obtain rfl := inj hF
    exact end_s st (Res.t gA Res.nil) rfl rfl
theorem ct42 (N : Nat) {a0 : (List Int)} {a1 : (List Int)} {r : Bool} (hF : sf42 N a0 a1 = some r) {fl : Nat} {h0 : Tr HBlk} {n0 : Nat} {F0 : PH} (hd : D h0 n0) (hs : F0.sub h0) {pa0 : Option (Nat × Nat)} {ca0 : Nat} {pa1 : Option (Nat × Nat)} {ca1 : Nat} (ra0 : RowF rI 1 F0 pa0 ca0 a0) (ra1 : RowF rI 1 F0 pa1 ca1 a1) : C LW fl 42 [(.slice pa0 (a0).length ca0), (.slice pa1 (a1).length ca1)] ⟨h0, n0⟩ (KS (.bool r) n0 h0) := by
  unfold sf42 at hF
  refine in_cT hd hs lw42 rfl rfl (by rfl) (fun st T hT => ?_)
  have hfl : n0 ≤ n0 := Nat.le_refl n0
  have t0 := hT 0 _ rfl
  have t1 := hT 1 _ rfl
  dsimp only [L42]
  refine w_seq ?_; refine w_reg ?_; refine v_move ?_; refine r_nil ?_; refine th_n ?_; refine w_seq ?_; refine w_seq ?_; refine w_reg ?_; refine v_move ?_; refine v_len ?_; refine v_move ?_; refine v_len ?_; refine v_nei ?_; refine r_nil ?_; refine th_n ?_; refine v_cond (fun hb1 => ?_) (fun hb1 => ?_)
  · have hF := bif_t hb1 hF; refine w_seq ?_; refine w_reg ?_; refine v_move ?_; refine r_nil ?_; refine th_n ?_; refine w_ret ?_; refine th_r ?_; obtain rfl := inj hF
    exact end_s st (Res.t gA Res.nil) rfl rfl
  · have hF := bif_f hb1 hF; refine w_skip ?_; refine th_n ?_; refine w_seq ?_; refine w_seq ?_; refine w_reg ?_; refine v_move ?_; refine r_nil ?_; refine th_n ?_; refine w_block ?_; obtain ⟨y10, hy, hF⟩ := bnd_some hF; refine v_loopD (sf42_L1 a0 a1) (fun x2 T ds3 h nx => ∃ (F3 : PH), ds3 = [] ∧ PH.le F0 F3 ∧ St n0 h0 F0 F3 h nx [] ∧ T.get 0 = some (.slice pa0 (a0).length ca0) ∧ T.get 1 = some (.slice pa1 (a1).length ca1) ∧ T.get 5 = some (i64 x2)) (fun y e a σ => (∃ u, y = (.inl u) ∧ e = .ret ∧ a.nt = 26 ∧ ∃ (F12 : PH), a.defers = [] ∧ PH.le F0 F12 ∧ St n0 h0 F0 F12 σ.h σ.nx [] ∧ a.tmps.get 4 = some (.bool false)) ∨ (∃ u, y = (.inr u) ∧ e = .exit 0 ∧ a.nt = 26 ∧ ∃ (F14 : PH), a.defers = [] ∧ PH.le F0 F14 ∧ St n0 h0 F0 F14 σ.h σ.nx [])) (fun x2 T ds3 h nx s hp hF => ?_) N _ y10 _ _ _ _ hy ⟨F0, rfl, (PH.le.refl _), st, gA, gA, gA⟩ (fun e a σ hne hq => ?_)
    · obtain ⟨F3, rfl, le3, st, t0, t1, t5⟩ := hp; unfold sf42_L1 at hF; unfold L42w0; refine w_seq ?_; refine w_seq ?_; refine w_reg ?_; refine v_move ?_; refine v_move ?_; refine v_len ?_; refine v_lss ?_; refine r_nil ?_; refine th_n ?_; refine v_cond (fun hb15 => ?_) (fun hb15 => ?_)
      · have hF := bif_t hb15 hF; refine w_skip ?_; refine th_n ?_; refine w_seq ?_; refine w_block ?_; refine w_seq ?_; refine w_drawV (Nat.le_trans hfl st.ext.le) (fun dw => ?_); refine y_pure st.d dw (fun hm vw => v_move pr_nil) ?_; refine y_pure st.d dw (fun hm vw => v_move pr_nil) ?_; obtain ⟨n16, x16, z16, l16, g16, hF⟩ := ix_some hF; obtain ⟨b16, o16, s16, j16, r16, e16, f16, k16, rfl⟩ := RowF.get ra0 g16; refine y_pure st.d dw (fun hm vw => v_ixp e16 z16 l16 pr_nil) ?_; refine y_pure st.d dw (fun hm vw => v_ld1 (vw.fz st (le3 _ _ f16)) (take_at (j := 0) k16 rfl) pr_nil) ?_; refine y_pure st.d dw (fun hm vw => v_move pr_nil) ?_; refine y_pure st.d dw (fun hm vw => v_move pr_nil) ?_; obtain ⟨n17, x17, z17, l17, g17, hF⟩ := ix_some hF
        obtain ⟨b17, o17, s17, j17, r17, e17, f17, k17, rfl⟩ := RowF.get ra1 g17; refine y_pure st.d dw (fun hm vw => v_ixp e17 z17 l17 pr_nil) ?_; refine y_pure st.d dw (fun hm vw => v_ld1 (vw.fz st (le3 _ _ f17)) (take_at (j := 0) k17 rfl) pr_nil) ?_; refine y_end st.d dw rfl (fun h18 ex vs => ?_)
        have st := st.ext1 ex
        refine v_nei ?_; refine r_nil ?_; refine th_n ?_; refine v_cond (fun hb19 => ?_) (fun hb19 => ?_)
        · have hF := bif_t hb19 hF; refine w_seq ?_; refine w_reg ?_; refine v_move ?_; refine r_nil ?_; refine th_n ?_; refine w_ret ?_; refine ib_r ?_; refine th_r ?_; refine th_r ?_; refine ⟨_, (inj hF).symm, .inl ⟨_, rfl, rfl, rfl, ?_⟩⟩; dsimp only
          exact ⟨F3, rfl, le3, st, gA⟩
        · have hF := bif_f hb19 hF; refine w_skip ?_; refine ib_n ?_; refine th_n ?_; refine w_reg ?_; refine v_move ?_; obtain ⟨q20, hF⟩ := ck_some hF; refine v_add q20 ?_; refine v_move ?_; refine r_nil ?_; refine thn ⟨_, (inj hF).symm, rfl, ?_⟩; dsimp only
          exact ⟨F3, rfl, le3, st, gA, gA, gA⟩
      · have hF := bif_f hb15 hF; refine w_exit ?_; refine th_e ?_; refine th_e ?_; refine ⟨_, (inj hF).symm, .inr (⟨_, rfl, rfl, rfl, ?_⟩)⟩; dsimp only
        exact ⟨F3, rfl, le3, st⟩
    · rcases hq with hq | hq
      · obtain ⟨N9, T, ds12⟩ := a; obtain ⟨h21, n22⟩ := σ; obtain ⟨w11, rfl, rfl, e1, F12, e2, le12, st, t4⟩ := hq
        dsimp only at e1 e2
        subst e1
        subst e2
        dsimp only at st t4
        have hF := sel_l hF; refine ib_r ?_; refine th_r ?_; obtain rfl := inj hF
        exact end_s st (Res.t gA Res.nil) rfl rfl
      · obtain ⟨N9, T, ds14⟩ := a; obtain ⟨h23, n24⟩ := σ; obtain ⟨w13, rfl, rfl, e1, F14, e2, le14, st⟩ := hq
        dsimp only at e1 e2
        subst e1
        subst e2
        dsimp only at st
        have hF := sel_r hF; refine ib_e ?_; refine th_n ?_; refine w_seq ?_; refine w_reg ?_; refine v_move ?_; refine r_nil ?_; refine th_n ?_; refine w_ret ?_; obtain rfl := inj hF
        exact end_s st (Res.t gA Res.nil) rfl rfl
end Go.Hx.V

/- Functions of the program come to that. -/
namespace Go.Hx.V
open Go.Hx
set_option linter.unusedVariables false
set_option maxRecDepth 20000
set_option maxHeartbeats 4000000
attribute [local irreducible] W R C thenH inBlockH Tr.get Tr.set lo ck bnd ix iter
theorem ct25 (N : Nat) {a0 : (List (Int × Int))} {r : (List (Int × Int))} (hF : sf25 N a0 = some r) {fl : Nat} {h0 : Tr HBlk} {n0 : Nat} {F0 : PH} (hd : D h0 n0) (hs : F0.sub h0) (hfl : fl ≤ n0) {pa0 : Option (Nat × Nat)} {ca0 : Nat} (ra0 : RowF (rP rI rI) 2 F0 pa0 ca0 a0) : C LW fl 25 [(.slice pa0 (a0).length ca0)] ⟨h0, n0⟩ (KR (lvL (rP rI rI) 2) F0 h0 n0 r) := by
  unfold sf25 at hF
  refine in_mT hd hs hfl lw25 rfl rfl (by rfl) (fun st T hT => ?_)
  have t0 := hT 0 _ rfl
  dsimp only [L25]
  refine w_seq ?_; refine w_reg ?_; refine v_move ?_; refine r_nil ?_; refine th_n ?_; refine w_seq ?_; refine w_reg ?_; refine v_move ?_; refine r_nil ?_; refine th_n ?_; refine w_seq ?_; refine w_seq ?_; refine w_reg ?_; refine v_move ?_; refine r_nil ?_; refine th_n ?_; refine w_block ?_
  have st := st.nilL 2
  have w1 : LR (rP rI rI) 2 F0 ([] : List (Int × Int)) [] := LR.nil
  obtain ⟨y16, hy, hF⟩ := bnd_some hF; refine v_loopD (sf25_L1 N a0) (fun x3 T ds4 h nx => ∃ (F4 : PH) (o5 : Option Nat) (c5 : Nat) (cs5 : List HV), ds4 = [] ∧ PH.le F0 F4 ∧ St n0 h0 F0 F4 h nx [.ls o5 c5 cs5 2] ∧ LR (rP rI rI) 2 F4 x3.1 cs5 ∧ T.get 0 = some (.slice pa0 (a0).length ca0) ∧ T.get 3 = some (slv o5 (x3.1).length c5) ∧ T.get 4 = some (i64 x3.2)) (fun y e a σ => e = .exit 0 ∧ a.nt = 20 ∧ ∃ (F17 : PH) (o18 : Option Nat) (c18 : Nat) (cs18 : List HV), a.defers = [] ∧ PH.le F0 F17 ∧ St n0 h0 F0 F17 σ.h σ.nx [.ls o18 c18 cs18 2] ∧ LR (rP rI rI) 2 F17 y cs18 ∧ a.tmps.get 3 = some (slv o18 (y).length c18)) (fun x3 T ds4 h nx s hp hF => ?_) N _ y16 _ _ _ _ hy ⟨F0, none, 0, [], rfl, (PH.le.refl _), st, w1, gA, gA, gA⟩ (fun e a σ hne hq => ?_)
  · obtain ⟨F4, o5, c5, cs5, rfl, le4, st, w5, t0, t3, t4⟩ := hp; unfold sf25_L1 at hF; unfold L25w0; refine w_seq ?_; refine w_seq ?_; refine w_reg ?_; refine v_move ?_; refine v_move ?_; refine v_len ?_; refine v_lss ?_; refine r_nil ?_; refine th_n ?_; refine v_cond (fun hb19 => ?_) (fun hb19 => ?_)
    · have hF := bif_t hb19 hF; refine w_skip ?_; refine th_n ?_; refine w_seq ?_; refine w_block ?_; refine w_reg ?_; refine v_move ?_; refine v_move ?_; refine v_move ?_; obtain ⟨n20, x20, z20, l20, g20, hF⟩ := ix_some hF; obtain ⟨b20, o20, s20, j20, r20, e20, f20, k20, ⟨_, _, rfl, rfl, rfl⟩⟩ := RowF.get ra0 g20; refine v_ixp e20 z20 l20 ?_; refine v_ldn (st.sub _ _ (le4 _ _ f20)) k20 ?_; obtain ⟨v21, e22, hF⟩ := bnd_some hF; refine v_call st (ct17 N e22 st.d st.sub ) (fun n23 st => ?_); refine v_bs (cs := [(i64 v21.1), (i64 v21.2)]) st rfl (fun b24 h25 n26 st => ?_); obtain ⟨q27, hF⟩ := ck_some hF
      have w27 : LR (rP rI rI) 2 F4 (x3.1 ++ [(v21.1, v21.2)]) (cs5 ++ [(i64 v21.1), (i64 v21.2)]) := LR.app w5 (LR.one (⟨[(i64 v21.1)], [(i64 v21.2)], rfl, rfl, rfl⟩))
      refine v_aps (n := 1) (ox := 0) (m := (x3.1 ++ [(v21.1, v21.2)]).length) (row := [(i64 v21.1), (i64 v21.2)]) st 0 rfl w5.1 (st.at (i := 1) rfl).2.2 rfl rfl q27 hfl (by decide) (by decide) (by simp) (fun o27 c27 h27 n27 st => ?_)
      refine v_move ?_; refine r_nil ?_; refine ib_n ?_; refine th_n ?_; refine w_reg ?_; refine v_move ?_; obtain ⟨q28, hF⟩ := ck_some hF; refine v_add q28 ?_; refine v_move ?_; refine r_nil ?_; refine thn ⟨_, (inj hF).symm, rfl, ?_⟩; dsimp only
      exact ⟨F4, o27, c27, (cs5 ++ [(i64 v21.1), (i64 v21.2)]), rfl, le4, (st.drop (by first | exact List.Sublist.refl _ | (repeat first | exact List.nil_sublist _ | refine List.Sublist.cons_cons _ ?_ | refine List.Sublist.cons _ ?_))), w27, gA, gA, gA⟩
    · have hF := bif_f hb19 hF; refine w_exit ?_; refine th_e ?_; refine th_e ?_; refine ⟨_, (inj hF).symm, rfl, rfl, ?_⟩; dsimp only
      exact ⟨F4, o5, c5, cs5, rfl, le4, st, w5, gA⟩
  · obtain ⟨N9, T, ds17⟩ := a; obtain ⟨h29, n30⟩ := σ; obtain ⟨rfl, e1, F17, o18, c18, cs18, e2, le17, st, w18, t3⟩ := hq
    dsimp only at e1 e2
    subst e1
    subst e2
    dsimp only at st t3
    refine ib_e ?_; refine th_n ?_; refine w_seq ?_; refine w_reg ?_; refine v_move ?_; refine v_move ?_; refine r_nil ?_; refine th_n ?_; refine w_ret ?_; obtain rfl := inj hF
    obtain ⟨F31, le31, st, rf31⟩ := St.freeze st 0 rfl w18 (by decide)
    have le32 := PH.le.trans le17 le31
    exact end_r st (Res.t gA Res.nil) ⟨_, _, rfl, rf31⟩
theorem ct38 (N : Nat) {a0 : (List (Int × Int × Int))} {r : (List (Int × Int × Int))} (hF : sf38 N a0 = some r) {fl : Nat} {h0 : Tr HBlk} {n0 : Nat} {F0 : PH} (hd : D h0 n0) (hs : F0.sub h0) (hfl : fl ≤ n0) {pa0 : Option (Nat × Nat)} {ca0 : Nat} (ra0 : RowF (rP rI (rP rI rI)) 3 F0 pa0 ca0 a0) : C LW fl 38 [(.slice pa0 (a0).length ca0)] ⟨h0, n0⟩ (KR (lvL (rP rI (rP rI rI)) 3) F0 h0 n0 r) := by
  unfold sf38 at hF
  refine in_mT hd hs hfl lw38 rfl rfl (by rfl) (fun st T hT => ?_)
  have t0 := hT 0 _ rfl
  dsimp only [L38]
  refine w_seq ?_; refine w_reg ?_; refine v_move ?_; refine r_nil ?_; refine th_n ?_; refine w_seq ?_; refine w_reg ?_; refine v_move ?_; refine r_nil ?_; refine th_n ?_; refine w_seq ?_; refine w_seq ?_; refine w_reg ?_; refine v_move ?_; refine r_nil ?_; refine th_n ?_; refine w_block ?_
  have st := st.nilL 3
  have w1 : LR (rP rI (rP rI rI)) 3 F0 ([] : List (Int × Int × Int)) [] := LR.nil
  obtain ⟨y18, hy, hF⟩ := bnd_some hF; refine v_loopD (sf38_L1 N a0) (fun x3 T ds4 h nx => ∃ (F4 : PH) (o5 : Option Nat) (c5 : Nat) (cs5 : List HV), ds4 = [] ∧ PH.le F0 F4 ∧ St n0 h0 F0 F4 h nx [.ls o5 c5 cs5 3] ∧ LR (rP rI (rP rI rI)) 3 F4 x3.1 cs5 ∧ T.get 0 = some (.slice pa0 (a0).length ca0) ∧ T.get 3 = some (slv o5 (x3.1).length c5) ∧ T.get 4 = some (i64 x3.2)) (fun y e a σ => e = .exit 0 ∧ a.nt = 27 ∧ ∃ (F19 : PH) (o20 : Option Nat) (c20 : Nat) (cs20 : List HV), a.defers = [] ∧ PH.le F0 F19 ∧ St n0 h0 F0 F19 σ.h σ.nx [.ls o20 c20 cs20 3] ∧ LR (rP rI (rP rI rI)) 3 F19 y cs20 ∧ a.tmps.get 3 = some (slv o20 (y).length c20)) (fun x3 T ds4 h nx s hp hF => ?_) N _ y18 _ _ _ _ hy ⟨F0, none, 0, [], rfl, (PH.le.refl _), st, w1, gA, gA, gA⟩ (fun e a σ hne hq => ?_)
  · obtain ⟨F4, o5, c5, cs5, rfl, le4, st, w5, t0, t3, t4⟩ := hp; unfold sf38_L1 at hF; unfold L38w0; refine w_seq ?_; refine w_seq ?_; refine w_reg ?_; refine v_move ?_; refine v_move ?_; refine v_len ?_; refine v_lss ?_; refine r_nil ?_; refine th_n ?_; refine v_cond (fun hb21 => ?_) (fun hb21 => ?_)
    · have hF := bif_t hb21 hF; refine w_skip ?_; refine th_n ?_; refine w_seq ?_; refine w_block ?_; refine w_drawV (Nat.le_trans hfl st.ext.le) (fun dw => ?_); refine y_pure st.d dw (fun hm vw => v_move pr_nil) ?_; refine y_pure st.d dw (fun hm vw => v_move pr_nil) ?_; refine y_pure st.d dw (fun hm vw => v_move pr_nil) ?_; obtain ⟨n22, x22, z22, l22, g22, hF⟩ := ix_some hF; obtain ⟨b22, o22, s22, j22, r22, e22, f22, k22, ⟨_, _, rfl, rfl, ⟨_, _, rfl, rfl, rfl⟩⟩⟩ := RowF.get ra0 g22; refine y_pure st.d dw (fun hm vw => v_ixp e22 z22 l22 pr_nil) ?_; refine y_pure st.d dw (fun hm vw => v_fa pr_nil) ?_; refine y_pure st.d dw (fun hm vw => v_ld1 (vw.fz st (le4 _ _ f22)) (take_at (j := 0) k22 rfl) pr_nil) ?_
      refine y_pure st.d dw (fun hm vw => v_move pr_nil) ?_; refine y_pure st.d dw (fun hm vw => v_move pr_nil) ?_; obtain ⟨n23, x23, z23, l23, g23, hF⟩ := ix_some hF; obtain ⟨b23, o23, s23, j23, r23, e23, f23, k23, ⟨_, _, rfl, rfl, ⟨_, _, rfl, rfl, rfl⟩⟩⟩ := RowF.get ra0 g23; refine y_pure st.d dw (fun hm vw => v_ixp e23 z23 l23 pr_nil) ?_; refine y_pure st.d dw (fun hm vw => v_fa pr_nil) ?_
      refine y_pure st.d dw (fun hm vw => v_ldn (vs := [(i64 x23.2.1), (i64 x23.2.2)]) (vw.fz st (le4 _ _ f23)) (take_sub (j := 1) k23 (by decide) rfl) pr_nil) ?_
      obtain ⟨v24, e25, hF⟩ := bnd_some hF; refine y_flat st.d dw (fun hm vw => u_call (ct19 N e25 vw.d (vw.sub st) ) (fun n' hn' => pf_nil hn')) (fun n26 hn' dw => ?_); refine y_end st.d dw rfl (fun h27 ex vs => ?_)
      have st := st.ext1 ex
      refine v_build (cs := [(i64 x22.1), (i64 v24.1), (i64 v24.2)]) rfl ?_; refine v_bs (cs := [(i64 x22.1), (i64 v24.1), (i64 v24.2)]) st rfl (fun b28 h29 n30 st => ?_); obtain ⟨q31, hF⟩ := ck_some hF
      have w31 : LR (rP rI (rP rI rI)) 3 F4 (x3.1 ++ [(x22.1, v24.1, v24.2)]) (cs5 ++ [(i64 x22.1), (i64 v24.1), (i64 v24.2)]) := LR.app w5 (LR.one (⟨[(i64 x22.1)], [(i64 v24.1), (i64 v24.2)], rfl, rfl, ⟨[(i64 v24.1)], [(i64 v24.2)], rfl, rfl, rfl⟩⟩))
      refine v_aps (n := 1) (ox := 0) (m := (x3.1 ++ [(x22.1, v24.1, v24.2)]).length) (row := [(i64 x22.1), (i64 v24.1), (i64 v24.2)]) st 0 rfl w5.1 (st.at (i := 1) rfl).2.2 rfl rfl q31 hfl (by decide) (by decide) (by simp) (fun o31 c31 h31 n31 st => ?_)
      refine v_move ?_; refine r_nil ?_; refine ib_n ?_; refine th_n ?_; refine w_reg ?_; refine v_move ?_; obtain ⟨q32, hF⟩ := ck_some hF; refine v_add q32 ?_; refine v_move ?_; refine r_nil ?_; refine thn ⟨_, (inj hF).symm, rfl, ?_⟩; dsimp only
      exact ⟨F4, o31, c31, (cs5 ++ [(i64 x22.1), (i64 v24.1), (i64 v24.2)]), rfl, le4, (st.drop (by first | exact List.Sublist.refl _ | (repeat first | exact List.nil_sublist _ | refine List.Sublist.cons_cons _ ?_ | refine List.Sublist.cons _ ?_))), w31, gA, gA, gA⟩
    · have hF := bif_f hb21 hF; refine w_exit ?_; refine th_e ?_; refine th_e ?_; refine ⟨_, (inj hF).symm, rfl, rfl, ?_⟩; dsimp only
      exact ⟨F4, o5, c5, cs5, rfl, le4, st, w5, gA⟩
  · obtain ⟨N9, T, ds19⟩ := a; obtain ⟨h33, n34⟩ := σ; obtain ⟨rfl, e1, F19, o20, c20, cs20, e2, le19, st, w20, t3⟩ := hq
    dsimp only at e1 e2
    subst e1
    subst e2
    dsimp only at st t3
    refine ib_e ?_; refine th_n ?_; refine w_seq ?_; refine w_reg ?_; refine v_move ?_; refine v_move ?_; refine r_nil ?_; refine th_n ?_; refine w_ret ?_; obtain rfl := inj hF
    obtain ⟨F35, le35, st, rf35⟩ := St.freeze st 0 rfl w20 (by decide)
    have le36 := PH.le.trans le19 le35
    exact end_r st (Res.t gA Res.nil) ⟨_, _, rfl, rf35⟩
theorem ct52 (N : Nat) {a0_0 : Int} {a0_1 : Int} {r : Bool} (hF : sf52 N a0_0 a0_1 = some r) {fl : Nat} {h0 : Tr HBlk} {n0 : Nat} {F0 : PH} (hd : D h0 n0) (hs : F0.sub h0) : C LW fl 52 [(.agg [(i64 a0_0), (i64 a0_1)])] ⟨h0, n0⟩ (KS (.bool r) n0 h0) := by
  unfold sf52 at hF
  refine in_cT hd hs lw52 rfl rfl (by rfl) (fun st T hT => ?_)
  have hfl : n0 ≤ n0 := Nat.le_refl n0
  have t0 := hT 0 _ rfl
  dsimp only [L52]
  refine w_seq ?_; refine w_reg ?_; refine v_box st (fun b1 h2 n3 st => ?_); refine v_move ?_; refine r_nil ?_; refine th_n ?_; refine w_seq ?_; refine w_reg ?_; obtain ⟨v4, e5, hF⟩ := bnd_some hF; refine v_call st (ct72 N e5 st.d st.sub ) (fun n6 st => ?_); refine v_alloc st (fun b7 h8 n9 st => ?_); refine v_st (cs' := [(i64 v4.1), (i64 v4.2)]) st 1 rfl rfl rfl rfl hfl (fun h10 st => ?_); refine r_nil ?_; refine th_n ?_; refine w_seq ?_; refine w_reg ?_; refine v_ldn (vs := [(i64 v4.1), (i64 v4.2)]) (st.at (i := 1) rfl).2.2 rfl ?_; refine v_fa ?_; refine v_ld1 (st.at (i := 0) rfl).2.2 rfl ?_; obtain ⟨v11, e12, hF⟩ := bnd_some hF; refine v_call st (ct73 N e12 st.d st.sub ) (fun n13 st => ?_)
  refine v_move ?_
  rcases Bool.eq_false_or_eq_true v11 with hb14 | hb14
  · have hF := bif_t hb14 hF; refine g_take hb14 (v_ldn (vs := [(i64 v4.1), (i64 v4.2)]) (st.at (i := 1) rfl).2.2 rfl ?_); refine g_take hb14 (v_fa ?_); refine g_take hb14 (v_ld1 (st.at (i := 0) rfl).2.2 rfl ?_); obtain ⟨v15, e16, hF⟩ := bnd_some hF; refine g_take hb14 (v_call st (ct73 N e16 st.d st.sub ) (fun n17 st => ?_)); refine v_pick hb14 ?_; refine v_move ?_
    rcases Bool.eq_false_or_eq_true v15 with hb18 | hb18
    · have hF := bif_t hb18 hF; refine g_take hb18 (v_fa ?_); refine g_take hb18 (v_ld1 (st.at (i := 0) rfl).2.2 rfl ?_); refine g_take hb18 (v_fa ?_); refine g_take hb18 (v_ld1 (st.at (i := 0) rfl).2.2 rfl ?_); refine g_take hb18 (v_nei ?_); refine v_pick hb18 ?_; refine v_move ?_; refine r_nil ?_; refine th_n ?_; refine w_ret ?_; obtain rfl := inj hF
      exact end_s st (Res.t gA Res.nil) rfl rfl
    · have hF := bif_f hb18 hF; refine g_skip hb18 ?_; refine g_skip hb18 ?_; refine g_skip hb18 ?_; refine g_skip hb18 ?_; refine g_skip hb18 ?_; refine v_pick' hb18 ?_; refine v_move ?_; refine r_nil ?_; refine th_n ?_; refine w_ret ?_; obtain rfl := inj hF
      exact end_s st (Res.t gA Res.nil) rfl rfl
  · have hF := bif_f hb14 hF; refine g_skip hb14 ?_; refine g_skip hb14 ?_; refine g_skip hb14 ?_; refine g_skip hb14 ?_; refine v_pick' hb14 ?_; refine v_move ?_; refine g_skip rfl ?_; refine g_skip rfl ?_; refine g_skip rfl ?_; refine g_skip rfl ?_; refine g_skip rfl ?_; refine v_pick' rfl ?_; refine v_move ?_; refine r_nil ?_; refine th_n ?_; refine w_ret ?_; obtain rfl := inj hF
    exact end_s st (Res.t gA Res.nil) rfl rfl
theorem ct75 (N : Nat) {r : (Int × Int)} (hF : sf75 N = some r) {fl : Nat} {h0 : Tr HBlk} {n0 : Nat} {F0 : PH} (hd : D h0 n0) (hs : F0.sub h0) : C LW fl 75 [] ⟨h0, n0⟩ (KS (.agg [(i64 r.1), (i64 r.2)]) n0 h0) := by
  unfold sf75 at hF
  refine in_cT hd hs lw75 rfl rfl (by rfl) (fun st T hT => ?_)
  have hfl : n0 ≤ n0 := Nat.le_refl n0
  dsimp only [L75]
  refine w_seq ?_; refine w_reg ?_; refine v_alloc st (fun b1 h2 n3 st => ?_); refine r_nil ?_; refine th_n ?_; refine w_seq ?_; refine w_reg ?_; obtain ⟨v4, e5, hF⟩ := bnd_some hF; refine v_call st (ct72 N e5 st.d st.sub ) (fun n6 st => ?_); refine v_st (cs' := [(i64 v4.1), (i64 v4.2)]) st 0 rfl rfl rfl rfl hfl (fun h7 st => ?_); refine r_nil ?_; refine th_n ?_; refine w_ret ?_; obtain rfl := inj hF
  exact end_s st (Res.c gA (st.at (i := 0) rfl).2.2 (show takeN _ _ = some [(i64 v4.1), (i64 v4.2)] from rfl) Res.nil) rfl rfl
theorem ct64 (N : Nat) {a0_0 : Int} {a0_1 : Int} {a1_0 : Int} {a1_1 : Int} {r : Bool} (hF : sf64 N a0_0 a0_1 a1_0 a1_1 = some r) {fl : Nat} {h0 : Tr HBlk} {n0 : Nat} {F0 : PH} (hd : D h0 n0) (hs : F0.sub h0) : C LW fl 64 [(.agg [(i64 a0_0), (i64 a0_1)]), (.agg [(i64 a1_0), (i64 a1_1)])] ⟨h0, n0⟩ (KS (.bool r) n0 h0) := by
  unfold sf64 at hF
  refine in_cT hd hs lw64 rfl rfl (by rfl) (fun st T hT => ?_)
  have hfl : n0 ≤ n0 := Nat.le_refl n0
  have t0 := hT 0 _ rfl
  have t1 := hT 1 _ rfl
  dsimp only [L64]
  refine w_seq ?_; refine w_reg ?_; refine v_box st (fun b1 h2 n3 st => ?_); refine v_box st (fun b4 h5 n6 st => ?_); refine v_move ?_; refine r_nil ?_; refine th_n ?_; refine w_seq ?_; refine w_reg ?_; refine v_fa ?_; refine v_ld1 (st.at (i := 0) rfl).2.2 rfl ?_; refine v_fa ?_; refine v_ld1 (st.at (i := 0) rfl).2.2 rfl ?_; refine v_leq ?_; refine v_move ?_
  rcases Bool.eq_false_or_eq_true (decide (a0_0 ≤ a0_1)) with hb7 | hb7
  · have hF := bif_t hb7 hF; refine g_take hb7 (v_ldn (vs := [(i64 a1_0), (i64 a1_1)]) (st.at (i := 1) rfl).2.2 rfl ?_); refine g_take hb7 (v_fa ?_); refine g_take hb7 (v_ld1 (st.at (i := 0) rfl).2.2 rfl ?_); obtain ⟨v8, e9, hF⟩ := bnd_some hF; refine g_take hb7 (v_call st (ct73 N e9 st.d st.sub ) (fun n10 st => ?_)); refine v_pick hb7 ?_; refine v_move ?_
    rcases Bool.eq_false_or_eq_true v8 with hb11 | hb11
    · have hF := bif_t hb11 hF; refine g_take hb11 (v_ldn (vs := [(i64 a1_0), (i64 a1_1)]) (st.at (i := 1) rfl).2.2 rfl ?_); refine g_take hb11 (v_fa ?_); refine g_take hb11 (v_ld1 (st.at (i := 0) rfl).2.2 rfl ?_); obtain ⟨v12, e13, hF⟩ := bnd_some hF; refine g_take hb11 (v_call st (ct73 N e13 st.d st.sub ) (fun n14 st => ?_)); refine v_pick hb11 ?_; refine v_move ?_; refine r_nil ?_; refine th_n ?_; refine w_ret ?_; obtain rfl := inj hF
      exact end_s st (Res.t gA Res.nil) rfl rfl
    · have hF := bif_f hb11 hF; refine g_skip hb11 ?_; refine g_skip hb11 ?_; refine g_skip hb11 ?_; refine g_skip hb11 ?_; refine v_pick' hb11 ?_; refine v_move ?_; refine r_nil ?_; refine th_n ?_; refine w_ret ?_; obtain rfl := inj hF
      exact end_s st (Res.t gA Res.nil) rfl rfl
  · have hF := bif_f hb7 hF; refine g_skip hb7 ?_; refine g_skip hb7 ?_; refine g_skip hb7 ?_; refine g_skip hb7 ?_; refine v_pick' hb7 ?_; refine v_move ?_; refine g_skip rfl ?_; refine g_skip rfl ?_; refine g_skip rfl ?_; refine g_skip rfl ?_; refine v_pick' rfl ?_; refine v_move ?_; refine r_nil ?_; refine th_n ?_; refine w_ret ?_; obtain rfl := inj hF
    exact end_s st (Res.t gA Res.nil) rfl rfl
theorem ct77 (N : Nat) {a0_0 : Int} {a0_1 : Int} {a0_2 : Bool} {a1_0 : Int} {a1_1 : Int} {r : (Int × Int)} (hF : sf77 N a0_0 a0_1 a0_2 a1_0 a1_1 = some r) {fl : Nat} {h0 : Tr HBlk} {n0 : Nat} {F0 : PH} (hd : D h0 n0) (hs : F0.sub h0) : C LW fl 77 [(.agg [(i64 a0_0), (i64 a0_1), (.bool a0_2)]), (.agg [(i64 a1_0), (i64 a1_1)])] ⟨h0, n0⟩ (KS (.agg [(i64 r.1), (i64 r.2)]) n0 h0) := by
  unfold sf77 at hF
  refine in_cT hd hs lw77 rfl rfl (by rfl) (fun st T hT => ?_)
  have hfl : n0 ≤ n0 := Nat.le_refl n0
  have t0 := hT 0 _ rfl
  have t1 := hT 1 _ rfl
  dsimp only [L77]
  refine w_seq ?_; refine w_reg ?_; refine v_box st (fun b1 h2 n3 st => ?_); refine v_box st (fun b4 h5 n6 st => ?_); refine v_alloc st (fun b7 h8 n9 st => ?_); refine r_nil ?_; refine th_n ?_; refine w_seq ?_; refine w_reg ?_; refine v_ldn (vs := [(i64 a0_0), (i64 a0_1), (.bool a0_2)]) (st.at (i := 0) rfl).2.2 rfl ?_; refine v_ldn (vs := [(i64 a1_0), (i64 a1_1)]) (st.at (i := 1) rfl).2.2 rfl ?_; obtain ⟨v10, e11, hF⟩ := bnd_some hF; refine v_call st (ct98 N e11 st.d st.sub ) (fun n12 st => ?_); refine v_alloc st (fun b13 h14 n15 st => ?_); refine v_st (cs' := [(i64 v10.1), (i64 v10.2)]) st 3 rfl rfl rfl rfl hfl (fun h16 st => ?_); refine r_nil ?_; refine th_n ?_; refine w_seq ?_; refine w_reg ?_
  refine v_fa ?_; refine v_ld1 (st.at (i := 3) rfl).2.2 rfl ?_; refine v_fa ?_; refine v_fa ?_; refine v_ld1 (st.at (i := 0) rfl).2.2 rfl ?_; obtain ⟨q17, hF⟩ := ck_some hF; refine v_sub q17 ?_; obtain ⟨q18, hF⟩ := ck_some hF; refine v_mul q18 ?_; obtain ⟨q19, hF⟩ := ck_some hF; refine v_sub q19 ?_; refine v_fa ?_; refine v_ld1 (st.at (i := 3) rfl).2.2 rfl ?_; refine v_fa ?_; refine v_fa ?_; refine v_ld1 (st.at (i := 0) rfl).2.2 rfl ?_; obtain ⟨q20, hF⟩ := ck_some hF; refine v_sub q20 ?_; obtain ⟨q21, hF⟩ := ck_some hF; refine v_mul q21 ?_; obtain ⟨q22, hF⟩ := ck_some hF; refine v_add q22 ?_; refine v_build (cs := [(i64 (((2 : Int) * (v10.1 - a0_0)) - (1 : Int))), (i64 (((2 : Int) * (v10.2 - a0_0)) + (1 : Int)))]) rfl ?_
  refine v_st (cs' := [(i64 (((2 : Int) * (v10.1 - a0_0)) - (1 : Int))), (i64 (((2 : Int) * (v10.2 - a0_0)) + (1 : Int)))]) st 2 rfl rfl rfl rfl hfl (fun h23 st => ?_); refine r_nil ?_; refine th_n ?_; refine w_ret ?_; obtain rfl := inj hF
  exact end_s st (Res.c gA (st.at (i := 2) rfl).2.2 (show takeN _ _ = some [(i64 (((2 : Int) * (v10.1 - a0_0)) - (1 : Int))), (i64 (((2 : Int) * (v10.2 - a0_0)) + (1 : Int)))] from rfl) Res.nil) rfl rfl
theorem ct82 (N : Nat) {a0_0 : Int} {a0_1 : Int} {a0_2 : Bool} {a1 : Int} {r : (Int × Int)} (hF : sf82 N a0_0 a0_1 a0_2 a1 = some r) {fl : Nat} {h0 : Tr HBlk} {n0 : Nat} {F0 : PH} (hd : D h0 n0) (hs : F0.sub h0) : C LW fl 82 [(.agg [(i64 a0_0), (i64 a0_1), (.bool a0_2)]), (i64 a1)] ⟨h0, n0⟩ (KS (.agg [(i64 r.1), (i64 r.2)]) n0 h0) := by
  unfold sf82 at hF
  refine in_cT hd hs lw82 rfl rfl (by rfl) (fun st T hT => ?_)
  have hfl : n0 ≤ n0 := Nat.le_refl n0
  have t0 := hT 0 _ rfl
  have t1 := hT 1 _ rfl
  dsimp only [L82]
  refine w_seq ?_; refine w_reg ?_; refine v_box st (fun b1 h2 n3 st => ?_); refine v_alloc st (fun b4 h5 n6 st => ?_); refine r_nil ?_; refine th_n ?_; refine w_seq ?_; refine w_reg ?_; refine v_move ?_; refine v_ldn (vs := [(i64 a0_0), (i64 a0_1), (.bool a0_2)]) (st.at (i := 0) rfl).2.2 rfl ?_; obtain ⟨v7, e8, hF⟩ := bnd_some hF; refine v_call st (ct100 N e8 st.d st.sub ) (fun n9 st => ?_); obtain ⟨q10, hF⟩ := ck_some hF; refine v_mul q10 ?_; refine v_build (cs := [(i64 a1), (i64 ((2 : Int) * v7))]) rfl ?_; refine v_st (cs' := [(i64 a1), (i64 ((2 : Int) * v7))]) st 1 rfl rfl rfl rfl hfl (fun h11 st => ?_); refine r_nil ?_; refine th_n ?_; refine w_ret ?_; obtain rfl := inj hF
  exact end_s st (Res.c gA (st.at (i := 1) rfl).2.2 (show takeN _ _ = some [(i64 a1), (i64 ((2 : Int) * v7))] from rfl) Res.nil) rfl rfl
theorem ct99 (N : Nat) {a0_0 : Int} {a0_1 : Int} {r : Int} (hF : sf99 N a0_0 a0_1 = some r) {fl : Nat} {h0 : Tr HBlk} {n0 : Nat} {F0 : PH} (hd : D h0 n0) (hs : F0.sub h0) : C LW fl 99 [(.agg [(i64 a0_0), (i64 a0_1)])] ⟨h0, n0⟩ (KS (i64 r) n0 h0) := by
  unfold sf99 at hF
  refine in_cT hd hs lw99 rfl rfl (by rfl) (fun st T hT => ?_)
  have hfl : n0 ≤ n0 := Nat.le_refl n0
  have t0 := hT 0 _ rfl
  dsimp only [L99]
  refine w_seq ?_; refine w_reg ?_; refine v_box st (fun b1 h2 n3 st => ?_); refine v_move ?_; refine r_nil ?_; refine th_n ?_; refine w_seq ?_; refine w_reg ?_; refine v_fa ?_; refine v_ld1 (st.at (i := 0) rfl).2.2 rfl ?_; obtain ⟨q4, hF⟩ := ck_some hF; refine v_neg q4 ?_; refine v_fa ?_; refine v_ld1 (st.at (i := 0) rfl).2.2 rfl ?_; refine v_build (cs := [(i64 (-a0_0)), (i64 a0_1)]) rfl ?_; obtain ⟨v5, e6, hF⟩ := bnd_some hF; refine v_call st (ct91 N e6 st.d st.sub ) (fun n7 st => ?_); obtain ⟨q8, hF⟩ := ck_some hF; refine v_neg q8 ?_; refine v_move ?_; refine r_nil ?_; refine th_n ?_; refine w_ret ?_; obtain rfl := inj hF
  exact end_s st (Res.t gA Res.nil) rfl rfl
theorem ct20 (N : Nat) {a0_0 : Int} {a0_1 : Int} {r : Bool} (hF : sf20 N a0_0 a0_1 = some r) {fl : Nat} {h0 : Tr HBlk} {n0 : Nat} {F0 : PH} (hd : D h0 n0) (hs : F0.sub h0) : C LW fl 20 [(.agg [(i64 a0_0), (i64 a0_1)])] ⟨h0, n0⟩ (KS (.bool r) n0 h0) := by
  unfold sf20 at hF
  refine in_cT hd hs lw20 rfl rfl (by rfl) (fun st T hT => ?_)
  have hfl : n0 ≤ n0 := Nat.le_refl n0
  have t0 := hT 0 _ rfl
  dsimp only [L20]
  refine w_seq ?_; refine w_reg ?_; refine v_box st (fun b1 h2 n3 st => ?_); refine v_move ?_; refine r_nil ?_; refine th_n ?_; refine w_seq ?_; refine w_reg ?_; refine v_fa ?_; refine v_ld1 (st.at (i := 0) rfl).2.2 rfl ?_; obtain ⟨v4, e5, hF⟩ := bnd_some hF; refine v_call st (ct55 N e5 st.d st.sub ) (fun n6 st => ?_); refine v_move ?_
  rcases Bool.eq_false_or_eq_true v4 with hb7 | hb7
  · have hF := bif_t hb7 hF; refine g_take hb7 (v_fa ?_); refine g_take hb7 (v_ld1 (st.at (i := 0) rfl).2.2 rfl ?_); obtain ⟨v8, e9, hF⟩ := bnd_some hF; refine g_take hb7 (v_call st (ct55 N e9 st.d st.sub ) (fun n10 st => ?_)); refine v_pick hb7 ?_; refine v_move ?_
    rcases Bool.eq_false_or_eq_true v8 with hb11 | hb11
    · have hF := bif_t hb11 hF; refine g_take hb11 (v_fa ?_); refine g_take hb11 (v_ld1 (st.at (i := 0) rfl).2.2 rfl ?_); refine g_take hb11 (v_fa ?_); refine g_take hb11 (v_ld1 (st.at (i := 0) rfl).2.2 rfl ?_); refine g_take hb11 (v_nei ?_); refine v_pick hb11 ?_; refine v_move ?_; refine r_nil ?_; refine th_n ?_; refine w_ret ?_; obtain rfl := inj hF
      exact end_s st (Res.t gA Res.nil) rfl rfl
    · have hF := bif_f hb11 hF; refine g_skip hb11 ?_; refine g_skip hb11 ?_; refine g_skip hb11 ?_; refine g_skip hb11 ?_; refine g_skip hb11 ?_; refine v_pick' hb11 ?_; refine v_move ?_; refine r_nil ?_; refine th_n ?_; refine w_ret ?_; obtain rfl := inj hF
      exact end_s st (Res.t gA Res.nil) rfl rfl
  · have hF := bif_f hb7 hF; refine g_skip hb7 ?_; refine g_skip hb7 ?_; refine g_skip hb7 ?_; refine v_pick' hb7 ?_; refine v_move ?_; refine g_skip rfl ?_; refine g_skip rfl ?_; refine g_skip rfl ?_; refine g_skip rfl ?_; refine g_skip rfl ?_; refine v_pick' rfl ?_; refine v_move ?_; refine r_nil ?_; refine th_n ?_; refine w_ret ?_; obtain rfl := inj hF
    exact end_s st (Res.t gA Res.nil) rfl rfl
theorem ct34 (N : Nat) {a0_0 : Int} {a0_1 : Int} {a1 : Int} {a2 : Int} {r : Bool} (hF : sf34 N a0_0 a0_1 a1 a2 = some r) {fl : Nat} {h0 : Tr HBlk} {n0 : Nat} {F0 : PH} (hd : D h0 n0) (hs : F0.sub h0) : C LW fl 34 [(.agg [(i64 a0_0), (i64 a0_1)]), (i64 a1), (i64 a2)] ⟨h0, n0⟩ (KS (.bool r) n0 h0) := by
  unfold sf34 at hF
  refine in_cT hd hs lw34 rfl rfl (by rfl) (fun st T hT => ?_)
  have hfl : n0 ≤ n0 := Nat.le_refl n0
  have t0 := hT 0 _ rfl
  have t1 := hT 1 _ rfl
  have t2 := hT 2 _ rfl
  dsimp only [L34]
  refine w_seq ?_; refine w_reg ?_; refine v_box st (fun b1 h2 n3 st => ?_); refine v_move ?_; refine r_nil ?_; refine th_n ?_; refine w_seq ?_; refine w_reg ?_; refine v_fa ?_; refine v_ld1 (st.at (i := 0) rfl).2.2 rfl ?_; refine v_move ?_; refine v_fa ?_; refine v_ld1 (st.at (i := 0) rfl).2.2 rfl ?_; obtain ⟨v4, e5, hF⟩ := bnd_some hF; refine v_call st (ct55 N e5 st.d st.sub ) (fun n6 st => ?_); refine v_move ?_
  rcases Bool.eq_false_or_eq_true v4 with hb7 | hb7
  · have hF := bif_t hb7 hF; refine g_take hb7 (v_fa ?_); refine g_take hb7 (v_ld1 (st.at (i := 0) rfl).2.2 rfl ?_); refine g_take hb7 (v_move ?_); refine g_take hb7 (v_leq ?_); refine v_pick hb7 ?_; refine v_move ?_; refine r_nil ?_; refine th_n ?_; refine w_ret ?_; obtain rfl := inj hF
    exact end_s st (Res.t gA Res.nil) rfl rfl
  · have hF := bif_f hb7 hF; refine g_skip hb7 ?_; refine g_skip hb7 ?_; refine g_skip hb7 ?_; refine g_skip hb7 ?_; refine v_pick' hb7 ?_; refine v_move ?_; refine r_nil ?_; refine th_n ?_; refine w_ret ?_; obtain rfl := inj hF
    exact end_s st (Res.t gA Res.nil) rfl rfl
end Go.Hx.V

/- Functions of the program come to that. -/
namespace Go.Hx.V
open Go.Hx
set_option linter.unusedVariables false
set_option maxRecDepth 20000
set_option maxHeartbeats 4000000
attribute [local irreducible] W R C thenH inBlockH Tr.get Tr.set lo ck bnd ix iter
end Go.Hx.V

/- Functions of the program come to that. -/
namespace Go.Hx.V
open Go.Hx
set_option linter.unusedVariables false
set_option maxRecDepth 20000
set_option maxHeartbeats 4000000
attribute [local irreducible] W R C thenH inBlockH Tr.get Tr.set lo ck bnd ix iter
theorem ct97 (N : Nat) {a0 : (List (Int × Int))} {r : Bool} (hF : sf97 N a0 = some r) {fl : Nat} {h0 : Tr HBlk} {n0 : Nat} {F0 : PH} (hd : D h0 n0) (hs : F0.sub h0) {pa0 : Option (Nat × Nat)} {ca0 : Nat} (ra0 : RowF (rP rI rI) 2 F0 pa0 ca0 a0) : C LW fl 97 [(.slice pa0 (a0).length ca0), (.func 52 [] [])] ⟨h0, n0⟩ (KS (.bool r) n0 h0) := by
  unfold sf97 at hF
  refine in_cT hd hs lw97 rfl rfl (by rfl) (fun st T hT => ?_)
  have hfl : n0 ≤ n0 := Nat.le_refl n0
  have t0 := hT 0 _ rfl
  have t1 := hT 1 _ rfl
  dsimp only [L97]
  refine w_seq ?_; refine w_reg ?_; refine v_move ?_; refine r_nil ?_; refine th_n ?_; refine w_seq ?_; refine w_seq ?_; refine w_reg ?_; refine v_move ?_; refine v_len ?_; refine v_move ?_; refine r_nil ?_; refine th_n ?_; refine w_block ?_; obtain ⟨y14, hy, hF⟩ := bnd_some hF; refine v_loopD (sf97_L1 N a0) (fun x1 T ds2 h nx => ∃ (F2 : PH), ds2 = [] ∧ PH.le F0 F2 ∧ St n0 h0 F0 F2 h nx [] ∧ T.get 1 = some (.func 52 [] []) ∧ T.get 7 = some (.slice pa0 (a0).length ca0) ∧ T.get 8 = some (i64 ((a0).length : Int)) ∧ T.get 9 = some (i64 x1)) (fun y e a σ => (∃ u, y = (.inl u) ∧ e = .ret ∧ a.nt = 18 ∧ ∃ (F16 : PH), a.defers = [] ∧ PH.le F0 F16 ∧ St n0 h0 F0 F16 σ.h σ.nx [] ∧ a.tmps.get 4 = some (.bool false)) ∨ (∃ u, y = (.inr u) ∧ e = .exit 0 ∧ a.nt = 18 ∧ ∃ (F18 : PH), a.defers = [] ∧ PH.le F0 F18 ∧ St n0 h0 F0 F18 σ.h σ.nx [])) (fun x1 T ds2 h nx s hp hF => ?_) N _ y14 _ _ _ _ hy ⟨F0, rfl, (PH.le.refl _), st, gA, gA, gA, gA⟩ (fun e a σ hne hq => ?_)
  · obtain ⟨F2, rfl, le2, st, t1, t7, t8, t9⟩ := hp; unfold sf97_L1 at hF; unfold L97w0; refine w_seq ?_; refine w_reg ?_; refine v_lss ?_; refine r_nil ?_; refine th_n ?_; refine w_seq ?_; refine v_cond (fun hb19 => ?_) (fun hb19 => ?_)
    · have hF := bif_t hb19 hF; refine w_skip ?_; refine th_n ?_; refine w_seq ?_; refine w_block ?_; refine w_seq ?_; refine w_reg ?_; obtain ⟨n20, x20, z20, l20, g20, hF⟩ := ix_some hF; obtain ⟨b20, o20, s20, j20, r20, e20, f20, k20, ⟨_, _, rfl, rfl, rfl⟩⟩ := RowF.get ra0 g20; refine v_ixp e20 z20 l20 ?_; refine v_ldn (st.sub _ _ (le2 _ _ f20)) k20 ?_; refine v_alloc st (fun b21 h22 n23 st => ?_); refine v_st (cs' := [(i64 x20.1), (i64 x20.2)]) st 0 rfl rfl rfl rfl hfl (fun h24 st => ?_); refine r_nil ?_; refine th_n ?_; refine w_seq ?_; refine w_reg ?_; refine v_move ?_; refine v_ldn (vs := [(i64 x20.1), (i64 x20.2)]) (st.at (i := 0) rfl).2.2 rfl ?_; obtain ⟨v25, e26, hF⟩ := bnd_some hF; refine v_call st (ct52 N e26 st.d st.sub ) (fun n27 st => ?_)
      refine v_not ?_; refine r_nil ?_; refine th_n ?_; refine v_cond (fun hb28 => ?_) (fun hb28 => ?_)
      · have hF := bif_t hb28 hF; refine w_seq ?_; refine w_reg ?_; refine v_move ?_; refine r_nil ?_; refine th_n ?_; refine w_ret ?_; refine ib_r ?_; refine th_r ?_; refine th_r ?_; refine ⟨_, (inj hF).symm, .inl ⟨_, rfl, rfl, rfl, ?_⟩⟩; dsimp only
        exact ⟨F2, rfl, le2, (st.drop (by first | exact List.Sublist.refl _ | (repeat first | exact List.nil_sublist _ | refine List.Sublist.cons_cons _ ?_ | refine List.Sublist.cons _ ?_))), gA⟩
      · have hF := bif_f hb28 hF; refine w_skip ?_; refine ib_n ?_; refine th_n ?_; refine w_reg ?_; obtain ⟨q29, hF⟩ := ck_some hF; refine v_add q29 ?_; refine v_move ?_; refine r_nil ?_; refine thn ⟨_, (inj hF).symm, rfl, ?_⟩; dsimp only
        exact ⟨F2, rfl, le2, (st.drop (by first | exact List.Sublist.refl _ | (repeat first | exact List.nil_sublist _ | refine List.Sublist.cons_cons _ ?_ | refine List.Sublist.cons _ ?_))), gA, gA, gA, gA⟩
    · have hF := bif_f hb19 hF; refine w_exit ?_; refine th_e ?_; refine th_e ?_; refine ⟨_, (inj hF).symm, .inr (⟨_, rfl, rfl, rfl, ?_⟩)⟩; dsimp only
      exact ⟨F2, rfl, le2, st⟩
  · rcases hq with hq | hq
    · obtain ⟨N9, T, ds16⟩ := a; obtain ⟨h30, n31⟩ := σ; obtain ⟨w15, rfl, rfl, e1, F16, e2, le16, st, t4⟩ := hq
      dsimp only at e1 e2
      subst e1
      subst e2
      dsimp only at st t4
      have hF := sel_l hF; refine ib_r ?_; refine th_r ?_; obtain rfl := inj hF
      exact end_s st (Res.t gA Res.nil) rfl rfl
    · obtain ⟨N9, T, ds18⟩ := a; obtain ⟨h32, n33⟩ := σ; obtain ⟨w17, rfl, rfl, e1, F18, e2, le18, st⟩ := hq
      dsimp only at e1 e2
      subst e1
      subst e2
      dsimp only at st
      have hF := sel_r hF; refine ib_e ?_; refine th_n ?_; refine w_seq ?_; refine w_reg ?_; refine v_move ?_; refine r_nil ?_; refine th_n ?_; refine w_ret ?_; obtain rfl := inj hF
      exact end_s st (Res.t gA Res.nil) rfl rfl
theorem ct93 (N : Nat) {r : (Int × Int × Int × Int)} (hF : sf93 N = some r) {fl : Nat} {h0 : Tr HBlk} {n0 : Nat} {F0 : PH} (hd : D h0 n0) (hs : F0.sub h0) : C LW fl 93 [] ⟨h0, n0⟩ (KS (.agg [(i64 r.1), (i64 r.2.1), (i64 r.2.2.1), (i64 r.2.2.2)]) n0 h0) := by
  unfold sf93 at hF
  refine in_cT hd hs lw93 rfl rfl (by rfl) (fun st T hT => ?_)
  have hfl : n0 ≤ n0 := Nat.le_refl n0
  dsimp only [L93]
  refine w_seq ?_; refine w_reg ?_; refine v_alloc st (fun b1 h2 n3 st => ?_); refine r_nil ?_; refine th_n ?_; refine w_seq ?_; refine w_reg ?_; obtain ⟨v4, e5, hF⟩ := bnd_some hF; refine v_call st (ct75 N e5 st.d st.sub ) (fun n6 st => ?_); obtain ⟨v7, e8, hF⟩ := bnd_some hF; refine v_call st (ct72 N e8 st.d st.sub ) (fun n9 st => ?_); refine v_build (cs := [(i64 v4.1), (i64 v4.2), (i64 v7.1), (i64 v7.2)]) rfl ?_; refine v_st (cs' := [(i64 v4.1), (i64 v4.2), (i64 v7.1), (i64 v7.2)]) st 0 rfl rfl rfl rfl hfl (fun h10 st => ?_); refine r_nil ?_; refine th_n ?_; refine w_ret ?_; obtain rfl := inj hF
  exact end_s st (Res.c gA (st.at (i := 0) rfl).2.2 (show takeN _ _ = some [(i64 v4.1), (i64 v4.2), (i64 v7.1), (i64 v7.2)] from rfl) Res.nil) rfl rfl
theorem ct94 (N : Nat) {a0_0 : Int} {a0_1 : Int} {a0_2 : Int} {a0_3 : Int} {a1_0 : Int} {a1_1 : Int} {a1_2 : Int} {r : Bool} (hF : sf94 N a0_0 a0_1 a0_2 a0_3 a1_0 a1_1 a1_2 = some r) {fl : Nat} {h0 : Tr HBlk} {n0 : Nat} {F0 : PH} (hd : D h0 n0) (hs : F0.sub h0) : C LW fl 94 [(.agg [(i64 a0_0), (i64 a0_1), (i64 a0_2), (i64 a0_3)]), (.agg [(i64 a1_0), (i64 a1_1), (i64 a1_2)])] ⟨h0, n0⟩ (KS (.bool r) n0 h0) := by
  unfold sf94 at hF
  refine in_cT hd hs lw94 rfl rfl (by rfl) (fun st T hT => ?_)
  have hfl : n0 ≤ n0 := Nat.le_refl n0
  have t0 := hT 0 _ rfl
  have t1 := hT 1 _ rfl
  dsimp only [L94]
  refine w_seq ?_; refine w_reg ?_; refine v_box st (fun b1 h2 n3 st => ?_); refine v_box st (fun b4 h5 n6 st => ?_); refine v_move ?_; refine r_nil ?_; refine th_n ?_; refine w_seq ?_; refine w_reg ?_; refine v_fa ?_; refine v_ldn (vs := [(i64 a0_0), (i64 a0_1)]) (st.at (i := 0) rfl).2.2 rfl ?_; refine v_fa ?_; refine v_ld1 (st.at (i := 1) rfl).2.2 rfl ?_; obtain ⟨v7, e8, hF⟩ := bnd_some hF; refine v_call st (ct73 N e8 st.d st.sub ) (fun n9 st => ?_); refine v_move ?_
  rcases Bool.eq_false_or_eq_true v7 with hb10 | hb10
  · have hF := bif_t hb10 hF; refine g_take hb10 (v_fa ?_); refine g_take hb10 (v_ldn (vs := [(i64 a1_1), (i64 a1_2)]) (st.at (i := 1) rfl).2.2 rfl ?_); refine g_take hb10 (v_fa ?_); refine g_take hb10 (v_ldn (vs := [(i64 a0_2), (i64 a0_3)]) (st.at (i := 0) rfl).2.2 rfl ?_); obtain ⟨v11, e12, hF⟩ := bnd_some hF; refine g_take hb10 (v_call st (ct64 N e12 st.d st.sub ) (fun n13 st => ?_)); refine v_pick hb10 ?_; refine v_move ?_; refine r_nil ?_; refine th_n ?_; refine w_ret ?_; obtain rfl := inj hF
    exact end_s st (Res.t gA Res.nil) rfl rfl
  · have hF := bif_f hb10 hF; refine g_skip hb10 ?_; refine g_skip hb10 ?_; refine g_skip hb10 ?_; refine g_skip hb10 ?_; refine g_skip hb10 ?_; refine v_pick' hb10 ?_; refine v_move ?_; refine r_nil ?_; refine th_n ?_; refine w_ret ?_; obtain rfl := inj hF
    exact end_s st (Res.t gA Res.nil) rfl rfl
theorem ct81 (N : Nat) {a1_0 : Int} {a1_1 : Int} {a2_0 : Int} {a2_1 : Int} {r : (Int × Int)} (hF : sf81 N a1_0 a1_1 a2_0 a2_1 = some r) {fl : Nat} {h0 : Tr HBlk} {n0 : Nat} {F0 : PH} (hd : D h0 n0) (hs : F0.sub h0) : C LW fl 81 [(.agg [(.func 99 [] []), (.func 91 [] [])]), (.agg [(i64 a1_0), (i64 a1_1)]), (.agg [(i64 a2_0), (i64 a2_1)])] ⟨h0, n0⟩ (KS (.agg [(i64 r.1), (i64 r.2)]) n0 h0) := by
  unfold sf81 at hF
  refine in_cT hd hs lw81 rfl rfl (by rfl) (fun st T hT => ?_)
  have hfl : n0 ≤ n0 := Nat.le_refl n0
  have t0 := hT 0 _ rfl
  have t1 := hT 1 _ rfl
  have t2 := hT 2 _ rfl
  dsimp only [L81]
  refine w_seq ?_; refine w_reg ?_; refine v_box st (fun b1 h2 n3 st => ?_); refine v_box st (fun b4 h5 n6 st => ?_); refine v_box st (fun b7 h8 n9 st => ?_); refine v_alloc st (fun b10 h11 n12 st => ?_); refine r_nil ?_; refine th_n ?_; refine w_seq ?_; refine w_drawV (Nat.le_trans hfl st.ext.le) (fun dw => ?_)
  have wf := Wf.start st
  refine y_pure st.d dw (fun hm vw => v_fa pr_nil) ?_; refine y_pure st.d dw (fun hm vw => v_ld1 (vw.bx (st.at (i := 0) rfl)) rfl pr_nil) ?_; refine y_pure st.d dw (fun hm vw => v_ldn (vs := [(i64 a1_0), (i64 a1_1)]) (vw.bx (st.at (i := 1) rfl)) rfl pr_nil) ?_; obtain ⟨v13, e14, hF⟩ := bnd_some hF; refine y_flat st.d dw (fun hm vw => u_call (ct99 N e14 vw.d (FF.sub wf st vw) ) (fun n' hn' => pf_nil hn')) (fun n15 hn' dw => ?_); refine y_pure st.d dw (fun hm vw => v_fa pr_nil) ?_; refine y_pure st.d dw (fun hm vw => v_ld1 (vw.bx (st.at (i := 0) rfl)) rfl pr_nil) ?_; refine y_pure st.d dw (fun hm vw => v_ldn (vs := [(i64 a2_0), (i64 a2_1)]) (vw.bx (st.at (i := 2) rfl)) rfl pr_nil) ?_; refine y_end st.d dw rfl (fun h16 ex vs => ?_)
  have st := st.ext1 ex
  obtain ⟨v17, e18, hF⟩ := bnd_some hF; refine v_call st (ct91 N e18 st.d st.sub ) (fun n19 st => ?_); refine v_build (cs := [(i64 v13), (i64 v17)]) rfl ?_; refine v_st (cs' := [(i64 v13), (i64 v17)]) st 3 rfl rfl rfl rfl hfl (fun h20 st => ?_); refine r_nil ?_; refine th_n ?_; refine w_ret ?_; obtain rfl := inj hF
  exact end_s st (Res.c gA (st.at (i := 3) rfl).2.2 (show takeN _ _ = some [(i64 v13), (i64 v17)] from rfl) Res.nil) rfl rfl
theorem ct29 (N : Nat) {a0_0 : Int} {a0_1 : Int} {r : Bool} (hF : sf29 N a0_0 a0_1 = some r) {fl : Nat} {h0 : Tr HBlk} {n0 : Nat} {F0 : PH} (hd : D h0 n0) (hs : F0.sub h0) : C LW fl 29 [(.agg [(i64 a0_0), (i64 a0_1)])] ⟨h0, n0⟩ (KS (.bool r) n0 h0) := by
  unfold sf29 at hF
  refine in_cT hd hs lw29 rfl rfl (by rfl) (fun st T hT => ?_)
  have hfl : n0 ≤ n0 := Nat.le_refl n0
  have t0 := hT 0 _ rfl
  dsimp only [L29]
  refine w_seq ?_; refine w_reg ?_; refine v_box st (fun b1 h2 n3 st => ?_); refine v_move ?_; refine r_nil ?_; refine th_n ?_; refine w_seq ?_; refine w_reg ?_; refine v_ldn (vs := [(i64 a0_0), (i64 a0_1)]) (st.at (i := 0) rfl).2.2 rfl ?_; obtain ⟨v4, e5, hF⟩ := bnd_some hF; refine v_call st (ct34 N e5 st.d st.sub ) (fun n6 st => ?_); refine v_move ?_; refine r_nil ?_; refine th_n ?_; refine w_ret ?_; obtain rfl := inj hF
  exact end_s st (Res.t gA Res.nil) rfl rfl
theorem ct70 (N : Nat) {a0_0 : Int} {a0_1 : Int} {a0_2 : Int} {r : Bool} (hF : sf70 N a0_0 a0_1 a0_2 = some r) {fl : Nat} {h0 : Tr HBlk} {n0 : Nat} {F0 : PH} (hd : D h0 n0) (hs : F0.sub h0) : C LW fl 70 [(.agg [(i64 a0_0), (i64 a0_1), (i64 a0_2)])] ⟨h0, n0⟩ (KS (.bool r) n0 h0) := by
  unfold sf70 at hF
  refine in_cT hd hs lw70 rfl rfl (by rfl) (fun st T hT => ?_)
  have hfl : n0 ≤ n0 := Nat.le_refl n0
  have t0 := hT 0 _ rfl
  dsimp only [L70]
  refine w_seq ?_; refine w_reg ?_; refine v_box st (fun b1 h2 n3 st => ?_); refine v_move ?_; refine r_nil ?_; refine th_n ?_; refine w_seq ?_; refine w_reg ?_; refine v_fa ?_; refine v_ld1 (st.at (i := 0) rfl).2.2 rfl ?_; obtain ⟨v4, e5, hF⟩ := bnd_some hF; refine v_call st (ct55 N e5 st.d st.sub ) (fun n6 st => ?_); refine v_move ?_
  rcases Bool.eq_false_or_eq_true v4 with hb7 | hb7
  · have hF := bif_t hb7 hF; refine g_take hb7 (v_fa ?_); refine g_take hb7 (v_ldn (vs := [(i64 a0_1), (i64 a0_2)]) (st.at (i := 0) rfl).2.2 rfl ?_); obtain ⟨v8, e9, hF⟩ := bnd_some hF; refine g_take hb7 (v_call st (ct34 N e9 st.d st.sub ) (fun n10 st => ?_)); refine v_pick hb7 ?_; refine v_move ?_; refine r_nil ?_; refine th_n ?_; refine w_ret ?_; obtain rfl := inj hF
    exact end_s st (Res.t gA Res.nil) rfl rfl
  · have hF := bif_f hb7 hF; refine g_skip hb7 ?_; refine g_skip hb7 ?_; refine g_skip hb7 ?_; refine v_pick' hb7 ?_; refine v_move ?_; refine r_nil ?_; refine th_n ?_; refine w_ret ?_; obtain rfl := inj hF
    exact end_s st (Res.t gA Res.nil) rfl rfl
end Go.Hx.V

/- Functions of the program come to that. -/
namespace Go.Hx.V
open Go.Hx
set_option linter.unusedVariables false
set_option maxRecDepth 20000
set_option maxHeartbeats 4000000
attribute [local irreducible] W R C thenH inBlockH Tr.get Tr.set lo ck bnd ix iter
theorem ct74 (N : Nat) {a0 : (List (Int × Int))} {r : Int} (hF : sf74 N a0 = some r) {fl : Nat} {h0 : Tr HBlk} {n0 : Nat} {F0 : PH} (hd : D h0 n0) (hs : F0.sub h0) {pa0 : Option (Nat × Nat)} {ca0 : Nat} (ra0 : RowF (rP rI rI) 2 F0 pa0 ca0 a0) : C LW fl 74 [(.slice pa0 (a0).length ca0)] ⟨h0, n0⟩ (KS (i64 r) n0 h0) := by
  unfold sf74 at hF
  refine in_cT hd hs lw74 rfl rfl (by rfl) (fun st T hT => ?_)
  have hfl : n0 ≤ n0 := Nat.le_refl n0
  have t0 := hT 0 _ rfl
  dsimp only [L74]
  refine w_seq ?_; refine w_reg ?_; refine v_move ?_; refine r_nil ?_; refine th_n ?_; refine w_seq ?_; refine w_seq ?_; refine w_reg ?_; refine v_move ?_; refine v_len ?_; refine v_gtr ?_; refine r_nil ?_; refine th_n ?_; refine v_cond (fun hb1 => ?_) (fun hb1 => ?_)
  · have hF := bif_t hb1 hF; refine w_seq ?_; refine w_reg ?_; refine v_move ?_; refine r_nil ?_; refine th_n ?_; refine w_ret ?_; refine th_r ?_; obtain rfl := inj hF
    exact end_s st (Res.t gA Res.nil) rfl rfl
  · have hF := bif_f hb1 hF; refine w_skip ?_; refine th_n ?_; refine w_seq ?_; refine w_seq ?_; refine w_reg ?_; refine v_move ?_; obtain ⟨v2, e3, hF⟩ := bnd_some hF; refine v_call st (ct97 N e3 st.d st.sub ra0) (fun n4 st => ?_); refine v_not ?_; refine r_nil ?_; refine th_n ?_; refine v_cond (fun hb5 => ?_) (fun hb5 => ?_)
    · have hF := bif_t hb5 hF; refine w_seq ?_; refine w_reg ?_; refine v_move ?_; refine r_nil ?_; refine th_n ?_; refine w_ret ?_; refine th_r ?_; obtain rfl := inj hF
      exact end_s st (Res.t gA Res.nil) rfl rfl
    · have hF := bif_f hb5 hF; refine w_skip ?_; refine th_n ?_; refine w_seq ?_; refine w_reg ?_; refine v_move ?_; refine r_nil ?_; refine th_n ?_; refine w_ret ?_; obtain rfl := inj hF
      exact end_s st (Res.t gA Res.nil) rfl rfl
theorem ct92 (N : Nat) {a0 : (List (Int × Int × Int))} {a1f0_0 : Int} {a1f0_1 : Int} {a1f0_2 : Int} {a1f0_3 : Int} {r : Bool} (hF : sf92 N a0 a1f0_0 a1f0_1 a1f0_2 a1f0_3 = some r) {fl : Nat} {h0 : Tr HBlk} {n0 : Nat} {F0 : PH} (hd : D h0 n0) (hs : F0.sub h0) {pa0 : Option (Nat × Nat)} {ca0 : Nat} (ra0 : RowF (rP rI (rP rI rI)) 3 F0 pa0 ca0 a0) : C LW fl 92 [(.slice pa0 (a0).length ca0), (.func 94 [(.agg [(i64 a1f0_0), (i64 a1f0_1), (i64 a1f0_2), (i64 a1f0_3)])] [])] ⟨h0, n0⟩ (KS (.bool r) n0 h0) := by
  unfold sf92 at hF
  refine in_cT hd hs lw92 rfl rfl (by rfl) (fun st T hT => ?_)
  have hfl : n0 ≤ n0 := Nat.le_refl n0
  have t0 := hT 0 _ rfl
  have t1 := hT 1 _ rfl
  dsimp only [L92]
  refine w_seq ?_; refine w_reg ?_; refine v_move ?_; refine r_nil ?_; refine th_n ?_; refine w_seq ?_; refine w_seq ?_; refine w_reg ?_; refine v_move ?_; refine v_len ?_; refine v_move ?_; refine r_nil ?_; refine th_n ?_; refine w_block ?_; obtain ⟨y14, hy, hF⟩ := bnd_some hF; refine v_loopD (sf92_L1 N a0 a1f0_0 a1f0_1 a1f0_2 a1f0_3) (fun x1 T ds2 h nx => ∃ (F2 : PH), ds2 = [] ∧ PH.le F0 F2 ∧ St n0 h0 F0 F2 h nx [] ∧ T.get 1 = some (.func 94 [(.agg [(i64 a1f0_0), (i64 a1f0_1), (i64 a1f0_2), (i64 a1f0_3)])] []) ∧ T.get 7 = some (.slice pa0 (a0).length ca0) ∧ T.get 8 = some (i64 ((a0).length : Int)) ∧ T.get 9 = some (i64 x1)) (fun y e a σ => (∃ u, y = (.inl u) ∧ e = .ret ∧ a.nt = 18 ∧ ∃ (F16 : PH), a.defers = [] ∧ PH.le F0 F16 ∧ St n0 h0 F0 F16 σ.h σ.nx [] ∧ a.tmps.get 4 = some (.bool false)) ∨ (∃ u, y = (.inr u) ∧ e = .exit 0 ∧ a.nt = 18 ∧ ∃ (F18 : PH), a.defers = [] ∧ PH.le F0 F18 ∧ St n0 h0 F0 F18 σ.h σ.nx [])) (fun x1 T ds2 h nx s hp hF => ?_) N _ y14 _ _ _ _ hy ⟨F0, rfl, (PH.le.refl _), st, gA, gA, gA, gA⟩ (fun e a σ hne hq => ?_)
  · obtain ⟨F2, rfl, le2, st, t1, t7, t8, t9⟩ := hp; unfold sf92_L1 at hF; unfold L92w0; refine w_seq ?_; refine w_reg ?_; refine v_lss ?_; refine r_nil ?_; refine th_n ?_; refine w_seq ?_; refine v_cond (fun hb19 => ?_) (fun hb19 => ?_)
    · have hF := bif_t hb19 hF; refine w_skip ?_; refine th_n ?_; refine w_seq ?_; refine w_block ?_; refine w_seq ?_; refine w_reg ?_; obtain ⟨n20, x20, z20, l20, g20, hF⟩ := ix_some hF; obtain ⟨b20, o20, s20, j20, r20, e20, f20, k20, ⟨_, _, rfl, rfl, ⟨_, _, rfl, rfl, rfl⟩⟩⟩ := RowF.get ra0 g20; refine v_ixp e20 z20 l20 ?_; refine v_ldn (st.sub _ _ (le2 _ _ f20)) k20 ?_; refine v_alloc st (fun b21 h22 n23 st => ?_); refine v_st (cs' := [(i64 x20.1), (i64 x20.2.1), (i64 x20.2.2)]) st 0 rfl rfl rfl rfl hfl (fun h24 st => ?_); refine r_nil ?_; refine th_n ?_; refine w_seq ?_; refine w_reg ?_; refine v_move ?_; refine v_ldn (vs := [(i64 x20.1), (i64 x20.2.1), (i64 x20.2.2)]) (st.at (i := 0) rfl).2.2 rfl ?_
      obtain ⟨v25, e26, hF⟩ := bnd_some hF; refine v_call st (ct94 N e26 st.d st.sub ) (fun n27 st => ?_); refine v_not ?_; refine r_nil ?_; refine th_n ?_; refine v_cond (fun hb28 => ?_) (fun hb28 => ?_)
      · have hF := bif_t hb28 hF; refine w_seq ?_; refine w_reg ?_; refine v_move ?_; refine r_nil ?_; refine th_n ?_; refine w_ret ?_; refine ib_r ?_; refine th_r ?_; refine th_r ?_; refine ⟨_, (inj hF).symm, .inl ⟨_, rfl, rfl, rfl, ?_⟩⟩; dsimp only
        exact ⟨F2, rfl, le2, (st.drop (by first | exact List.Sublist.refl _ | (repeat first | exact List.nil_sublist _ | refine List.Sublist.cons_cons _ ?_ | refine List.Sublist.cons _ ?_))), gA⟩
      · have hF := bif_f hb28 hF; refine w_skip ?_; refine ib_n ?_; refine th_n ?_; refine w_reg ?_; obtain ⟨q29, hF⟩ := ck_some hF; refine v_add q29 ?_; refine v_move ?_; refine r_nil ?_; refine thn ⟨_, (inj hF).symm, rfl, ?_⟩; dsimp only
        exact ⟨F2, rfl, le2, (st.drop (by first | exact List.Sublist.refl _ | (repeat first | exact List.nil_sublist _ | refine List.Sublist.cons_cons _ ?_ | refine List.Sublist.cons _ ?_))), gA, gA, gA, gA⟩
    · have hF := bif_f hb19 hF; refine w_exit ?_; refine th_e ?_; refine th_e ?_; refine ⟨_, (inj hF).symm, .inr (⟨_, rfl, rfl, rfl, ?_⟩)⟩; dsimp only
      exact ⟨F2, rfl, le2, st⟩
  · rcases hq with hq | hq
    · obtain ⟨N9, T, ds16⟩ := a; obtain ⟨h30, n31⟩ := σ; obtain ⟨w15, rfl, rfl, e1, F16, e2, le16, st, t4⟩ := hq
      dsimp only at e1 e2
      subst e1
      subst e2
      dsimp only at st t4
      have hF := sel_l hF; refine ib_r ?_; refine th_r ?_; obtain rfl := inj hF
      exact end_s st (Res.t gA Res.nil) rfl rfl
    · obtain ⟨N9, T, ds18⟩ := a; obtain ⟨h32, n33⟩ := σ; obtain ⟨w17, rfl, rfl, e1, F18, e2, le18, st⟩ := hq
      dsimp only at e1 e2
      subst e1
      subst e2
      dsimp only at st
      have hF := sel_r hF; refine ib_e ?_; refine th_n ?_; refine w_seq ?_; refine w_reg ?_; refine v_move ?_; refine r_nil ?_; refine th_n ?_; refine w_ret ?_; obtain rfl := inj hF
      exact end_s st (Res.t gA Res.nil) rfl rfl
theorem ct103 (N : Nat) {a0_0 : Int} {a0_1 : Int} {a0_2 : Int} {a0_3 : Int} {a0_4 : Int} {r : Bool} (hF : sf103 N a0_0 a0_1 a0_2 a0_3 a0_4 = some r) {fl : Nat} {h0 : Tr HBlk} {n0 : Nat} {F0 : PH} (hd : D h0 n0) (hs : F0.sub h0) : C LW fl 103 [(.agg [(i64 a0_0), (i64 a0_1), (i64 a0_2), (i64 a0_3), (i64 a0_4)])] ⟨h0, n0⟩ (KS (.bool r) n0 h0) := by
  unfold sf103 at hF
  refine in_cT hd hs lw103 rfl rfl (by rfl) (fun st T hT => ?_)
  have hfl : n0 ≤ n0 := Nat.le_refl n0
  have t0 := hT 0 _ rfl
  dsimp only [L103]
  refine w_seq ?_; refine w_reg ?_; refine v_box st (fun b1 h2 n3 st => ?_); refine v_move ?_; refine r_nil ?_; refine th_n ?_; refine w_seq ?_; refine w_reg ?_; refine v_fa ?_; refine v_ldn (vs := [(i64 a0_0), (i64 a0_1)]) (st.at (i := 0) rfl).2.2 rfl ?_; obtain ⟨v4, e5, hF⟩ := bnd_some hF; refine v_call st (ct76 N e5 st.d st.sub ) (fun n6 st => ?_); refine v_alloc st (fun b7 h8 n9 st => ?_); refine v_st (cs' := [(i64 v4.1), (i64 v4.2.1), (.bool v4.2.2)]) st 1 rfl rfl rfl rfl hfl (fun h10 st => ?_); refine r_nil ?_; refine th_n ?_; refine w_seq ?_; refine w_reg ?_; refine v_ldn (vs := [(i64 v4.1), (i64 v4.2.1), (.bool v4.2.2)]) (st.at (i := 1) rfl).2.2 rfl ?_; refine v_fa ?_; refine v_fa ?_
  refine v_ld1 (st.at (i := 0) rfl).2.2 rfl ?_; refine v_fa ?_; refine v_fa ?_; refine v_ld1 (st.at (i := 0) rfl).2.2 rfl ?_; refine v_build (cs := [(i64 a0_2), (i64 a0_2)]) rfl ?_; obtain ⟨v11, e12, hF⟩ := bnd_some hF; refine v_call st (ct77 N e12 st.d st.sub ) (fun n13 st => ?_); refine v_alloc st (fun b14 h15 n16 st => ?_); refine v_st (cs' := [(i64 v11.1), (i64 v11.2)]) st 2 rfl rfl rfl rfl hfl (fun h17 st => ?_); refine r_nil ?_; refine th_n ?_; refine w_seq ?_; refine w_drawV (Nat.le_trans hfl st.ext.le) (fun dw => ?_); obtain ⟨v18, e19, hF⟩ := bnd_some hF; refine y_flat st.d dw (fun hm vw => u_call (ct101 N e19 vw.d (vw.sub st) ) (fun n' hn' => pf_nil hn')) (fun n20 hn' dw => ?_); refine y_pure st.d dw (fun hm vw => v_ldn (vs := [(i64 v4.1), (i64 v4.2.1), (.bool v4.2.2)]) (vw.bx (st.at (i := 1) rfl)) rfl pr_nil) ?_
  refine y_pure st.d dw (fun hm vw => v_fa pr_nil) ?_; refine y_pure st.d dw (fun hm vw => v_ld1 (vw.bx (st.at (i := 2) rfl)) rfl pr_nil) ?_; obtain ⟨q21, hF⟩ := ck_some hF; refine y_pure st.d dw (fun hm vw => v_mul q21 pr_nil) ?_; obtain ⟨v22, e23, hF⟩ := bnd_some hF; refine y_flat st.d dw (fun hm vw => u_call (ct82 N e23 vw.d (vw.sub st) ) (fun n' hn' => pf_nil hn')) (fun n24 hn' dw => ?_); refine y_pure st.d dw (fun hm vw => v_ldn (vs := [(i64 v4.1), (i64 v4.2.1), (.bool v4.2.2)]) (vw.bx (st.at (i := 1) rfl)) rfl pr_nil) ?_; refine y_pure st.d dw (fun hm vw => v_fa pr_nil) ?_; refine y_pure st.d dw (fun hm vw => v_ld1 (vw.bx (st.at (i := 2) rfl)) rfl pr_nil) ?_; obtain ⟨q25, hF⟩ := ck_some hF
  refine y_pure st.d dw (fun hm vw => v_mul q25 pr_nil) ?_; obtain ⟨v26, e27, hF⟩ := bnd_some hF; refine y_flat st.d dw (fun hm vw => u_call (ct82 N e27 vw.d (vw.sub st) ) (fun n' hn' => pf_nil hn')) (fun n28 hn' dw => ?_); obtain ⟨v29, e30, hF⟩ := bnd_some hF; refine y_flat st.d dw (fun hm vw => u_call (ct81 N e30 vw.d (vw.sub st) ) (fun n' hn' => pf_nil hn')) (fun n31 hn' dw => ?_); refine y_lay st.d dw (fun hm vw => u_alloc pr_nil) (fun done dw => ?_); refine y_end st.d dw rfl (fun h32 ex vs => ?_)
  have st := St.laid st ex (Lay.cons (b := n31) (cs := [(i64 (0 : Int)), (i64 (0 : Int))]) (by have := dw.le; omega) (vs _ (List.mem_cons_self ..) _ _ (if_pos rfl)) (Lay.nil (by have := dw.le; omega)))
  refine v_st (cs' := [(i64 v29.1), (i64 v29.2)]) st 3 rfl rfl rfl rfl hfl (fun h33 st => ?_); refine r_nil ?_; refine th_n ?_; refine w_seq ?_; refine w_reg ?_; refine v_fa ?_; refine v_ld1 (st.at (i := 3) rfl).2.2 rfl ?_; refine v_fa ?_; refine v_fa ?_; refine v_fa ?_; refine v_ld1 (st.at (i := 0) rfl).2.2 rfl ?_; refine v_leq ?_; refine v_move ?_
  rcases Bool.eq_false_or_eq_true (decide (v29.1 ≤ a0_4)) with hb34 | hb34
  · have hF := bif_t hb34 hF; refine g_take hb34 (v_fa ?_); refine g_take hb34 (v_fa ?_); refine g_take hb34 (v_fa ?_); refine g_take hb34 (v_ld1 (st.at (i := 0) rfl).2.2 rfl ?_); refine g_take hb34 (v_fa ?_); refine g_take hb34 (v_ld1 (st.at (i := 3) rfl).2.2 rfl ?_); refine g_take hb34 (v_leq ?_); refine v_pick hb34 ?_; refine v_move ?_; refine r_nil ?_; refine th_n ?_; refine w_ret ?_; obtain rfl := inj hF
    exact end_s st (Res.t gA Res.nil) rfl rfl
  · have hF := bif_f hb34 hF; refine g_skip hb34 ?_; refine g_skip hb34 ?_; refine g_skip hb34 ?_; refine g_skip hb34 ?_; refine g_skip hb34 ?_; refine g_skip hb34 ?_; refine g_skip hb34 ?_; refine v_pick' hb34 ?_; refine v_move ?_; refine r_nil ?_; refine th_n ?_; refine w_ret ?_; obtain rfl := inj hF
    exact end_s st (Res.t gA Res.nil) rfl rfl
theorem ct21 (N : Nat) {a0 : (List (Int × Int))} {a1_0 : Int} {a1_1 : Int} {r : Int} (hF : sf21 N a0 a1_0 a1_1 = some r) {fl : Nat} {h0 : Tr HBlk} {n0 : Nat} {F0 : PH} (hd : D h0 n0) (hs : F0.sub h0) {pa0 : Option (Nat × Nat)} {ca0 : Nat} (ra0 : RowF (rP rI rI) 2 F0 pa0 ca0 a0) : C LW fl 21 [(.slice pa0 (a0).length ca0), (.agg [(i64 a1_0), (i64 a1_1)])] ⟨h0, n0⟩ (KS (i64 r) n0 h0) := by
  unfold sf21 at hF
  refine in_cT hd hs lw21 rfl rfl (by rfl) (fun st T hT => ?_)
  have hfl : n0 ≤ n0 := Nat.le_refl n0
  have t0 := hT 0 _ rfl
  have t1 := hT 1 _ rfl
  dsimp only [L21]
  refine w_seq ?_; refine w_reg ?_; refine v_box st (fun b1 h2 n3 st => ?_); refine v_move ?_; refine r_nil ?_; refine th_n ?_; refine w_seq ?_; refine w_seq ?_; refine w_reg ?_; refine v_move ?_; refine v_len ?_; refine v_gtr ?_; refine r_nil ?_; refine th_n ?_; refine v_cond (fun hb4 => ?_) (fun hb4 => ?_)
  · have hF := bif_t hb4 hF; refine w_seq ?_; refine w_reg ?_; refine v_move ?_; refine r_nil ?_; refine th_n ?_; refine w_ret ?_; refine th_r ?_; obtain rfl := inj hF
    exact end_s st (Res.t gA Res.nil) rfl rfl
  · have hF := bif_f hb4 hF; refine w_skip ?_; refine th_n ?_; refine w_seq ?_; refine w_seq ?_; refine w_reg ?_; refine v_move ?_; refine r_nil ?_; refine th_n ?_; refine w_block ?_; obtain ⟨y14, hy, hF⟩ := bnd_some hF; refine v_loopD (sf21_L1 N a0) (fun x5 T ds6 h nx => ∃ (F6 : PH), ds6 = [] ∧ PH.le F0 F6 ∧ St n0 h0 F0 F6 h nx [.bx b1 [(i64 a1_0), (i64 a1_1)]] ∧ T.get 0 = some (.slice pa0 (a0).length ca0) ∧ T.get 3 = some (.ptr (some (b1, 0))) ∧ T.get 5 = some (i64 x5)) (fun y e a σ => (∃ u, y = (.inl u) ∧ e = .ret ∧ a.nt = 24 ∧ ∃ (F16 : PH), a.defers = [] ∧ PH.le F0 F16 ∧ St n0 h0 F0 F16 σ.h σ.nx [.bx b1 [(i64 a1_0), (i64 a1_1)]] ∧ a.tmps.get 4 = some (i64 u)) ∨ (∃ u, y = (.inr u) ∧ e = .exit 0 ∧ a.nt = 24 ∧ ∃ (F18 : PH), a.defers = [] ∧ PH.le F0 F18 ∧ St n0 h0 F0 F18 σ.h σ.nx [.bx b1 [(i64 a1_0), (i64 a1_1)]] ∧ a.tmps.get 3 = some (.ptr (some (b1, 0))))) (fun x5 T ds6 h nx s hp hF => ?_) N _ y14 _ _ _ _ hy ⟨F0, rfl, (PH.le.refl _), st, gA, gA, gA⟩ (fun e a σ hne hq => ?_)
    · obtain ⟨F6, rfl, le6, st, t0, t3, t5⟩ := hp; unfold sf21_L1 at hF; unfold L21w0; refine w_seq ?_; refine w_seq ?_; refine w_reg ?_; refine v_move ?_; refine v_move ?_; refine v_len ?_; refine v_lss ?_; refine r_nil ?_; refine th_n ?_; refine v_cond (fun hb19 => ?_) (fun hb19 => ?_)
      · have hF := bif_t hb19 hF; refine w_skip ?_; refine th_n ?_; refine w_seq ?_; refine w_block ?_; refine w_seq ?_; refine w_reg ?_; refine v_move ?_; refine v_move ?_; obtain ⟨n20, x20, z20, l20, g20, hF⟩ := ix_some hF; obtain ⟨b20, o20, s20, j20, r20, e20, f20, k20, ⟨_, _, rfl, rfl, rfl⟩⟩ := RowF.get ra0 g20; refine v_ixp e20 z20 l20 ?_; refine v_ldn (st.sub _ _ (le6 _ _ f20)) k20 ?_; obtain ⟨v21, e22, hF⟩ := bnd_some hF; refine v_call st (ct20 N e22 st.d st.sub ) (fun n23 st => ?_); refine v_not ?_; refine r_nil ?_; refine th_n ?_; refine v_cond (fun hb24 => ?_) (fun hb24 => ?_)
        · have hF := bif_t hb24 hF; refine w_seq ?_; refine w_reg ?_; refine v_move ?_; refine r_nil ?_; refine th_n ?_; refine w_ret ?_; refine ib_r ?_; refine th_r ?_; refine th_r ?_; refine ⟨_, (inj hF).symm, .inl ⟨_, rfl, rfl, rfl, ?_⟩⟩; dsimp only
          exact ⟨F6, rfl, le6, st, gA⟩
        · have hF := bif_f hb24 hF; refine w_skip ?_; refine ib_n ?_; refine th_n ?_; refine w_reg ?_; refine v_move ?_; obtain ⟨q25, hF⟩ := ck_some hF; refine v_add q25 ?_; refine v_move ?_; refine r_nil ?_; refine thn ⟨_, (inj hF).symm, rfl, ?_⟩; dsimp only
          exact ⟨F6, rfl, le6, st, gA, gA, gA⟩
      · have hF := bif_f hb19 hF; refine w_exit ?_; refine th_e ?_; refine th_e ?_; refine ⟨_, (inj hF).symm, .inr (⟨_, rfl, rfl, rfl, ?_⟩)⟩; dsimp only
        exact ⟨F6, rfl, le6, st, gA⟩
    · rcases hq with hq | hq
      · obtain ⟨N9, T, ds16⟩ := a; obtain ⟨h26, n27⟩ := σ; obtain ⟨w15, rfl, rfl, e1, F16, e2, le16, st, t4⟩ := hq
        dsimp only at e1 e2
        subst e1
        subst e2
        dsimp only at st t4
        have hF := sel_l hF; refine ib_r ?_; refine th_r ?_; obtain rfl := inj hF
        exact end_s st (Res.t gA Res.nil) rfl rfl
      · obtain ⟨N9, T, ds18⟩ := a; obtain ⟨h28, n29⟩ := σ; obtain ⟨w17, rfl, rfl, e1, F18, e2, le18, st, t3⟩ := hq
        dsimp only at e1 e2
        subst e1
        subst e2
        dsimp only at st t3
        have hF := sel_r hF; refine ib_e ?_; refine th_n ?_; refine w_seq ?_; refine w_seq ?_; refine w_reg ?_; refine v_ldn (vs := [(i64 a1_0), (i64 a1_1)]) (st.at (i := 0) rfl).2.2 rfl ?_; obtain ⟨v30, e31, hF⟩ := bnd_some hF; refine v_call st (ct29 N e31 st.d st.sub ) (fun n32 st => ?_); refine v_not ?_; refine r_nil ?_; refine th_n ?_; refine v_cond (fun hb33 => ?_) (fun hb33 => ?_)
        · have hF := bif_t hb33 hF; refine w_seq ?_; refine w_reg ?_; refine v_move ?_; refine r_nil ?_; refine th_n ?_; refine w_ret ?_; refine th_r ?_; obtain rfl := inj hF
          exact end_s st (Res.t gA Res.nil) rfl rfl
        · have hF := bif_f hb33 hF; refine w_skip ?_; refine th_n ?_; refine w_seq ?_; refine w_reg ?_; refine v_move ?_; refine r_nil ?_; refine th_n ?_; refine w_ret ?_; obtain rfl := inj hF
          exact end_s st (Res.t gA Res.nil) rfl rfl
end Go.Hx.V

/- Functions of the program come to that. -/
namespace Go.Hx.V
open Go.Hx
set_option linter.unusedVariables false
set_option maxRecDepth 20000
set_option maxHeartbeats 4000000
attribute [local irreducible] W R C thenH inBlockH Tr.get Tr.set lo ck bnd ix iter
theorem ct67 (N : Nat) {a0 : (List (Int × Int))} {a1 : (List (Int × Int × Int))} {r : Int} (hF : sf67 N a0 a1 = some r) {fl : Nat} {h0 : Tr HBlk} {n0 : Nat} {F0 : PH} (hd : D h0 n0) (hs : F0.sub h0) {pa0 : Option (Nat × Nat)} {ca0 : Nat} {pa1 : Option (Nat × Nat)} {ca1 : Nat} (ra0 : RowF (rP rI rI) 2 F0 pa0 ca0 a0) (ra1 : RowF (rP rI (rP rI rI)) 3 F0 pa1 ca1 a1) : C LW fl 67 [(.slice pa0 (a0).length ca0), (.slice pa1 (a1).length ca1)] ⟨h0, n0⟩ (KS (i64 r) n0 h0) := by
  unfold sf67 at hF
  refine in_cT hd hs lw67 rfl rfl (by rfl) (fun st T hT => ?_)
  have hfl : n0 ≤ n0 := Nat.le_refl n0
  have t0 := hT 0 _ rfl
  have t1 := hT 1 _ rfl
  dsimp only [L67]
  refine w_seq ?_; refine w_reg ?_; refine v_move ?_; refine r_nil ?_; refine th_n ?_; refine w_seq ?_; refine w_seq ?_; refine w_reg ?_; refine v_move ?_; refine v_len ?_; refine v_gtr ?_; refine r_nil ?_; refine th_n ?_; refine v_cond (fun hb1 => ?_) (fun hb1 => ?_)
  · have hF := bif_t hb1 hF; refine w_seq ?_; refine w_reg ?_; refine v_move ?_; refine r_nil ?_; refine th_n ?_; refine w_ret ?_; refine th_r ?_; obtain rfl := inj hF
    exact end_s st (Res.t gA Res.nil) rfl rfl
  · have hF := bif_f hb1 hF; refine w_skip ?_; refine th_n ?_; refine w_seq ?_; refine w_seq ?_; refine w_reg ?_; refine v_move ?_; obtain ⟨v2, e3, hF⟩ := bnd_some hF; refine v_call st (ct74 N e3 st.d st.sub ra0) (fun n4 st => ?_); refine v_move ?_; refine r_nil ?_; refine th_n ?_; refine w_seq ?_; refine w_reg ?_; refine v_move ?_; refine v_nei ?_; refine r_nil ?_; refine th_n ?_; refine v_cond (fun hb5 => ?_) (fun hb5 => ?_)
    · have hF := bif_t hb5 hF; refine w_seq ?_; refine w_reg ?_; refine v_move ?_; refine v_move ?_; refine r_nil ?_; refine th_n ?_; refine w_ret ?_; refine th_r ?_; obtain rfl := inj hF
      exact end_s st (Res.t gA Res.nil) rfl rfl
    · have hF := bif_f hb5 hF; refine w_skip ?_; refine th_n ?_; refine w_seq ?_; refine w_seq ?_; refine w_reg ?_; refine v_move ?_; obtain ⟨v6, e7, hF⟩ := bnd_some hF; refine v_call st (ct93 N e7 st.d st.sub ) (fun n8 st => ?_); refine v_mf ?_; obtain ⟨v9, e10, hF⟩ := bnd_some hF; refine v_call st (ct92 N e10 st.d st.sub ra1) (fun n11 st => ?_); refine v_not ?_; refine r_nil ?_; refine th_n ?_; refine v_cond (fun hb12 => ?_) (fun hb12 => ?_)
      · have hF := bif_t hb12 hF; refine w_seq ?_; refine w_reg ?_; refine v_move ?_; refine r_nil ?_; refine th_n ?_; refine w_ret ?_; refine th_r ?_; obtain rfl := inj hF
        exact end_s st (Res.t gA Res.nil) rfl rfl
      · have hF := bif_f hb12 hF; refine w_skip ?_; refine th_n ?_; refine w_seq ?_; refine w_reg ?_; refine v_move ?_; refine r_nil ?_; refine th_n ?_; refine w_ret ?_; obtain rfl := inj hF
        exact end_s st (Res.t gA Res.nil) rfl rfl
theorem ct68 (N : Nat) {a0 : (List (Int × Int))} {a1 : (List (Int × Int × Int))} {r : (List Int)} (hF : sf68 N a0 a1 = some r) {fl : Nat} {h0 : Tr HBlk} {n0 : Nat} {F0 : PH} (hd : D h0 n0) (hs : F0.sub h0) (hfl : fl ≤ n0) {pa0 : Option (Nat × Nat)} {ca0 : Nat} {pa1 : Option (Nat × Nat)} {ca1 : Nat} (ra0 : RowF (rP rI rI) 2 F0 pa0 ca0 a0) (ra1 : RowF (rP rI (rP rI rI)) 3 F0 pa1 ca1 a1) : C LW fl 68 [(.slice pa0 (a0).length ca0), (.slice pa1 (a1).length ca1)] ⟨h0, n0⟩ (KR (lvL rI 1) F0 h0 n0 r) := by
  unfold sf68 at hF
  refine in_mT hd hs hfl lw68 rfl rfl (by rfl) (fun st T hT => ?_)
  have t0 := hT 0 _ rfl
  have t1 := hT 1 _ rfl
  dsimp only [L68]
  refine w_seq ?_; refine w_reg ?_; refine v_move ?_; refine r_nil ?_; refine th_n ?_; refine w_scope ?_; refine w_seq ?_; refine w_reg ?_; refine v_move ?_; refine r_nil ?_; refine th_n ?_; refine w_seq ?_; refine w_reg ?_
  have w4 : MR (.row [.i .i64, .i .i64, .i .i64, .i .i64, .i .i64]) (fun x : (Int × Int × Int × Int × Int) => HV.agg [HV.int .i64 x.1, HV.int .i64 x.2.1, HV.int .i64 x.2.2.1, HV.int .i64 x.2.2.2.1, HV.int .i64 x.2.2.2.2]) (fun x : Bool => HV.bool x) [] ((fun _ => none) : ((Int × Int × Int × Int × Int) → Option Bool)) := MR.nil (KD.row (KRw.cons (KRw.cons (KRw.cons (KRw.cons KRw.one)))))
  refine v_mm st (fun b1 h2 n3 st => ?_); refine v_move ?_; refine r_nil ?_; refine th_n ?_; refine w_seq ?_; refine w_skip ?_; refine th_n ?_; refine w_seq ?_; refine w_seq ?_; refine w_reg ?_; refine v_move ?_; refine v_len ?_; refine v_move ?_; refine r_nil ?_; refine th_n ?_; refine w_block ?_
  have st := st.nilL 1
  have w5 : LR rI 1 F0 ([] : List Int) [] := LR.nil
  obtain ⟨y94, hy, hF⟩ := bnd_some hF; refine v_loopD (sf68_L2 N a0 a1) (fun x7 T ds8 h nx => ∃ (F8 : PH) (o9 : Option Nat) (c9 : Nat) (cs9 : List HV) (es10 : List (HV × HV)), ds8 = [] ∧ PH.le F0 F8 ∧ St n0 h0 F0 F8 h nx [.any b1 (.map es10), .ls o9 c9 cs9 1] ∧ LR rI 1 F8 x7.1 cs9 ∧ MR (.row [.i .i64, .i .i64, .i .i64, .i .i64, .i .i64]) (fun x : (Int × Int × Int × Int × Int) => HV.agg [HV.int .i64 x.1, HV.int .i64 x.2.1, HV.int .i64 x.2.2.1, HV.int .i64 x.2.2.2.1, HV.int .i64 x.2.2.2.2]) (fun x : Bool => HV.bool x) es10 x7.2.2 ∧ T.get 1 = some (.slice pa1 (a1).length ca1) ∧ T.get 5 = some (slv o9 (x7.1).length c9) ∧ T.get 6 = some (.map (some b1)) ∧ T.get 12 = some (.slice pa0 (a0).length ca0) ∧ T.get 13 = some (i64 ((a0).length : Int)) ∧ T.get 14 = some (i64 x7.2.1)) (fun y e a σ => e = .exit 0 ∧ a.nt = 37 ∧ ∃ (F95 : PH) (o96 : Option Nat) (c96 : Nat) (cs96 : List HV) (es97 : List (HV × HV)), a.defers = [] ∧ PH.le F0 F95 ∧ St n0 h0 F0 F95 σ.h σ.nx [.any b1 (.map es97), .ls o96 c96 cs96 1] ∧ LR rI 1 F95 y.1 cs96 ∧ MR (.row [.i .i64, .i .i64, .i .i64, .i .i64, .i .i64]) (fun x : (Int × Int × Int × Int × Int) => HV.agg [HV.int .i64 x.1, HV.int .i64 x.2.1, HV.int .i64 x.2.2.1, HV.int .i64 x.2.2.2.1, HV.int .i64 x.2.2.2.2]) (fun x : Bool => HV.bool x) es97 y.2 ∧ a.tmps.get 5 = some (slv o96 (y.1).length c96)) (fun x7 T ds8 h nx s hp hF => ?_) N _ y94 _ _ _ _ hy ⟨F0, none, 0, [], [], rfl, (PH.le.refl _), st, w5, w4, gA, gA, gA, gA, gA, gA⟩ (fun e a σ hne hq => ?_)
  · obtain ⟨F8, o9, c9, cs9, es10, rfl, le8, st, w9, w10, t1, t5, t6, t12, t13, t14⟩ := hp; unfold sf68_L2 at hF; unfold L68w1; refine w_seq ?_; refine w_reg ?_; refine v_lss ?_; refine r_nil ?_; refine th_n ?_; refine w_seq ?_; refine v_cond (fun hb98 => ?_) (fun hb98 => ?_)
    · have hF := bif_t hb98 hF; refine w_skip ?_; refine th_n ?_; refine w_seq ?_; refine w_block ?_; refine w_seq ?_; refine w_reg ?_; refine v_move ?_; obtain ⟨n99, x99, z99, l99, g99, hF⟩ := ix_some hF; obtain ⟨b99, o99, s99, j99, r99, e99, f99, k99, ⟨_, _, rfl, rfl, rfl⟩⟩ := RowF.get ra0 g99; refine v_ixp e99 z99 l99 ?_; refine v_ldn (st.sub _ _ (le8 _ _ f99)) k99 ?_; refine v_alloc st (fun b100 h101 n102 st => ?_); refine v_move ?_; refine v_st (cs' := [(i64 x99.1), (i64 x99.2)]) st 2 rfl rfl rfl rfl hfl (fun h103 st => ?_); refine r_nil ?_; refine th_n ?_; refine w_seq ?_; refine w_seq ?_; refine w_reg ?_; refine v_move ?_; refine v_len ?_; refine v_move ?_; refine r_nil ?_; refine th_n ?_
      refine w_block ?_; obtain ⟨y135, hy, hF⟩ := bnd_some hF; refine v_loopD (sf68_L1 N a1 x99) (fun x104 T ds105 h nx => ∃ (F105 : PH) (es106 : List (HV × HV)), ds105 = [] ∧ PH.le F8 F105 ∧ St n0 h0 F0 F105 h nx [.any b1 (.map es106), .ls o9 c9 cs9 1, .bx b100 [(i64 x99.1), (i64 x99.2)]] ∧ MR (.row [.i .i64, .i .i64, .i .i64, .i .i64, .i .i64]) (fun x : (Int × Int × Int × Int × Int) => HV.agg [HV.int .i64 x.1, HV.int .i64 x.2.1, HV.int .i64 x.2.2.1, HV.int .i64 x.2.2.2.1, HV.int .i64 x.2.2.2.2]) (fun x : Bool => HV.bool x) es106 x104.2 ∧ T.get 1 = some (.slice pa1 (a1).length ca1) ∧ T.get 5 = some (slv o9 (x7.1).length c9) ∧ T.get 6 = some (.map (some b1)) ∧ T.get 7 = some (i64 x7.2.1) ∧ T.get 8 = some (.ptr (some (b100, 0))) ∧ T.get 12 = some (.slice pa0 (a0).length ca0) ∧ T.get 13 = some (i64 ((a0).length : Int)) ∧ T.get 14 = some (i64 x7.2.1) ∧ T.get 19 = some (.slice pa1 (a1).length ca1) ∧ T.get 20 = some (i64 ((a1).length : Int)) ∧ T.get 21 = some (i64 x104.1)) (fun y e a σ => (∃ u, y = (.inl u) ∧ e = .exit 1 ∧ a.nt = 37 ∧ ∃ (F137 : PH) (es138 : List (HV × HV)), a.defers = [] ∧ PH.le F8 F137 ∧ St n0 h0 F0 F137 σ.h σ.nx [.any b1 (.map es138), .ls o9 c9 cs9 1, .bx b100 [(i64 x99.1), (i64 x99.2)]] ∧ MR (.row [.i .i64, .i .i64, .i .i64, .i .i64, .i .i64]) (fun x : (Int × Int × Int × Int × Int) => HV.agg [HV.int .i64 x.1, HV.int .i64 x.2.1, HV.int .i64 x.2.2.1, HV.int .i64 x.2.2.2.1, HV.int .i64 x.2.2.2.2]) (fun x : Bool => HV.bool x) es138 u ∧ a.tmps.get 1 = some (.slice pa1 (a1).length ca1) ∧ a.tmps.get 5 = some (slv o9 (x7.1).length c9) ∧ a.tmps.get 6 = some (.map (some b1)) ∧ a.tmps.get 12 = some (.slice pa0 (a0).length ca0) ∧ a.tmps.get 13 = some (i64 ((a0).length : Int)) ∧ a.tmps.get 14 = some (i64 x7.2.1)) ∨ (∃ u, y = (.inr u) ∧ e = .exit 2 ∧ a.nt = 37 ∧ ∃ (F140 : PH) (es141 : List (HV × HV)), a.defers = [] ∧ PH.le F8 F140 ∧ St n0 h0 F0 F140 σ.h σ.nx [.any b1 (.map es141), .ls o9 c9 cs9 1, .bx b100 [(i64 x99.1), (i64 x99.2)]] ∧ MR (.row [.i .i64, .i .i64, .i .i64, .i .i64, .i .i64]) (fun x : (Int × Int × Int × Int × Int) => HV.agg [HV.int .i64 x.1, HV.int .i64 x.2.1, HV.int .i64 x.2.2.1, HV.int .i64 x.2.2.2.1, HV.int .i64 x.2.2.2.2]) (fun x : Bool => HV.bool x) es141 u ∧ a.tmps.get 1 = some (.slice pa1 (a1).length ca1) ∧ a.tmps.get 5 = some (slv o9 (x7.1).length c9) ∧ a.tmps.get 6 = some (.map (some b1)) ∧ a.tmps.get 7 = some (i64 x7.2.1) ∧ a.tmps.get 12 = some (.slice pa0 (a0).length ca0) ∧ a.tmps.get 13 = some (i64 ((a0).length : Int)) ∧ a.tmps.get 14 = some (i64 x7.2.1))) (fun x104 T ds105 h nx s hp hF => ?_) N _ y135 _ _ _ _ hy ⟨F8, es10, rfl, (PH.le.refl _), st, w10, gA, gA, gA, gA, gA, gA, gA, gA, gA, gA, gA⟩ (fun e a σ hne hq => ?_)
      · obtain ⟨F105, es106, rfl, le105, st, w106, t1, t5, t6, t7, t8, t12, t13, t14, t19, t20, t21⟩ := hp
        have le107 := PH.le.trans le8 le105
        unfold sf68_L1 at hF; unfold L68w0; refine w_seq ?_; refine w_reg ?_; refine v_lss ?_; refine r_nil ?_; refine th_n ?_; refine w_seq ?_; refine v_cond (fun hb142 => ?_) (fun hb142 => ?_)
        · have hF := bif_t hb142 hF; refine w_skip ?_; refine th_n ?_; refine w_seq ?_; refine w_block ?_; refine w_seq ?_; refine w_reg ?_; obtain ⟨n143, x143, z143, l143, g143, hF⟩ := ix_some hF; obtain ⟨b143, o143, s143, j143, r143, e143, f143, k143, ⟨_, _, rfl, rfl, ⟨_, _, rfl, rfl, rfl⟩⟩⟩ := RowF.get ra1 g143; refine v_ixp e143 z143 l143 ?_; refine v_ldn (st.sub _ _ (le107 _ _ f143)) k143 ?_; refine v_alloc st (fun b144 h145 n146 st => ?_); refine v_st (cs' := [(i64 x143.1), (i64 x143.2.1), (i64 x143.2.2)]) st 3 rfl rfl rfl rfl hfl (fun h147 st => ?_); refine r_nil ?_; refine th_n ?_; refine w_seq ?_; refine w_reg ?_; refine v_move ?_; refine v_ldn (vs := [(i64 x99.1), (i64 x99.2)]) (st.at (i := 2) rfl).2.2 rfl ?_
          refine v_ldn (vs := [(i64 x143.1), (i64 x143.2.1), (i64 x143.2.2)]) (st.at (i := 3) rfl).2.2 rfl ?_; refine v_inl lw95 rfl rfl (fun T hT => ?_)
          have t0 := hT 0 _ rfl
          have t1 := hT 1 _ rfl
          have t2 := hT 2 _ rfl
          dsimp only [L95]
          refine w_seq ?_; refine w_reg ?_; refine v_box st (fun b149 h150 n151 st => ?_); refine v_box st (fun b152 h153 n154 st => ?_); refine v_move ?_; refine r_nil ?_; refine th_n ?_; refine w_seq ?_; refine w_reg ?_; refine v_ldn (vs := [(i64 x99.1), (i64 x99.2)]) (st.at (i := 4) rfl).2.2 rfl ?_; refine v_ldn (vs := [(i64 x143.1), (i64 x143.2.1), (i64 x143.2.2)]) (st.at (i := 5) rfl).2.2 rfl ?_; refine v_build (cs := [(i64 x99.1), (i64 x99.2), (i64 x143.1), (i64 x143.2.1), (i64 x143.2.2)]) rfl ?_; refine v_alloc st (fun b155 h156 n157 st => ?_); refine v_st (cs' := [(i64 x99.1), (i64 x99.2), (i64 x143.1), (i64 x143.2.1), (i64 x143.2.2)]) st 6 rfl rfl rfl rfl hfl (fun h158 st => ?_); refine r_nil ?_
          refine th_n ?_; refine w_seq ?_; refine w_reg ?_; refine v_move ?_; refine v_ldn (vs := [(i64 x99.1), (i64 x99.2), (i64 x143.1), (i64 x143.2.1), (i64 x143.2.2)]) (st.at (i := 6) rfl).2.2 rfl ?_; refine v_lk2 w106 (st.at (i := 0) rfl).2.2 (x99.1, x99.2, x143.1, x143.2.1, x143.2.2) false (kv := (.agg [(i64 x99.1), (i64 x99.2), (i64 x143.1), (i64 x143.2.1), (i64 x143.2.2)])) rfl rfl ?_; refine v_move ?_; refine v_xt rfl ?_; refine v_xt rfl ?_; refine v_move ?_; refine v_move ?_; refine r_nil ?_; refine th_n ?_; refine w_seq ?_; refine w_seq ?_; refine w_reg ?_; refine v_move ?_; refine v_not ?_; refine r_nil ?_; refine th_n ?_; refine v_cond (fun hb159 => ?_) (fun hb159 => ?_)
          · have hF := bif_t hb159 hF; refine w_seq ?_; refine w_reg ?_; refine v_ldn (vs := [(i64 x99.1), (i64 x99.2), (i64 x143.1), (i64 x143.2.1), (i64 x143.2.2)]) (st.at (i := 6) rfl).2.2 rfl ?_; obtain ⟨v160, e161, hF⟩ := bnd_some hF; refine v_call st (ct103 N e161 st.d st.sub ) (fun n162 st => ?_); refine v_move ?_; refine r_nil ?_; refine th_n ?_; refine w_reg ?_; refine v_move ?_; refine v_ldn (vs := [(i64 x99.1), (i64 x99.2), (i64 x143.1), (i64 x143.2.1), (i64 x143.2.2)]) (st.at (i := 6) rfl).2.2 rfl ?_; refine v_move ?_; refine v_mu st 0 rfl w106 (x99.1, x99.2, x143.1, x143.2.1, x143.2.2) v160 (kv := (.agg [(i64 x99.1), (i64 x99.2), (i64 x143.1), (i64 x143.2.1), (i64 x143.2.2)])) (vv := (.bool v160)) rfl rfl hfl (fun es163 h164 w163 st => ?_)
            refine r_nil ?_; refine th_n ?_; refine w_seq ?_; refine w_reg ?_; refine v_move ?_; refine v_move ?_; refine r_nil ?_; refine th_n ?_; refine w_ret ?_; refine inl_end (v := (.bool v160)) (Res.t gA Res.nil) rfl (.inl rfl) (ik ?_); refine v_not ?_; refine r_nil ?_; refine th_n ?_; refine v_cond (fun hb165 => ?_) (fun hb165 => ?_)
            · have hF := bif_t hb165 hF; refine w_exit ?_
              refine ib_x (by decide) ?_
              refine th_e ?_; refine th_e ?_; refine ⟨_, (inj hF).symm, .inl ⟨_, rfl, rfl, rfl, ?_⟩⟩; dsimp only
              exact ⟨F105, es163, rfl, le105, (st.drop (by first | exact List.Sublist.refl _ | (repeat first | exact List.nil_sublist _ | refine List.Sublist.cons_cons _ ?_ | refine List.Sublist.cons _ ?_))), w163, gA, gA, gA, gA, gA, gA⟩
            · have hF := bif_f hb165 hF; refine w_skip ?_; refine ib_n ?_; refine th_n ?_; refine w_reg ?_; obtain ⟨q166, hF⟩ := ck_some hF; refine v_add q166 ?_; refine v_move ?_; refine r_nil ?_; refine thn ⟨_, (inj hF).symm, rfl, ?_⟩; dsimp only
              exact ⟨F105, es163, rfl, le105, (st.drop (by first | exact List.Sublist.refl _ | (repeat first | exact List.nil_sublist _ | refine List.Sublist.cons_cons _ ?_ | refine List.Sublist.cons _ ?_))), w163, gA, gA, gA, gA, gA, gA, gA, gA, gA, gA, gA⟩
          · have hF := bif_f hb159 hF; refine w_skip ?_; refine th_n ?_; refine w_seq ?_; refine w_reg ?_; refine v_move ?_; refine v_move ?_; refine r_nil ?_; refine th_n ?_; refine w_ret ?_; refine inl_end (v := (.bool (Option.getD (x104.2 (x99.1, x99.2, x143.1, x143.2.1, x143.2.2)) false))) (Res.t gA Res.nil) rfl (.inl rfl) (ik ?_); refine v_not ?_; refine r_nil ?_; refine th_n ?_; refine v_cond (fun hb167 => ?_) (fun hb167 => ?_)
            · have hF := bif_t hb167 hF; refine w_exit ?_
              refine ib_x (by decide) ?_
              refine th_e ?_; refine th_e ?_; refine ⟨_, (inj hF).symm, .inl ⟨_, rfl, rfl, rfl, ?_⟩⟩; dsimp only
              exact ⟨F105, es106, rfl, le105, (st.drop (by first | exact List.Sublist.refl _ | (repeat first | exact List.nil_sublist _ | refine List.Sublist.cons_cons _ ?_ | refine List.Sublist.cons _ ?_))), w106, gA, gA, gA, gA, gA, gA⟩
            · have hF := bif_f hb167 hF; refine w_skip ?_; refine ib_n ?_; refine th_n ?_; refine w_reg ?_; obtain ⟨q168, hF⟩ := ck_some hF; refine v_add q168 ?_; refine v_move ?_; refine r_nil ?_; refine thn ⟨_, (inj hF).symm, rfl, ?_⟩; dsimp only
              exact ⟨F105, es106, rfl, le105, (st.drop (by first | exact List.Sublist.refl _ | (repeat first | exact List.nil_sublist _ | refine List.Sublist.cons_cons _ ?_ | refine List.Sublist.cons _ ?_))), w106, gA, gA, gA, gA, gA, gA, gA, gA, gA, gA, gA⟩
        · have hF := bif_f hb142 hF; refine w_exit ?_; refine th_e ?_; refine th_e ?_; refine ⟨_, (inj hF).symm, .inr (⟨_, rfl, rfl, rfl, ?_⟩)⟩; dsimp only
          exact ⟨F105, es106, rfl, le105, st, w106, gA, gA, gA, gA, gA, gA, gA⟩
      · rcases hq with hq | hq
        · obtain ⟨N9, T, ds137⟩ := a; obtain ⟨h170, n171⟩ := σ; obtain ⟨w136, rfl, rfl, e1, F137, es138, e2, le137, st, w138, t1, t5, t6, t12, t13, t14⟩ := hq
          dsimp only at e1 e2
          subst e1
          subst e2
          dsimp only at st t1 t5 t6 t12 t13 t14
          have le169 := PH.le.trans le8 le137
          have hF := sel_l hF
          refine ib_x (by decide) ?_
          refine th_e ?_; refine ib_e ?_; refine th_n ?_; refine w_reg ?_; obtain ⟨q172, hF⟩ := ck_some hF; refine v_add q172 ?_; refine v_move ?_; refine r_nil ?_; refine thn ⟨_, (inj hF).symm, rfl, ?_⟩; dsimp only
          exact ⟨F137, o9, c9, cs9, es138, rfl, le169, (st.drop (by first | exact List.Sublist.refl _ | (repeat first | exact List.nil_sublist _ | refine List.Sublist.cons_cons _ ?_ | refine List.Sublist.cons _ ?_))), (LR.mono le137 w9), w138, gA, gA, gA, gA, gA, gA⟩
        · obtain ⟨N9, T, ds140⟩ := a; obtain ⟨h174, n175⟩ := σ; obtain ⟨w139, rfl, rfl, e1, F140, es141, e2, le140, st, w141, t1, t5, t6, t7, t12, t13, t14⟩ := hq
          dsimp only at e1 e2
          subst e1
          subst e2
          dsimp only at st t1 t5 t6 t7 t12 t13 t14
          have le173 := PH.le.trans le8 le140
          have hF := sel_r hF; refine ib_e ?_; refine th_n ?_; refine w_reg ?_; refine v_move ?_; refine v_move ?_; refine v_bs (cs := [(i64 x7.2.1)]) st rfl (fun b176 h177 n178 st => ?_); obtain ⟨q179, hF⟩ := ck_some hF
          have w179 : LR rI 1 F140 (x7.1 ++ [x7.2.1]) (cs9 ++ [(i64 x7.2.1)]) := LR.app (LR.mono le140 w9) (LR.one (rfl))
          refine v_aps (n := 1) (ox := 0) (m := (x7.1 ++ [x7.2.1]).length) (row := [(i64 x7.2.1)]) st 1 rfl (LR.mono le140 w9).1 (st.at (i := 3) rfl).2.2 rfl rfl q179 hfl (by decide) (by decide) (by simp) (fun o179 c179 h179 n179 st => ?_)
          refine v_move ?_; refine r_nil ?_; refine ib_n ?_; refine th_n ?_; refine w_reg ?_; obtain ⟨q180, hF⟩ := ck_some hF; refine v_add q180 ?_; refine v_move ?_; refine r_nil ?_; refine thn ⟨_, (inj hF).symm, rfl, ?_⟩; dsimp only
          exact ⟨F140, o179, c179, (cs9 ++ [(i64 x7.2.1)]), es141, rfl, le173, (st.drop (by first | exact List.Sublist.refl _ | (repeat first | exact List.nil_sublist _ | refine List.Sublist.cons_cons _ ?_ | refine List.Sublist.cons _ ?_))), w179, w141, gA, gA, gA, gA, gA, gA⟩
    · have hF := bif_f hb98 hF; refine w_exit ?_; refine th_e ?_; refine th_e ?_; refine ⟨_, (inj hF).symm, rfl, rfl, ?_⟩; dsimp only
      exact ⟨F8, o9, c9, cs9, es10, rfl, le8, st, w9, w10, gA⟩
  · obtain ⟨N9, T, ds95⟩ := a; obtain ⟨h181, n182⟩ := σ; obtain ⟨rfl, e1, F95, o96, c96, cs96, es97, e2, le95, st, w96, w97, t5⟩ := hq
    dsimp only at e1 e2
    subst e1
    subst e2
    dsimp only at st t5
    refine ib_e ?_; refine th_n ?_; refine w_seq ?_; refine w_reg ?_; refine v_move ?_; refine v_move ?_; refine r_nil ?_; refine th_n ?_; refine w_ret ?_; obtain rfl := inj hF
    obtain ⟨F183, le183, st, rf183⟩ := St.freeze st 1 rfl w96 (by decide)
    have le184 := PH.le.trans le95 le183
    exact end_r st (Res.t gA Res.nil) ⟨_, _, rfl, rf183⟩
end Go.Hx.V

