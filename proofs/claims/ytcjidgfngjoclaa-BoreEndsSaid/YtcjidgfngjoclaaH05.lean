/- The functions of the program, as the plain machine runs them. -/
import Derived.Test.YtcjidgfngjoclaaH04
import Derived.ProofKit
import Derived.Test.YtcjidgfngjoclaaH02
import Derived.Test.YtcjidgfngjoclaaH03
set_option linter.all false
/- The functions of the program, as the plain machine runs them. -/
namespace Go.Hx
set_option maxRecDepth 100000
noncomputable def L83r0 : List LOper := [(og 22 (.bin .leq (.t 20) (.t 21)) 18 .true), (o 23 (.pick (.t 18) (.t 22) (.c (.bool .false)))), (o 6 (.move (.t 23)))]
noncomputable def L83r1 : List LOper := ((o 17 (.pick (.t 11) (.t 16) (.c (.bool .false)))) :: (o 18 (.move (.t 17))) :: (og 19 (.fieldAddr 1 (.t 3)) 18 .true) :: (og 20 (.load .false 1 (.t 19)) 18 .true) :: (og 21 (.move (.t 2)) 18 .true) :: L83r0)
noncomputable def L83r2 : List LOper := ((og 12 (.fieldAddr 0 (.t 3)) 11 .true) :: (og 13 (.load .false 1 (.t 12)) 11 .true) :: (og 14 (.fieldAddr 1 (.t 3)) 11 .true) :: (og 15 (.load .false 1 (.t 14)) 11 .true) :: (og 16 (.bin .leq (.t 13) (.t 15)) 11 .true) :: L83r1)
noncomputable def L83s0 : LCode := (.seq (.reg ((o 7 (.move (.t 1))) :: (o 8 (.fieldAddr 0 (.t 3))) :: (o 9 (.load .false 1 (.t 8))) :: (o 10 (.bin .leq (.t 7) (.t 9))) :: (o 11 (.move (.t 10))) :: L83r2)) .ret)
noncomputable def L83 : LFunc := ⟨24, (.seq (.reg [(o 3 (.box (.t 0))), (o 6 (.move (.c (.bool .false))))]) L83s0), [(.t 6)], .false, .none, viaOff Go.Proofs.Try.prog⟩
theorem lp83 : LP 83 = some L83 := by kernel_rfl
noncomputable def L91r0 : List LOper := [(o 10 (.indexAddrA 13 1 (.t 9) (.t 6))), (o 11 (.load .false 1 (.t 10))), (o 4 (.move (.t 11)))]
noncomputable def L91s0 : LCode := (.seq (.reg ((o 5 (.move (.t 0))) :: (o 6 (.move (.t 1))) :: (o 7 (.nilCheck (.t 5))) :: (o 8 (.fieldAddr 1 (.t 7))) :: (o 9 (.indexAddrA 13 13 (.t 8) (.c (.int .i64 0)))) :: L91r0)) .ret)
noncomputable def L91 : LFunc := ⟨12, (.seq (.reg [(o 4 (.move (.c (.int .i64 0))))]) L91s0), [(.t 4)], .false, .none, viaOff Go.Proofs.Try.prog⟩
theorem lp91 : LP 91 = some L91 := by kernel_rfl
noncomputable def L103r0 : List LOper := [(o 14 (.fieldAddr 1 (.t 13))), (o 15 (.indexAddrA 13 13 (.t 14) (.t 11))), (o 16 (.indexAddrA 13 1 (.t 15) (.t 12))), (o 17 (.load .false 1 (.t 16))), (o 18 (.bin .add (.t 9) (.t 17))), (o 19 (.bin .geq (.t 18) (.c (.int .i64 0)))), (o 8 (.move (.t 19)))]
noncomputable def L103s0 : LCode := (.seq (.reg ((o 9 (.move (.t 3))) :: (o 10 (.move (.t 0))) :: (o 11 (.move (.t 2))) :: (o 12 (.move (.t 1))) :: (o 13 (.nilCheck (.t 10))) :: L103r0)) .ret)
noncomputable def L103 : LFunc := ⟨20, (.seq (.reg [(o 8 (.move (.c (.bool .false))))]) L103s0), [(.t 8)], .false, .none, viaOff Go.Proofs.Try.prog⟩
theorem lp103 : LP 103 = some L103 := by kernel_rfl
end Go.Hx

/- The functions of the program, of which one is known: the closed examples tell true. -/
namespace Go.Hx
noncomputable section
def spWakes : List HV → HS → Option (HV × HS)
  | [], σ => some (.bool true, σ)
  | _, _ => none
def LW : Nat → Option LFunc := withS LP 19 spWakes
theorem withS_of {lp : Nat → Option LFunc} {f : Nat} {g : List HV → HS → Option (HV × HS)} {k : Nat} {lf : LFunc} (hk : Nat.beq k f = false) (h : lp k = some lf) : withS lp f g k = some lf := by
  unfold withS
  rw [hk]
  exact h
theorem lw_of {k : Nat} {lf : LFunc} (hk : Nat.beq k 19 = false) (h : LP k = some lf) : LW k = some lf := withS_of hk h
theorem lw11 : LW 11 = some L11 := lw_of rfl lp11
theorem lw20 : LW 20 = some L20 := lw_of rfl lp20
theorem lw21 : LW 21 = some L21 := lw_of rfl lp21
theorem lw23 : LW 23 = some L23 := lw_of rfl lp23
theorem lw25 : LW 25 = some L25 := lw_of rfl lp25
theorem lw27 : LW 27 = some L27 := lw_of rfl lp27
theorem lw29 : LW 29 = some L29 := lw_of rfl lp29
theorem lw35 : LW 35 = some L35 := lw_of rfl lp35
theorem lw36 : LW 36 = some L36 := lw_of rfl lp36
theorem lw37 : LW 37 = some L37 := lw_of rfl lp37
theorem lw38 : LW 38 = some L38 := lw_of rfl lp38
theorem lw48 : LW 48 = some L48 := lw_of rfl lp48
theorem lw53 : LW 53 = some L53 := lw_of rfl lp53
theorem lw54 : LW 54 = some L54 := lw_of rfl lp54
theorem lw62 : LW 62 = some L62 := lw_of rfl lp62
theorem lw63 : LW 63 = some L63 := lw_of rfl lp63
theorem lw64 : LW 64 = some L64 := lw_of rfl lp64
theorem lw66 : LW 66 = some L66 := lw_of rfl lp66
theorem lw68 : LW 68 = some L68 := lw_of rfl lp68
theorem lw71 : LW 71 = some L71 := lw_of rfl lp71
theorem lw72 : LW 72 = some L72 := lw_of rfl lp72
theorem lw73 : LW 73 = some L73 := lw_of rfl lp73
theorem lw76 : LW 76 = some L76 := lw_of rfl lp76
theorem lw77 : LW 77 = some L77 := lw_of rfl lp77
theorem lw83 : LW 83 = some L83 := lw_of rfl lp83
theorem lw86 : LW 86 = some L86 := lw_of rfl lp86
theorem lw89 : LW 89 = some L89 := lw_of rfl lp89
theorem lw90 : LW 90 = some L90 := lw_of rfl lp90
theorem lw91 : LW 91 = some L91 := lw_of rfl lp91
theorem lw96 : LW 96 = some L96 := lw_of rfl lp96
theorem lw97 : LW 97 = some L97 := lw_of rfl lp97
theorem lw100 : LW 100 = some L100 := lw_of rfl lp100
theorem lw103 : LW 103 = some L103 := lw_of rfl lp103
theorem V.ct_wakes {fl : Nat} {h : Tr HBlk} {nx : Nat} : C LW fl 19 [] ⟨h, nx⟩ (V.KS (.bool true) nx h) :=
  c_spec (lf := ⟨0, .bad, [], false, some spWakes, fun _ _ => none⟩) rfl rfl rfl (Nat.le_refl _) ⟨rfl, nx, Nat.le_refl _, rfl⟩
end
end Go.Hx

/- What is known of the temporaries, and no more. -/
namespace Go.Hx.V
open Go.Hx
variable {lp : Nat → Option LFunc} {fl nt : Nat} {rd : Option Nat} {Q : HExit → HAct → HS → Prop} {T : Tr HV} {ds : List Nat} {σ : HS} {c : LCode}
end Go.Hx.V

/- Arrays at the end of what a box holds, as functions of places. -/
namespace Go.Hx.V
open Go.Hx
def eI (k : IntKind) (n : Nat) (f : Nat → Int) : List HV := (List.range n).map fun i => .int k (f i)
def eB (n : Nat) (f : Nat → Bool) : List HV := (List.range n).map fun i => .bool (f i)
def ups {α : Type} (f : Nat → α) (j : Nat) (v : α) : Nat → α := fun i => if i = j then v else f i
section
variable {k : IntKind} {n : Nat} {f : Nat → Int} {g : Nat → Bool}
theorem eI_len : (eI k n f).length = n := by unfold eI; rw [List.length_map, List.length_range]
theorem eB_len : (eB n g).length = n := by unfold eB; rw [List.length_map, List.length_range]
theorem eI_one : (eI k n f).all HV.one = true := by
  unfold eI; rw [List.all_map, List.all_eq_true]; intro i _; rfl
theorem eB_one : (eB n g).all HV.one = true := by
  unfold eB; rw [List.all_map, List.all_eq_true]; intro i _; rfl
theorem eI_get {i : Nat} (h : i < n) : (eI k n f)[i]? = some (.int k (f i)) := by
  unfold eI; rw [List.getElem?_map, List.getElem?_range h]; rfl
theorem ovw1 : ∀ (l : List HV) (i : Nat) (v : HV), i < l.length → overwrite l i [v] = some (l.set i v)
  | [], i, v, h => by simp at h
  | x :: l, 0, v, h => by cases l <;> rfl
  | x :: l, i + 1, v, h => by
    show (overwrite l i [v]).map _ = _
    rw [ovw1 l i v (by simpa using h)]; rfl
theorem eI_set {i : Nat} {v : Int} : (eI k n f).set i (.int k v) = eI k n (ups f i v) := by
  apply List.ext_getElem?
  intro j
  rw [List.getElem?_set]
  by_cases hj : j < n
  · rw [eI_get (f := ups f i v) hj, eI_len]
    by_cases e : i = j
    · subst e; rw [if_pos rfl, if_pos hj]; unfold ups; rw [if_pos rfl]
    · rw [if_neg e, eI_get hj]; unfold ups; rw [if_neg (Ne.symm e)]
  · rw [List.getElem?_eq_none (l := eI k n (ups f i v)) (by rw [eI_len]; omega), List.getElem?_eq_none (l := eI k n f) (by rw [eI_len]; omega), eI_len]
    by_cases e : i = j
    · subst e; rw [if_pos rfl, if_neg hj]
    · rw [if_neg e]
theorem ar_get (P : List HV) {p off ix : Nat} (hp : P.length = p) (ho : off = p + ix) (hl : ix < n) : (P ++ eI k n f)[off]? = some (.int k (f ix)) := by
  rw [List.getElem?_append_right (by omega), show off - P.length = ix by omega]; exact eI_get hl
theorem ar_set (P : List HV) {p off ix : Nat} {v : Int} (hp : P.length = p) (ho : off = p + ix) (hl : ix < n) : overwrite (P ++ eI k n f) off [.int k v] = some (P ++ eI k n (ups f ix v)) := by
  rw [ovw1 _ _ _ (by rw [List.length_append, eI_len]; omega), List.set_append_right _ _ (by omega), show off - P.length = ix by omega, eI_set]
end
theorem tk_tail (P1 P2 : List HV) {E : List HV} {m off n : Nat} (h1 : P1.length = off) (hE : E.length = m) (h2 : P2.length + m = n) : takeN n ((P1 ++ (P2 ++ E)).drop off) = some (P2 ++ E) := by
  rw [← h1, List.drop_left, ← h2, ← hE, ← List.length_append]; exact takeN_all _
theorem ov_full : ∀ (q r : List HV), q.length = r.length → overwrite q 0 r = some r
  | [], [], _ => rfl
  | x :: q, [], h => by simp at h
  | [], y :: r, h => by simp at h
  | x :: q, y :: r, h => by
    show (overwrite q 0 r).map _ = _
    rw [ov_full q r (by simpa using h)]; rfl
theorem ov_tail : ∀ (P : List HV) {q r : List HV} {off : Nat}, P.length = off → q.length = r.length → overwrite (P ++ q) off r = some (P ++ r)
  | [], q, r, off, h, e => by rw [← h]; exact ov_full q r e
  | x :: P, q, [], off, h, e => by
    have : q = [] := List.length_eq_zero_iff.1 (by simpa using e)
    subst this
    cases off <;> rfl
  | x :: P, q, y :: r, off, h, e => by
    subst h
    show (overwrite (P ++ q) P.length (y :: r)).map _ = _
    rw [ov_tail P rfl e]; rfl
theorem len_tail (P : List HV) {E : List HV} {m n : Nat} (hE : E.length = m) (h : P.length + m = n) : (P ++ E).length = n := by rw [List.length_append, hE, h]
theorem one_tail (P : List HV) {E : List HV} (h : P.all HV.one = true) (hE : E.all HV.one = true) : (P ++ E).all HV.one = true := by rw [List.all_append, h, hE]; rfl
section
variable {n0 nx : Nat} {h0 h : Tr HBlk} {F0 F : PH} {L : List LE}
theorem St.cells (st : St n0 h0 F0 F h nx L) (i : Nat) {b : Nat} {cs : List HV} (hi : L[i]? = some (.bx b cs)) (cs' : List HV) (he : cs = cs') : St n0 h0 F0 F h nx (L.set i (.bx b cs')) := by
  subst he
  have : L.set i (.bx b cs) = L := by
    apply List.ext_getElem?
    intro j
    rw [List.getElem?_set]
    by_cases e : i = j
    · subst e
      rw [if_pos rfl, hi]
      split
      · rfl
      · rename_i hn; rw [List.getElem?_eq_none (by omega)] at hi; cases hi
    · rw [if_neg e]
  rw [this]; exact st
end
def rF (k : IntKind) (n : Nat) : Rel (Nat → Int) := fun _ f r => r = eI k n f
def rFB (n : Nat) : Rel (Nat → Bool) := fun _ f r => r = eB n f
instance {k : IntKind} {n : Nat} : OkR (rF k n) n := ⟨fun _ h => h, fun h => by rw [h]; exact eI_len, fun h => by rw [h]; exact eI_one⟩
instance {n : Nat} : OkR (rFB n) n := ⟨fun _ h => h, fun h => by rw [h]; exact eB_len, fun h => by rw [h]; exact eB_one⟩
end Go.Hx.V

/- Maps, as functions from keys. -/
namespace Go.Hx.V
set_option linter.unusedVariables false
open Go.Hx
def KD {κ : Type} [DecidableEq κ] (D : ED) (en : κ → HV) : Prop := ∀ a b : κ, eqH D (en a) (en b) = some (decide (a = b))
def KRw {κ : Type} [DecidableEq κ] (ks : List Leaf) (en : κ → List HV) : Prop := ∀ a b : κ, eqRow ks (en a) (en b) = some (decide (a = b))
theorem KD.int {k : IntKind} : KD (.cell (.i k)) (fun x : Int => .int k x) := fun a b => by
  show (if k = k ∧ k = k then some (a == b) else none) = _
  rw [if_pos ⟨rfl, rfl⟩]; rfl
theorem KRw.one {k : IntKind} : KRw [.i k] (fun x : Int => [.int k x]) := fun a b => by
  show (match (if k = k ∧ k = k then some (a == b) else none), some true with | some a, some b => some (a && b) | _, _ => none) = _
  rw [if_pos ⟨rfl, rfl⟩]
  show some ((a == b) && true) = _
  rw [Bool.and_true]; rfl
theorem KRw.cons {κ : Type} [DecidableEq κ] {ks : List Leaf} {en : κ → List HV} {k : IntKind} (h : KRw ks en) : KRw (.i k :: ks) (fun p : Int × κ => .int k p.1 :: en p.2) := fun a b => by
  show (match (if k = k ∧ k = k then some (a.1 == b.1) else none), eqRow ks (en a.2) (en b.2) with | some a, some b => some (a && b) | _, _ => none) = _
  rw [if_pos ⟨rfl, rfl⟩, h a.2 b.2]
  show some ((a.1 == b.1) && decide (a.2 = b.2)) = _
  congr 1
  obtain ⟨a1, a2⟩ := a
  obtain ⟨b1, b2⟩ := b
  by_cases c : a1 = b1
  · by_cases c' : a2 = b2
    · subst c; subst c'; simp
    · simp [c, c']
  · simp [c]
theorem KD.row {κ : Type} [DecidableEq κ] {ks : List Leaf} {en : κ → List HV} (h : KRw ks en) : KD (.row ks) (fun k => .agg (en k)) := h
section
variable {κ β : Type} [DecidableEq κ]
def look : List (κ × β) → κ → Option β
  | [], _ => none
  | (x, v) :: l, k => if k = x then some v else look l k
def putM (k : κ) (v : β) : List (κ × β) → List (κ × β)
  | [] => [(k, v)]
  | (x, u) :: l => if k = x then (k, v) :: l else (x, u) :: putM k v l
def upm (m : κ → Option β) (k : κ) (v : β) : κ → Option β := fun j => if j = k then some v else m j
theorem look_put {k : κ} {v : β} : ∀ (l : List (κ × β)) (j : κ), look (putM k v l) j = if j = k then some v else look l j
  | [], j => rfl
  | (x, u) :: l, j => by
    unfold putM
    by_cases c : k = x
    · rw [if_pos c]
      unfold look
      by_cases c' : j = k
      · rw [if_pos c', if_pos c']
      · rw [if_neg c', if_neg c', if_neg (fun e => c' (e.trans c.symm))]
    · rw [if_neg c]
      unfold look
      by_cases c' : j = x
      · rw [if_pos c', if_neg (fun e => c (e.symm.trans c')), if_pos c']
      · rw [if_neg c', if_neg c', look_put l j]
def MR (D : ED) (en : κ → HV) (ev : β → HV) (es : List (HV × HV)) (m : κ → Option β) : Prop := KD D en ∧ ∃ l : List (κ × β), es = l.map (fun p => (en p.1, ev p.2)) ∧ ∀ k, m k = look l k
theorem MR.nil {D : ED} {en : κ → HV} {ev : β → HV} (h : KD D en) : MR D en ev [] (fun _ => none) := ⟨h, [], rfl, fun _ => rfl⟩
theorem MR.find {D : ED} {en : κ → HV} {ev : β → HV} {es : List (HV × HV)} {m : κ → Option β} (h : MR D en ev es m) (k : κ) : findH D (en k) es = some ((m k).map ev) := by
  obtain ⟨hd, l, rfl, hm⟩ := h
  rw [hm k]
  clear hm
  induction l with
  | nil => rfl
  | cons p l ih =>
    obtain ⟨x, v⟩ := p
    show (match eqH D (en k) (en x) with | some true => some (some (ev v)) | some false => findH D (en k) (l.map fun p : κ × β => (en p.1, ev p.2)) | none => none) = _
    rw [hd k x]
    unfold look
    by_cases c : k = x
    · rw [decide_eq_true c, if_pos c]; rfl
    · rw [decide_eq_false c, if_neg c]; exact ih
theorem MR.upd {D : ED} {en : κ → HV} {ev : β → HV} {es : List (HV × HV)} {m : κ → Option β} (h : MR D en ev es m) (k : κ) (v : β) : ∃ es', updH D (en k) (ev v) es = some es' ∧ MR D en ev es' (upm m k v) := by
  obtain ⟨hd, l, rfl, hm⟩ := h
  refine ⟨(putM k v l).map (fun p => (en p.1, ev p.2)), ?_, hd, putM k v l, rfl, fun j => ?_⟩
  · clear hm
    induction l with
    | nil => rfl
    | cons p l ih =>
      obtain ⟨x, u⟩ := p
      show (match eqH D (en k) (en x) with | some true => some ((en k, ev v) :: l.map fun p : κ × β => (en p.1, ev p.2)) | some false => (updH D (en k) (ev v) (l.map fun p : κ × β => (en p.1, ev p.2))).map ((en x, ev u) :: ·) | none => none) = _
      rw [hd k x]
      unfold putM
      by_cases c : k = x
      · rw [decide_eq_true c, if_pos c]; rfl
      · rw [decide_eq_false c, if_neg c]
        show (updH D (en k) (ev v) (l.map fun p : κ × β => (en p.1, ev p.2))).map ((en x, ev u) :: ·) = _
        rw [ih]; rfl
  · rw [look_put]
    unfold upm
    rw [hm j]
theorem MR.key {D : ED} {en : κ → HV} {ev : β → HV} {es : List (HV × HV)} {m : κ → Option β} (h : MR D en ev es m) (k : κ) : keyOk D (en k) = true := by
  unfold keyOk; rw [h.1 k k]; rfl
end
section
variable {lp : Nat → Option LFunc} {fl : Nat} {N : HAct → HS → Prop} {nt d : Nat} {T : Tr HV} {ds : List Nat} {h : Tr HBlk} {nx : Nat} {os : List LOper} {anc : List Nat} {κ β : Type} [DecidableEq κ]
theorem v_mm {n0 : Nat} {h0 : Tr HBlk} {F0 F : PH} {L : List LE} (st : St n0 h0 F0 F h nx L) (hn : ∀ b h' n', St n0 h0 F0 F h' n' (L ++ [.any b (.map [])]) → R lp fl os N ⟨nt, T.set d (some (.map (some b))), ds⟩ ⟨h', n'⟩) (hd : Nat.blt d nt = true := by rfl) : R lp fl (⟨some d, .makeMap, none, anc⟩ :: os) N ⟨nt, T, ds⟩ ⟨h, nx⟩ :=
  r_mm (by
    rw [put_eq hd]
    have hne := st.ext.le
    exact hn _ _ _ (st.push (b := nx) (Ext.set st.d (by omega) (by omega) (by omega)) (fun c hc => by rw [os_any hc]; omega) ⟨by omega, by omega, get_same _ _ _⟩))
theorem v_lk1 {D : ED} {en : κ → HV} {ev : β → HV} {es : List (HV × HV)} {m : κ → Option β} {b : Nat} {x y : Lo} {kv zero : HV} (hm : MR D en ev es m) (hg : h.get b = some (.map es)) (k : κ) (z : β) (hk : kv = en k) (hz : zero = ev z) (hn : R lp fl os N ⟨nt, T.set d (some (ev ((m k).getD z))), ds⟩ ⟨h, nx⟩) (hx : lo T x = .map (some b) := by first | exact ev_c | (apply ev_t; exact gA)) (hy : lo T y = kv := by first | exact ev_c | (apply ev_t; exact gA)) (hd : Nat.blt d nt = true := by rfl) : R lp fl (⟨some d, .lookup D zero false x y, none, anc⟩ :: os) N ⟨nt, T, ds⟩ ⟨h, nx⟩ := by
  subst hk; subst hz
  refine r_lku ((ev_eq x).trans hx) ((ev_eq y).trans hy) (hm.key k) hg (hm.find k) ?_
  rw [put_eq hd]
  cases e : m k <;> (rw [e] at hn; exact hn)
theorem v_mu {n0 : Nat} {h0 : Tr HBlk} {F0 F : PH} {L : List LE} {D : ED} {en : κ → HV} {ev : β → HV} {es : List (HV × HV)} {m : κ → Option β} {b : Nat} {x y z : Lo} {kv vv : HV} (st : St n0 h0 F0 F h nx L) (i : Nat) (hi : L[i]? = some (.any b (.map es))) (hm : MR D en ev es m) (k : κ) (v : β) (hk : kv = en k) (hv : vv = ev v) (hfl : fl ≤ n0) (hn : ∀ es' h', MR D en ev es' (upm m k v) → St n0 h0 F0 F h' nx (L.set i (.any b (.map es'))) → R lp fl os N ⟨nt, T, ds⟩ ⟨h', nx⟩) (hx : lo T x = .map (some b) := by first | exact ev_c | (apply ev_t; exact gA)) (hy : lo T y = kv := by first | exact ev_c | (apply ev_t; exact gA)) (hw : lo T z = vv := by first | exact ev_c | (apply ev_t; exact gA)) : R lp fl (⟨none, .mapUpdate D x y z, none, anc⟩ :: os) N ⟨nt, T, ds⟩ ⟨h, nx⟩ := by
  subst hk; subst hv
  obtain ⟨es', e1, e2⟩ := hm.upd k v
  obtain ⟨h1, h2, h3⟩ := st.at hi
  refine r_mup ((ev_eq x).trans hx) ((ev_eq y).trans hy) ((ev_eq z).trans hw) (hm.key k) h3 (Nat.le_trans hfl h1) e1 ?_
  exact hn es' _ e2 (st.swap hi (Nat.le_refl _) (st.d.upd h2) (fun c hc hne => get_other _ _ fun e => hne (List.mem_singleton.2 e)) (fun c hc => .inl hc) ⟨h1, h2, get_same _ _ _⟩)
end
end Go.Hx.V

/- Appending, in the part of a region that draws, to a row that this part itself has laid. -/
namespace Go.Hx.V
set_option linter.unusedVariables false
open Go.Hx
section
variable {lp : Nat → Option LFunc} {fl : Nat} {N : HAct → HS → Prop} {nt d : Nat} {T : Tr HV} {ds : List Nat} {os : List LOper}
variable {h1 hm h0 : Tr HBlk} {nx s n1 n0 i : Nat} {done : List (Nat × List (Nat × HBlk))} {V : List (Nat × PH)} {F F0 : PH} {L : List LE}
end
end Go.Hx.V

/- Arrays of pairs at the end of what a box holds. -/
namespace Go.Hx.V
open Go.Hx
section
variable {k : IntKind} {n : Nat} {f : Nat → Int}
end
section
variable {k : IntKind} {n : Nat} {f : Nat → Int}
end
end Go.Hx.V

/- Stores, in the part of a region that draws, to boxes that this part itself has laid. -/
namespace Go.Hx.V
set_option linter.unusedVariables false
open Go.Hx
section
variable {lp : Nat → Option LFunc} {fl : Nat} {N : HAct → HS → Prop} {nt d : Nat} {T : Tr HV} {ds : List Nat} {os : List LOper}
variable {h1 hm h0 : Tr HBlk} {nx s n1 n0 i : Nat} {done : List (Nat × List (Nat × HBlk))} {V : List (Nat × PH)} {F F0 : PH} {L : List LE}
end
end Go.Hx.V

/- What the functions of the program come to. -/
namespace Go.Hx.V
open Go.Hx
set_option linter.unusedVariables false
set_option maxRecDepth 20000
set_option maxHeartbeats 4000000
/- meniscus/meniscuslaw01.to -/
def sf35 (N : Nat) (a0_0 : Int) (a0_1 : Int) : Option (Int × Int) :=
  some (a0_0, a0_1)
/- meniscus/meniscuslaw01.Tube -/
def sf21 (N : Nat) (a0_0 : Int) (a0_1 : Int) (a0_2 : Int) (a0_3 : Int) : Option (Int × Int × Int × Int) :=
  (bnd (sf35 N a0_2 a0_3) fun v7 => some (a0_0, a0_1, v7.1, v7.2))
/- (meniscus/bore.Range).liesIn -/
def sf83 (N : Nat) (a0_0 : Int) (a0_1 : Int) (a1 : Int) (a2 : Int) : Option Bool :=
  (bif (decide (a1 ≤ a0_0)) then (bif (decide (a0_0 ≤ a0_1)) then some (decide (a0_1 ≤ a2)) else some false) else some false)
/- (meniscus/bore.Range).has -/
def sf66 (N : Nat) (a0_0 : Int) (a0_1 : Int) (a1 : Int) : Option Bool :=
  (bif (decide (a0_0 ≤ a1)) then some (decide (a1 ≤ a0_1)) else some false)
/- (meniscus/bore.Tube).valid -/
def sf63 (N : Nat) (a0_0 : Int) (a0_1 : Int) (a0_2 : Int) (a0_3 : Int) : Option Bool :=
  bnd (bnd ((bif (decide (a0_0 < (1 : Int))) then some true else (bif (decide ((10 : Int) < a0_0)) then some true else (bnd (sf83 N a0_2 a0_3 (1 : Int) (200 : Int)) fun v37 => some (!v37)))) : Option (Bool)) (fun y31 => (bif y31 then some (.inl ()) else some (.inr ()))) : Option (Unit ⊕ Unit)) (sel (fun w22 => some false) (fun w24 => (ck (rng (a0_0 * a0_2)) ((ck (rng (a0_0 * a0_3)) ((bif (decide (a0_1 ≤ (2000 : Int))) then (bnd (sf66 N (a0_0 * a0_2) (a0_0 * a0_3) a0_1) fun v48 => some v48) else some false)))))))
/- meniscus/bore.CheckTube -/
def sf20 (N : Nat) (a0_0 : Int) (a0_1 : Int) (a0_2 : Int) (a0_3 : Int) : Option Int :=
  (bnd (sf63 N a0_0 a0_1 a0_2 a0_3) fun v4 => (bif (!v4) then some (1 : Int) else some (0 : Int)))
/- meniscus/meniscuslaw01.Readings -/
def sf23_L1 (N : Nat) (a0 : (List (Int × Int × Int × Int))) (x3 : ((List (Int × Int × Int × Int)) × Int)) : Option (((List (Int × Int × Int × Int)) × Int) ⊕ (List (Int × Int × Int × Int))) :=
  (bif (decide (x3.2 < ((a0).length : Int))) then (ix a0 x3.2 fun x23 => (ix a0 x3.2 fun x24 => (ix a0 x3.2 fun x25 => (bnd (sf35 N x25.2.2.1 x25.2.2.2) fun v26 => (ck ((x3.1.length + 1) * 32 ≤ 35184372088832 ∧ x3.1.length + 1 ≤ 35184372088832) ((ck (rng (x3.2 + (1 : Int))) (some (.inl ((x3.1 ++ [(x23.1, x24.2.1, v26.1, v26.2)]), (x3.2 + (1 : Int)))))))))))) else some (.inr x3.1))
def sf23 (N : Nat) (a0 : (List (Int × Int × Int × Int))) : Option (List (Int × Int × Int × Int)) :=
  bnd (iter (sf23_L1 N a0) N (([] : List (Int × Int × Int × Int)), (0 : Int))) (fun y19 => some y19)
/- meniscus/meniscuslaw01.list -/
def sf24 (N : Nat) (a0 : (List Int)) : Option (List Int) :=
  (ck ((([] : List Int).length + a0.length) * 8 ≤ 35184372088832 ∧ ([] : List Int).length + a0.length ≤ 35184372088832) (some (([] : List Int) ++ a0)))
/- (meniscus/bore.Tube).allows -/
def sf86 (N : Nat) (a0_0 : Int) (a0_1 : Int) (a0_2 : Int) (a0_3 : Int) (a1_0 : Int) (a1_1 : Int) (a1_2 : Int) (a1_3 : Int) : Option Bool :=
  (bif (decide ((0 : Int) ≤ a1_0)) then (bif (decide (a1_0 < a0_0)) then (bif (decide (a1_0 ≤ a1_1)) then (bif (decide (a1_1 ≤ a0_0)) then (bnd (sf83 N a1_2 a1_3 (0 : Int) (2000 : Int)) fun v11 => some v11) else some false) else some false) else some false) else some false)
/- meniscus/lists.All[meniscus/bore.Reading] -/
def sf68_L1 (N : Nat) (a0 : (List (Int × Int × Int × Int))) (a1f0_0 : Int) (a1f0_1 : Int) (a1f0_2 : Int) (a1f0_3 : Int) (x1 : Int) : Option (Int ⊕ (Unit ⊕ Unit)) :=
  (bif (decide (x1 < ((a0).length : Int))) then (ix a0 x1 fun x20 => (bnd (sf86 N a1f0_0 a1f0_1 a1f0_2 a1f0_3 x20.1 x20.2.1 x20.2.2.1 x20.2.2.2) fun v25 => (bif (!v25) then some (.inr (.inl ())) else (ck (rng (x1 + (1 : Int))) (some (.inl (x1 + (1 : Int)))))))) else some (.inr (.inr ())))
def sf68 (N : Nat) (a0 : (List (Int × Int × Int × Int))) (a1f0_0 : Int) (a1f0_1 : Int) (a1f0_2 : Int) (a1f0_3 : Int) : Option Bool :=
  bnd (iter (sf68_L1 N a0 a1f0_0 a1f0_1 a1f0_2 a1f0_3) N (0 : Int)) (sel (fun w15 => some false) (fun w17 => some true))
/- meniscus/bore.check -/
def sf64 (N : Nat) (a0_0 : Int) (a0_1 : Int) (a0_2 : Int) (a0_3 : Int) (a1 : (List (Int × Int × Int × Int))) : Option Int :=
  (bnd (sf20 N a0_0 a0_1 a0_2 a0_3) fun v4 => (bif (!(decide (v4 = (0 : Int)))) then some v4 else (bif (decide ((12 : Int) < ((a1).length : Int))) then some (3 : Int) else (bnd (sf68 N a1 a0_0 a0_1 a0_2 a0_3) fun v9 => (bif (!v9) then some (2 : Int) else some (0 : Int))))))
/- meniscus/meniscusref01.In -/
def sf37 (N : Nat) (a0 : Int) (a1 : Int) (a2 : Int) : Option Bool :=
  (bif (decide (a1 ≤ a0)) then some (decide (a0 ≤ a2)) else some false)
/- meniscus/meniscusref01.Span -/
def sf48 (N : Nat) (a0_0 : Int) (a0_1 : Int) (a1 : Int) (a2 : Int) : Option Bool :=
  (bnd (sf37 N a0_0 a1 a0_1) fun v4 => (bif v4 then some (decide (a0_1 ≤ a2)) else some false))
/- meniscus/meniscusref01.IsTube -/
def sf25 (N : Nat) (a0_0 : Int) (a0_1 : Int) (a0_2 : Int) (a0_3 : Int) : Option Bool :=
  (bnd (sf37 N a0_0 (1 : Int) (10 : Int)) fun v4 => (bif v4 then (bnd (sf48 N a0_2 a0_3 (1 : Int) (200 : Int)) fun v8 => (bif v8 then (bnd (sf37 N a0_1 (1 : Int) (2000 : Int)) fun v12 => (bif v12 then (ck (rng (a0_0 * a0_2)) ((ck (rng (a0_0 * a0_3)) ((bnd (sf37 N a0_1 (a0_0 * a0_2) (a0_0 * a0_3)) fun v18 => some v18))))) else some false)) else some false)) else some false))
/- meniscus/meniscusref01.Height -/
def sf38_L1 (a0 : (List Int)) (a1 : Int) (x1 : (Int × Int)) : Option ((Int × Int) ⊕ Int) :=
  (bif (decide (x1.2 < a1)) then (ix a0 x1.2 fun x10 => (ck (rng (x1.1 + x10)) ((ck (rng (x1.2 + (1 : Int))) (some (.inl ((x1.1 + x10), (x1.2 + (1 : Int))))))))) else some (.inr x1.1))
def sf38 (N : Nat) (a0 : (List Int)) (a1 : Int) : Option Int :=
  bnd (iter (sf38_L1 a0 a1) N ((0 : Int), (0 : Int))) (fun y7 => some y7)
/- meniscus/meniscusref01.Right -/
def sf71 (N : Nat) (a0_0 : Int) (a0_1 : Int) (a0_2 : Int) (a0_3 : Int) (a1_0 : Int) (a1_1 : Int) (a1_2 : Int) (a1_3 : Int) (a2 : (List Int)) : Option Bool :=
  (bnd (sf38 N a2 a1_0) fun v7 => (bnd (sf38 N a2 a1_1) fun v10 => (ck (rng (v10 - v7)) ((bif (decide (a1_1 < a0_0)) then (ck (rng (a1_1 + (1 : Int))) ((bnd (sf38 N a2 (a1_1 + (1 : Int))) fun v17 => (ck (rng (v17 - v7)) ((ck (rng ((v17 - v7) - (1 : Int))) (some (decide ((max a1_2 (v10 - v7)) ≤ (min a1_3 ((v17 - v7) - (1 : Int)))))))))))) else some (decide ((max a1_2 (v10 - v7)) ≤ a1_3)))))))
/- meniscus/meniscusref01.IsTruth -/
def sf27_L1 (N : Nat) (a0_2 : Int) (a0_3 : Int) (a2 : (List Int)) (x5 : Int) : Option (Int ⊕ (Unit ⊕ Unit)) :=
  (bif (decide (x5 < ((a2).length : Int))) then (ix a2 x5 fun x21 => (bnd (sf37 N x21 a0_2 a0_3) fun v23 => (bif (!v23) then some (.inr (.inl ())) else (ck (rng (x5 + (1 : Int))) (some (.inl (x5 + (1 : Int)))))))) else some (.inr (.inr ())))
def sf27_L2 (N : Nat) (a0_0 : Int) (a0_1 : Int) (a0_2 : Int) (a0_3 : Int) (a1 : (List (Int × Int × Int × Int))) (a2 : (List Int)) (x32 : Int) : Option (Int ⊕ (Unit ⊕ Unit)) :=
  (bif (decide (x32 < ((a1).length : Int))) then (ix a1 x32 fun x49 => (bnd (sf71 N a0_0 a0_1 a0_2 a0_3 x49.1 x49.2.1 x49.2.2.1 x49.2.2.2 a2) fun v51 => (bif (!v51) then some (.inr (.inl ())) else (ck (rng (x32 + (1 : Int))) (some (.inl (x32 + (1 : Int)))))))) else some (.inr (.inr ())))
def sf27 (N : Nat) (a0_0 : Int) (a0_1 : Int) (a0_2 : Int) (a0_3 : Int) (a1 : (List (Int × Int × Int × Int))) (a2 : (List Int)) : Option Bool :=
  (bif (!(decide (((a2).length : Int) = a0_0))) then some false else bnd (iter (sf27_L1 N a0_2 a0_3 a2) N (0 : Int)) (sel (fun w16 => some false) (fun w18 => bnd (iter (sf27_L2 N a0_0 a0_1 a0_2 a0_3 a1 a2) N (0 : Int)) (sel (fun w44 => some false) (fun w46 => (bnd (sf38 N a2 a0_0) fun v62 => some (decide (v62 = a0_1))))))))
/- meniscus/meniscuslaw01.word -/
def sf62 (N : Nat) (a0 : (List Int)) (a1 : Int) : Option Int :=
  (bif (decide (((a0).length : Int) = (0 : Int))) then some (0 : Int) else (ck (((a0).length : Int) ≠ 0) ((ix a0 (Int.tmod a1 ((a0).length : Int)) fun x3 => (ck (IntKind.wrap .i64 x3 = x3) (some x3))))))
/- meniscus/meniscuslaw01.Truly -/
def sf53_L1 (N : Nat) (a0_0 : Int) (a0_2 : Int) (a0_3 : Int) (a1 : (List Int)) (x6 : ((List Int) × Int × Int)) : Option (((List Int) × Int × Int) ⊕ (List Int)) :=
  (bif (decide (x6.2.2 < a0_0)) then (ck (rng (a0_0 - (1 : Int))) ((ck (rng ((a0_0 - (1 : Int)) - x6.2.2)) ((ck (rng (((a0_0 - (1 : Int)) - x6.2.2) * a0_3)) ((ck (rng (x6.2.1 - (((a0_0 - (1 : Int)) - x6.2.2) * a0_3))) ((ck (rng (((a0_0 - (1 : Int)) - x6.2.2) * a0_2)) ((ck (rng (x6.2.1 - (((a0_0 - (1 : Int)) - x6.2.2) * a0_2))) ((bnd (sf62 N a1 x6.2.2) fun v41 => (ck (rng ((min a0_3 (x6.2.1 - (((a0_0 - (1 : Int)) - x6.2.2) * a0_2))) - (max a0_2 (x6.2.1 - (((a0_0 - (1 : Int)) - x6.2.2) * a0_3))))) ((ck (rng (((min a0_3 (x6.2.1 - (((a0_0 - (1 : Int)) - x6.2.2) * a0_2))) - (max a0_2 (x6.2.1 - (((a0_0 - (1 : Int)) - x6.2.2) * a0_3)))) + (1 : Int))) ((ck ((((min a0_3 (x6.2.1 - (((a0_0 - (1 : Int)) - x6.2.2) * a0_2))) - (max a0_2 (x6.2.1 - (((a0_0 - (1 : Int)) - x6.2.2) * a0_3)))) + (1 : Int)) ≠ 0) ((ck (rng ((max a0_2 (x6.2.1 - (((a0_0 - (1 : Int)) - x6.2.2) * a0_3))) + (Int.tmod v41 (((min a0_3 (x6.2.1 - (((a0_0 - (1 : Int)) - x6.2.2) * a0_2))) - (max a0_2 (x6.2.1 - (((a0_0 - (1 : Int)) - x6.2.2) * a0_3)))) + (1 : Int))))) ((ck ((x6.1.length + 1) * 8 ≤ 35184372088832 ∧ x6.1.length + 1 ≤ 35184372088832) ((ck (rng (x6.2.1 - ((max a0_2 (x6.2.1 - (((a0_0 - (1 : Int)) - x6.2.2) * a0_3))) + (Int.tmod v41 (((min a0_3 (x6.2.1 - (((a0_0 - (1 : Int)) - x6.2.2) * a0_2))) - (max a0_2 (x6.2.1 - (((a0_0 - (1 : Int)) - x6.2.2) * a0_3)))) + (1 : Int)))))) ((ck (rng (x6.2.2 + (1 : Int))) (some (.inl ((x6.1 ++ [((max a0_2 (x6.2.1 - (((a0_0 - (1 : Int)) - x6.2.2) * a0_3))) + (Int.tmod v41 (((min a0_3 (x6.2.1 - (((a0_0 - (1 : Int)) - x6.2.2) * a0_2))) - (max a0_2 (x6.2.1 - (((a0_0 - (1 : Int)) - x6.2.2) * a0_3)))) + (1 : Int))))]), (x6.2.1 - ((max a0_2 (x6.2.1 - (((a0_0 - (1 : Int)) - x6.2.2) * a0_3))) + (Int.tmod v41 (((min a0_3 (x6.2.1 - (((a0_0 - (1 : Int)) - x6.2.2) * a0_2))) - (max a0_2 (x6.2.1 - (((a0_0 - (1 : Int)) - x6.2.2) * a0_3)))) + (1 : Int))))), (x6.2.2 + (1 : Int))))))))))))))))))))))))))))))) else some (.inr x6.1))
def sf53 (N : Nat) (a0_0 : Int) (a0_1 : Int) (a0_2 : Int) (a0_3 : Int) (a1 : (List Int)) : Option (List Int) :=
  bnd (iter (sf53_L1 N a0_0 a0_2 a0_3 a1) N (([] : List Int), a0_1, (0 : Int))) (fun y30 => some y30)
/- meniscus/meniscuslaw01.Seen -/
def sf54_L1 (N : Nat) (a0_0 : Int) (a0_1 : Int) (a1 : (List Int)) (x149 : Int) (v154 : Int) (x162 : Int) : Option (Int ⊕ Int) :=
  bnd ((bif (decide (x162 < a0_0)) then (ck (rng (x162 + (1 : Int))) ((bnd (sf38 N a1 (x162 + (1 : Int))) fun v210 => (bnd (sf38 N a1 (Int.tmod x149 a0_0)) fun v213 => (ck (rng (v210 - v213)) (some (decide ((v210 - v213) ≤ (Int.tdiv ((Int.tmod (Int.tdiv x149 (16 : Int)) (256 : Int)) * ((a0_1 - v154) + (5 : Int))) (256 : Int)))))))))) else some false) : Option (Bool)) (fun y204 => (bif y204 then (ck (rng (x162 + (1 : Int))) (some (.inl (x162 + (1 : Int))))) else some (.inr x162)))
def sf54_L2 (N : Nat) (a0_0 : Int) (a0_1 : Int) (a1 : (List Int)) (a2 : (List Int)) (x6 : ((List (Int × Int × Int × Int)) × Int)) : Option (((List (Int × Int × Int × Int)) × Int) ⊕ (List (Int × Int × Int × Int))) :=
  bnd (bnd ((bif (decide (x6.2 < ((a2).length : Int))) then some (decide (x6.2 < (12 : Int))) else some false) : Option (Bool)) (fun y141 => (bif y141 then some (.inl ()) else some (.inr ()))) : Option (Unit ⊕ Unit)) (sel (fun w136 => (ix a2 x6.2 fun x149 => (ck (IntKind.wrap .i64 x149 = x149) ((ck (a0_0 ≠ 0) ((ck ((16 : Int) ≠ 0 ∧ rng (Int.tdiv x149 (16 : Int))) ((ck ((256 : Int) ≠ 0) ((bnd (sf38 N a1 (Int.tmod x149 a0_0)) fun v154 => (ck (rng (a0_1 - v154)) ((ck (rng ((a0_1 - v154) + (5 : Int))) ((ck (rng ((Int.tmod (Int.tdiv x149 (16 : Int)) (256 : Int)) * ((a0_1 - v154) + (5 : Int)))) ((ck ((256 : Int) ≠ 0 ∧ rng (Int.tdiv ((Int.tmod (Int.tdiv x149 (16 : Int)) (256 : Int)) * ((a0_1 - v154) + (5 : Int))) (256 : Int))) (bnd (iter (sf54_L1 N a0_0 a0_1 a1 x149 v154) N (Int.tmod x149 a0_0)) (fun y193 => (ck ((4096 : Int) ≠ 0 ∧ rng (Int.tdiv x149 (4096 : Int))) ((ck ((4 : Int) ≠ 0) ((ck (rng ((Int.tdiv ((Int.tmod (Int.tdiv x149 (16 : Int)) (256 : Int)) * ((a0_1 - v154) + (5 : Int))) (256 : Int)) - (Int.tmod (Int.tdiv x149 (4096 : Int)) (4 : Int)))) ((ck ((8192 : Int) ≠ 0 ∧ rng (Int.tdiv x149 (8192 : Int))) ((ck ((3 : Int) ≠ 0) ((ck (rng ((Int.tdiv ((Int.tmod (Int.tdiv x149 (16 : Int)) (256 : Int)) * ((a0_1 - v154) + (5 : Int))) (256 : Int)) + (Int.tmod (Int.tdiv x149 (8192 : Int)) (3 : Int)))) ((ck ((x6.1.length + 1) * 32 ≤ 35184372088832 ∧ x6.1.length + 1 ≤ 35184372088832) ((ck (rng (x6.2 + (1 : Int))) (some (.inl ((x6.1 ++ [((Int.tmod x149 a0_0), y193, (max (0 : Int) ((Int.tdiv ((Int.tmod (Int.tdiv x149 (16 : Int)) (256 : Int)) * ((a0_1 - v154) + (5 : Int))) (256 : Int)) - (Int.tmod (Int.tdiv x149 (4096 : Int)) (4 : Int)))), (min (2000 : Int) ((Int.tdiv ((Int.tmod (Int.tdiv x149 (16 : Int)) (256 : Int)) * ((a0_1 - v154) + (5 : Int))) (256 : Int)) + (Int.tmod (Int.tdiv x149 (8192 : Int)) (3 : Int)))))]), (x6.2 + (1 : Int)))))))))))))))))))))))))))))))))))))))) (fun w138 => some (.inr x6.1)))
def sf54 (N : Nat) (a0_0 : Int) (a0_1 : Int) (a0_2 : Int) (a0_3 : Int) (a1 : (List Int)) (a2 : (List Int)) : Option (List (Int × Int × Int × Int)) :=
  bnd (iter (sf54_L2 N a0_0 a0_1 a1 a2) N (([] : List (Int × Int × Int × Int)), (0 : Int))) (fun y122 => some y122)
/- (*meniscus/gaps.Gaps).Can -/
def sf103 (N : Nat) (a0p0 : Int) (a0p1 : Int) (a0p2 : Int) (a0p3 : Int) (a0p4 : Int) (a0p5 : (Nat → Int)) (a1 : Int) (a2 : Int) (a3 : Int) : Option Bool :=
  (ck (0 ≤ a2 ∧ a2 < 13) ((ck (0 ≤ a1 ∧ a1 < 13) ((ck (rng (a3 + (a0p5 (((Int.toNat a2) * 13) + (Int.toNat a1))))) (some (decide ((0 : Int) ≤ (a3 + (a0p5 (((Int.toNat a2) * 13) + (Int.toNat a1))))))))))))
/- meniscus/bore.unread -/
def sf97_L1 (a0_0 : Int) (a0_2 : Int) (a0_3 : Int) (x69 : (Int × (Nat → Int))) (x146 : (Int × (Nat → Int))) : Option ((Int × (Nat → Int)) ⊕ (Nat → Int)) :=
  (bif (decide (x146.1 ≤ a0_0)) then (ck (rng (x146.1 - x69.1)) ((ck (rng ((x146.1 - x69.1) * a0_3)) ((ck (0 ≤ x69.1 ∧ x69.1 < 13) ((ck (0 ≤ x146.1 ∧ x146.1 < 13) ((ck (rng (x69.1 - x146.1)) ((ck (rng ((x69.1 - x146.1) * a0_2)) ((ck (0 ≤ x146.1 ∧ x146.1 < 13) ((ck (0 ≤ x69.1 ∧ x69.1 < 13) ((ck (rng (x146.1 + (1 : Int))) (some (.inl ((x146.1 + (1 : Int)), (ups (ups x146.2 (((Int.toNat x69.1) * 13) + (Int.toNat x146.1)) ((x146.1 - x69.1) * a0_3)) (((Int.toNat x146.1) * 13) + (Int.toNat x69.1)) ((x69.1 - x146.1) * a0_2)))))))))))))))))))))) else some (.inr x146.2))
def sf97_L2 (N : Nat) (a0_0 : Int) (a0_2 : Int) (a0_3 : Int) (x69 : (Int × (Nat → Int))) : Option ((Int × (Nat → Int)) ⊕ (Nat → Int)) :=
  (bif (decide (x69.1 ≤ a0_0)) then bnd (iter (sf97_L1 a0_0 a0_2 a0_3 x69) N (x69.1, x69.2)) (fun y163 => (ck (rng (x69.1 + (1 : Int))) (some (.inl ((x69.1 + (1 : Int)), y163))))) else some (.inr x69.2))
def sf97_L3 (a0_0 : Int) (a0_1 : Int) (x259 : (Int × (Nat → Int))) (x347 : (Int × (Nat → Int))) : Option ((Int × (Nat → Int)) ⊕ (Nat → Int)) :=
  (bif (decide (x347.1 < (a0_0 + (1 : Int)))) then (ck (0 ≤ (0 : Int) ∧ (0 : Int) < 13) ((ck (0 ≤ x347.1 ∧ x347.1 < 13) ((ck (rng (((x259.2 (((Int.toNat x259.1) * 13) + (Int.toNat a0_0))) + (-a0_1)) + (x347.2 (((Int.toNat (0 : Int)) * 13) + (Int.toNat x347.1))))) ((ck (0 ≤ x259.1 ∧ x259.1 < 13) ((ck (0 ≤ x347.1 ∧ x347.1 < 13) ((bif (decide ((((x259.2 (((Int.toNat x259.1) * 13) + (Int.toNat a0_0))) + (-a0_1)) + (x347.2 (((Int.toNat (0 : Int)) * 13) + (Int.toNat x347.1)))) < (x347.2 (((Int.toNat x259.1) * 13) + (Int.toNat x347.1))))) then (ck (0 ≤ x259.1 ∧ x259.1 < 13) ((ck (0 ≤ x347.1 ∧ x347.1 < 13) ((ck (rng (x347.1 + (1 : Int))) (some (.inl ((x347.1 + (1 : Int)), (ups x347.2 (((Int.toNat x259.1) * 13) + (Int.toNat x347.1)) (((x259.2 (((Int.toNat x259.1) * 13) + (Int.toNat a0_0))) + (-a0_1)) + (x347.2 (((Int.toNat (0 : Int)) * 13) + (Int.toNat x347.1))))))))))))) else (ck (rng (x347.1 + (1 : Int))) (some (.inl ((x347.1 + (1 : Int)), x347.2))))))))))))))) else some (.inr x347.2))
def sf97_L4 (N : Nat) (a0_0 : Int) (a0_1 : Int) (x259 : (Int × (Nat → Int))) : Option ((Int × (Nat → Int)) ⊕ (Nat → Int)) :=
  (bif (decide (x259.1 < (a0_0 + (1 : Int)))) then (ck (0 ≤ x259.1 ∧ x259.1 < 13) ((ck (0 ≤ a0_0 ∧ a0_0 < 13) ((ck (rng ((x259.2 (((Int.toNat x259.1) * 13) + (Int.toNat a0_0))) + (-a0_1))) ((ck (0 ≤ x259.1 ∧ x259.1 < 13) ((ck (0 ≤ (0 : Int) ∧ (0 : Int) < 13) ((bif (decide ((x259.2 (((Int.toNat x259.1) * 13) + (Int.toNat (0 : Int)))) ≤ ((x259.2 (((Int.toNat x259.1) * 13) + (Int.toNat a0_0))) + (-a0_1)))) then (ck (rng (x259.1 + (1 : Int))) (some (.inl ((x259.1 + (1 : Int)), x259.2)))) else bnd (iter (sf97_L3 a0_0 a0_1 x259) N ((0 : Int), x259.2)) (fun y363 => (ck (rng (x259.1 + (1 : Int))) (some (.inl ((x259.1 + (1 : Int)), y363)))))))))))))))) else some (.inr x259.2))
def sf97_L5 (a0_0 : Int) (a0_1 : Int) (x448 : (Int × (Nat → Int))) (x536 : (Int × (Nat → Int))) : Option ((Int × (Nat → Int)) ⊕ (Nat → Int)) :=
  (bif (decide (x536.1 < (a0_0 + (1 : Int)))) then (ck (0 ≤ a0_0 ∧ a0_0 < 13) ((ck (0 ≤ x536.1 ∧ x536.1 < 13) ((ck (rng (((x448.2 (((Int.toNat x448.1) * 13) + (Int.toNat (0 : Int)))) + a0_1) + (x536.2 (((Int.toNat a0_0) * 13) + (Int.toNat x536.1))))) ((ck (0 ≤ x448.1 ∧ x448.1 < 13) ((ck (0 ≤ x536.1 ∧ x536.1 < 13) ((bif (decide ((((x448.2 (((Int.toNat x448.1) * 13) + (Int.toNat (0 : Int)))) + a0_1) + (x536.2 (((Int.toNat a0_0) * 13) + (Int.toNat x536.1)))) < (x536.2 (((Int.toNat x448.1) * 13) + (Int.toNat x536.1))))) then (ck (0 ≤ x448.1 ∧ x448.1 < 13) ((ck (0 ≤ x536.1 ∧ x536.1 < 13) ((ck (rng (x536.1 + (1 : Int))) (some (.inl ((x536.1 + (1 : Int)), (ups x536.2 (((Int.toNat x448.1) * 13) + (Int.toNat x536.1)) (((x448.2 (((Int.toNat x448.1) * 13) + (Int.toNat (0 : Int)))) + a0_1) + (x536.2 (((Int.toNat a0_0) * 13) + (Int.toNat x536.1))))))))))))) else (ck (rng (x536.1 + (1 : Int))) (some (.inl ((x536.1 + (1 : Int)), x536.2))))))))))))))) else some (.inr x536.2))
def sf97_L6 (N : Nat) (a0_0 : Int) (a0_1 : Int) (x448 : (Int × (Nat → Int))) : Option ((Int × (Nat → Int)) ⊕ (Nat → Int)) :=
  (bif (decide (x448.1 < (a0_0 + (1 : Int)))) then (ck (0 ≤ x448.1 ∧ x448.1 < 13) ((ck (0 ≤ (0 : Int) ∧ (0 : Int) < 13) ((ck (rng ((x448.2 (((Int.toNat x448.1) * 13) + (Int.toNat (0 : Int)))) + a0_1)) ((ck (0 ≤ x448.1 ∧ x448.1 < 13) ((ck (0 ≤ a0_0 ∧ a0_0 < 13) ((bif (decide ((x448.2 (((Int.toNat x448.1) * 13) + (Int.toNat a0_0))) ≤ ((x448.2 (((Int.toNat x448.1) * 13) + (Int.toNat (0 : Int)))) + a0_1))) then (ck (rng (x448.1 + (1 : Int))) (some (.inl ((x448.1 + (1 : Int)), x448.2)))) else bnd (iter (sf97_L5 a0_0 a0_1 x448) N ((0 : Int), x448.2)) (fun y552 => (ck (rng (x448.1 + (1 : Int))) (some (.inl ((x448.1 + (1 : Int)), y552)))))))))))))))) else some (.inr x448.2))
def sf97_L7 (a0_0 : Int) (a0_1 : Int) (x647 : (Int × (Nat → Int))) (x740 : (Int × (Nat → Int))) : Option ((Int × (Nat → Int)) ⊕ (Nat → Int)) :=
  (bif (decide (x740.1 < (a0_0 + (1 : Int)))) then (ck (0 ≤ (0 : Int) ∧ (0 : Int) < 13) ((ck (0 ≤ x740.1 ∧ x740.1 < 13) ((ck (rng (((x647.2 (((Int.toNat x647.1) * 13) + (Int.toNat a0_0))) + (-a0_1)) + (x740.2 (((Int.toNat (0 : Int)) * 13) + (Int.toNat x740.1))))) ((ck (0 ≤ x647.1 ∧ x647.1 < 13) ((ck (0 ≤ x740.1 ∧ x740.1 < 13) ((bif (decide ((((x647.2 (((Int.toNat x647.1) * 13) + (Int.toNat a0_0))) + (-a0_1)) + (x740.2 (((Int.toNat (0 : Int)) * 13) + (Int.toNat x740.1)))) < (x740.2 (((Int.toNat x647.1) * 13) + (Int.toNat x740.1))))) then (ck (0 ≤ x647.1 ∧ x647.1 < 13) ((ck (0 ≤ x740.1 ∧ x740.1 < 13) ((ck (rng (x740.1 + (1 : Int))) (some (.inl ((x740.1 + (1 : Int)), (ups x740.2 (((Int.toNat x647.1) * 13) + (Int.toNat x740.1)) (((x647.2 (((Int.toNat x647.1) * 13) + (Int.toNat a0_0))) + (-a0_1)) + (x740.2 (((Int.toNat (0 : Int)) * 13) + (Int.toNat x740.1))))))))))))) else (ck (rng (x740.1 + (1 : Int))) (some (.inl ((x740.1 + (1 : Int)), x740.2))))))))))))))) else some (.inr x740.2))
def sf97_L8 (N : Nat) (a0_0 : Int) (a0_1 : Int) (x647 : (Int × (Nat → Int))) : Option ((Int × (Nat → Int)) ⊕ (Nat → Int)) :=
  (bif (decide (x647.1 < (a0_0 + (1 : Int)))) then (ck (0 ≤ x647.1 ∧ x647.1 < 13) ((ck (0 ≤ a0_0 ∧ a0_0 < 13) ((ck (rng ((x647.2 (((Int.toNat x647.1) * 13) + (Int.toNat a0_0))) + (-a0_1))) ((ck (0 ≤ x647.1 ∧ x647.1 < 13) ((ck (0 ≤ (0 : Int) ∧ (0 : Int) < 13) ((bif (decide ((x647.2 (((Int.toNat x647.1) * 13) + (Int.toNat (0 : Int)))) ≤ ((x647.2 (((Int.toNat x647.1) * 13) + (Int.toNat a0_0))) + (-a0_1)))) then (ck (rng (x647.1 + (1 : Int))) (some (.inl ((x647.1 + (1 : Int)), x647.2)))) else bnd (iter (sf97_L7 a0_0 a0_1 x647) N ((0 : Int), x647.2)) (fun y757 => (ck (rng (x647.1 + (1 : Int))) (some (.inl ((x647.1 + (1 : Int)), y757)))))))))))))))) else some (.inr x647.2))
def sf97 (N : Nat) (a0_0 : Int) (a0_1 : Int) (a0_2 : Int) (a0_3 : Int) : Option (Int × Int × Int × Int × Int × (Nat → Int)) :=
  (ck (rng (a0_0 + (1 : Int))) (bnd (iter (sf97_L2 N a0_0 a0_2 a0_3) N ((0 : Int), (fun _ => 0))) (fun y126 => (bnd (sf103 N a0_0 a0_1 a0_2 a0_3 (a0_0 + (1 : Int)) y126 (0 : Int) a0_0 a0_1) fun v186 => (bif (!v186) then (ck (rng (-a0_1)) ((bnd (sf103 N a0_0 a0_1 a0_2 a0_3 (a0_0 + (1 : Int)) y126 a0_0 (0 : Int) (-a0_1)) fun v192 => (bif (!v192) then some (a0_0, a0_1, a0_2, a0_3, (a0_0 + (1 : Int)), y126) else bnd (iter (sf97_L4 N a0_0 a0_1) N ((0 : Int), y126)) (fun y321 => some (a0_0, a0_1, a0_2, a0_3, (a0_0 + (1 : Int)), y321)))))) else bnd (iter (sf97_L6 N a0_0 a0_1) N ((0 : Int), y126)) (fun y510 => (ck (rng (-a0_1)) ((bnd (sf103 N a0_0 a0_1 a0_2 a0_3 (a0_0 + (1 : Int)) y510 a0_0 (0 : Int) (-a0_1)) fun v576 => (bif (!v576) then some (a0_0, a0_1, a0_2, a0_3, (a0_0 + (1 : Int)), y510) else bnd (iter (sf97_L8 N a0_0 a0_1) N ((0 : Int), y510)) (fun y713 => some (a0_0, a0_1, a0_2, a0_3, (a0_0 + (1 : Int)), y713))))))))))))
/- (meniscus/bore.readTube).with -/
def sf96_L1 (a0_4 : Int) (a1_0 : Int) (a1_1 : Int) (a1_3 : Int) (x75 : (Int × (Nat → Int))) (x158 : (Int × (Nat → Int))) : Option ((Int × (Nat → Int)) ⊕ (Nat → Int)) :=
  (bif (decide (x158.1 < a0_4)) then (ck (0 ≤ a1_1 ∧ a1_1 < 13) ((ck (0 ≤ x158.1 ∧ x158.1 < 13) ((ck (rng (((x75.2 (((Int.toNat x75.1) * 13) + (Int.toNat a1_0))) + a1_3) + (x158.2 (((Int.toNat a1_1) * 13) + (Int.toNat x158.1))))) ((ck (0 ≤ x75.1 ∧ x75.1 < 13) ((ck (0 ≤ x158.1 ∧ x158.1 < 13) ((bif (decide ((((x75.2 (((Int.toNat x75.1) * 13) + (Int.toNat a1_0))) + a1_3) + (x158.2 (((Int.toNat a1_1) * 13) + (Int.toNat x158.1)))) < (x158.2 (((Int.toNat x75.1) * 13) + (Int.toNat x158.1))))) then (ck (0 ≤ x75.1 ∧ x75.1 < 13) ((ck (0 ≤ x158.1 ∧ x158.1 < 13) ((ck (rng (x158.1 + (1 : Int))) (some (.inl ((x158.1 + (1 : Int)), (ups x158.2 (((Int.toNat x75.1) * 13) + (Int.toNat x158.1)) (((x75.2 (((Int.toNat x75.1) * 13) + (Int.toNat a1_0))) + a1_3) + (x158.2 (((Int.toNat a1_1) * 13) + (Int.toNat x158.1))))))))))))) else (ck (rng (x158.1 + (1 : Int))) (some (.inl ((x158.1 + (1 : Int)), x158.2))))))))))))))) else some (.inr x158.2))
def sf96_L2 (N : Nat) (a0_4 : Int) (a1_0 : Int) (a1_1 : Int) (a1_3 : Int) (x75 : (Int × (Nat → Int))) : Option ((Int × (Nat → Int)) ⊕ (Nat → Int)) :=
  (bif (decide (x75.1 < a0_4)) then (ck (0 ≤ x75.1 ∧ x75.1 < 13) ((ck (0 ≤ a1_0 ∧ a1_0 < 13) ((ck (rng ((x75.2 (((Int.toNat x75.1) * 13) + (Int.toNat a1_0))) + a1_3)) ((ck (0 ≤ x75.1 ∧ x75.1 < 13) ((ck (0 ≤ a1_1 ∧ a1_1 < 13) ((bif (decide ((x75.2 (((Int.toNat x75.1) * 13) + (Int.toNat a1_1))) ≤ ((x75.2 (((Int.toNat x75.1) * 13) + (Int.toNat a1_0))) + a1_3))) then (ck (rng (x75.1 + (1 : Int))) (some (.inl ((x75.1 + (1 : Int)), x75.2)))) else bnd (iter (sf96_L1 a0_4 a1_0 a1_1 a1_3 x75) N ((0 : Int), x75.2)) (fun y173 => (ck (rng (x75.1 + (1 : Int))) (some (.inl ((x75.1 + (1 : Int)), y173)))))))))))))))) else some (.inr x75.2))
def sf96_L3 (a0_4 : Int) (a1_0 : Int) (a1_1 : Int) (a1_2 : Int) (x466 : (Int × (Nat → Int))) (x554 : (Int × (Nat → Int))) : Option ((Int × (Nat → Int)) ⊕ (Nat → Int)) :=
  (bif (decide (x554.1 < a0_4)) then (ck (0 ≤ a1_0 ∧ a1_0 < 13) ((ck (0 ≤ x554.1 ∧ x554.1 < 13) ((ck (rng (((x466.2 (((Int.toNat x466.1) * 13) + (Int.toNat (a1_1 + (1 : Int))))) + ((-a1_2) - (1 : Int))) + (x554.2 (((Int.toNat a1_0) * 13) + (Int.toNat x554.1))))) ((ck (0 ≤ x466.1 ∧ x466.1 < 13) ((ck (0 ≤ x554.1 ∧ x554.1 < 13) ((bif (decide ((((x466.2 (((Int.toNat x466.1) * 13) + (Int.toNat (a1_1 + (1 : Int))))) + ((-a1_2) - (1 : Int))) + (x554.2 (((Int.toNat a1_0) * 13) + (Int.toNat x554.1)))) < (x554.2 (((Int.toNat x466.1) * 13) + (Int.toNat x554.1))))) then (ck (0 ≤ x466.1 ∧ x466.1 < 13) ((ck (0 ≤ x554.1 ∧ x554.1 < 13) ((ck (rng (x554.1 + (1 : Int))) (some (.inl ((x554.1 + (1 : Int)), (ups x554.2 (((Int.toNat x466.1) * 13) + (Int.toNat x554.1)) (((x466.2 (((Int.toNat x466.1) * 13) + (Int.toNat (a1_1 + (1 : Int))))) + ((-a1_2) - (1 : Int))) + (x554.2 (((Int.toNat a1_0) * 13) + (Int.toNat x554.1))))))))))))) else (ck (rng (x554.1 + (1 : Int))) (some (.inl ((x554.1 + (1 : Int)), x554.2))))))))))))))) else some (.inr x554.2))
def sf96_L4 (N : Nat) (a0_4 : Int) (a1_0 : Int) (a1_1 : Int) (a1_2 : Int) (x466 : (Int × (Nat → Int))) : Option ((Int × (Nat → Int)) ⊕ (Nat → Int)) :=
  (bif (decide (x466.1 < a0_4)) then (ck (0 ≤ x466.1 ∧ x466.1 < 13) ((ck (0 ≤ (a1_1 + (1 : Int)) ∧ (a1_1 + (1 : Int)) < 13) ((ck (rng ((x466.2 (((Int.toNat x466.1) * 13) + (Int.toNat (a1_1 + (1 : Int))))) + ((-a1_2) - (1 : Int)))) ((ck (0 ≤ x466.1 ∧ x466.1 < 13) ((ck (0 ≤ a1_0 ∧ a1_0 < 13) ((bif (decide ((x466.2 (((Int.toNat x466.1) * 13) + (Int.toNat a1_0))) ≤ ((x466.2 (((Int.toNat x466.1) * 13) + (Int.toNat (a1_1 + (1 : Int))))) + ((-a1_2) - (1 : Int))))) then (ck (rng (x466.1 + (1 : Int))) (some (.inl ((x466.1 + (1 : Int)), x466.2)))) else bnd (iter (sf96_L3 a0_4 a1_0 a1_1 a1_2 x466) N ((0 : Int), x466.2)) (fun y570 => (ck (rng (x466.1 + (1 : Int))) (some (.inl ((x466.1 + (1 : Int)), y570)))))))))))))))) else some (.inr x466.2))
def sf96 (N : Nat) (a0_0 : Int) (a0_1 : Int) (a0_2 : Int) (a0_3 : Int) (a0_4 : Int) (a0_5 : (Nat → Int)) (a1_0 : Int) (a1_1 : Int) (a1_2 : Int) (a1_3 : Int) : Option (Int × Int × Int × Int × Int × (Nat → Int) × Bool) :=
  (bnd (sf103 N a0_0 a0_1 a0_2 a0_3 a0_4 a0_5 a1_0 a1_1 a1_3) fun v11 => (bif (!v11) then some ((0 : Int), (0 : Int), (0 : Int), (0 : Int), (0 : Int), (fun _ => 0), false) else bnd (iter (sf96_L2 N a0_4 a1_0 a1_1 a1_3) N ((0 : Int), a0_5)) (fun y133 => bnd ((bif (decide (a1_1 < a0_0)) then (ck (rng (a1_1 + (1 : Int))) ((ck (rng (-a1_2)) ((ck (rng ((-a1_2) - (1 : Int))) ((bnd (sf103 N a0_0 a0_1 a0_2 a0_3 a0_4 y133 (a1_1 + (1 : Int)) a1_0 ((-a1_2) - (1 : Int))) fun v400 => (bif (!v400) then some ((!false), y133) else bnd (iter (sf96_L4 N a0_4 a1_0 a1_1 a1_2) N ((0 : Int), y133)) (fun y528 => some ((!true), y528)))))))))) else some (false, y133)) : Option ((Bool × (Nat → Int)))) (fun y391 => (bif y391.1 then some ((0 : Int), (0 : Int), (0 : Int), (0 : Int), (0 : Int), (fun _ => 0), false) else some (a0_0, a0_1, a0_2, a0_3, a0_4, y391.2, true))))))
/- meniscus/bore.read -/
def sf89_L1 (N : Nat) (a1 : (List (Int × Int × Int × Int))) (x18 : (Int × ((Int × Int × Int × Int) → Option Bool) × Int × Int × Int × Int × Int × (Nat → Int) × Int × Int × Int × Int × Int × (Nat → Int))) : Option ((Int × ((Int × Int × Int × Int) → Option Bool) × Int × Int × Int × Int × Int × (Nat → Int) × Int × Int × Int × Int × Int × (Nat → Int)) ⊕ ((((Int × Int × Int × Int) → Option Bool) × Int × Int × Int × Int × Int × (Nat → Int) × Int × Int × Int × Int × Int × (Nat → Int)) ⊕ (((Int × Int × Int × Int) → Option Bool) × Int × Int × Int × Int × Int × (Nat → Int) × Int × Int × Int × Int × Int × (Nat → Int)))) :=
  (bif (decide (x18.1 < ((a1).length : Int))) then (ix a1 x18.1 fun x46 => (bif (Option.getD (x18.2.1 (x46.1, x46.2.1, x46.2.2.1, x46.2.2.2)) false) then (ck (rng (x18.1 + (1 : Int))) (some (.inl ((x18.1 + (1 : Int)), x18.2.1, x18.2.2.1, x18.2.2.2.1, x18.2.2.2.2.1, x18.2.2.2.2.2.1, x18.2.2.2.2.2.2.1, x18.2.2.2.2.2.2.2.1, x18.2.2.2.2.2.2.2.2.1, x18.2.2.2.2.2.2.2.2.2.1, x18.2.2.2.2.2.2.2.2.2.2.1, x18.2.2.2.2.2.2.2.2.2.2.2.1, x18.2.2.2.2.2.2.2.2.2.2.2.2.1, x18.2.2.2.2.2.2.2.2.2.2.2.2.2)))) else (bnd (sf96 N x18.2.2.1 x18.2.2.2.1 x18.2.2.2.2.1 x18.2.2.2.2.2.1 x18.2.2.2.2.2.2.1 x18.2.2.2.2.2.2.2.1 x46.1 x46.2.1 x46.2.2.1 x46.2.2.2) fun v55 => (bif (!v55.2.2.2.2.2.2) then some (.inr (.inl ((upm x18.2.1 (x46.1, x46.2.1, x46.2.2.1, x46.2.2.2) true), v55.1, v55.2.1, v55.2.2.1, v55.2.2.2.1, v55.2.2.2.2.1, v55.2.2.2.2.2.1, (0 : Int), (0 : Int), (0 : Int), (0 : Int), (0 : Int), (fun _ => 0)))) else (ck (rng (x18.1 + (1 : Int))) (some (.inl ((x18.1 + (1 : Int)), (upm x18.2.1 (x46.1, x46.2.1, x46.2.2.1, x46.2.2.2) true), v55.1, v55.2.1, v55.2.2.1, v55.2.2.2.1, v55.2.2.2.2.1, v55.2.2.2.2.2.1, x18.2.2.2.2.2.2.2.2.1, x18.2.2.2.2.2.2.2.2.2.1, x18.2.2.2.2.2.2.2.2.2.2.1, x18.2.2.2.2.2.2.2.2.2.2.2.1, x18.2.2.2.2.2.2.2.2.2.2.2.2.1, x18.2.2.2.2.2.2.2.2.2.2.2.2.2)))))))) else some (.inr (.inr (x18.2.1, x18.2.2.1, x18.2.2.2.1, x18.2.2.2.2.1, x18.2.2.2.2.2.1, x18.2.2.2.2.2.2.1, x18.2.2.2.2.2.2.2.1, x18.2.2.2.2.2.2.2.2.1, x18.2.2.2.2.2.2.2.2.2.1, x18.2.2.2.2.2.2.2.2.2.2.1, x18.2.2.2.2.2.2.2.2.2.2.2.1, x18.2.2.2.2.2.2.2.2.2.2.2.2.1, x18.2.2.2.2.2.2.2.2.2.2.2.2.2))))
def sf89 (N : Nat) (a0_0 : Int) (a0_1 : Int) (a0_2 : Int) (a0_3 : Int) (a1 : (List (Int × Int × Int × Int))) : Option (Int × Int × Int × Int × Int × (Nat → Int) × Bool) :=
  (bnd (sf97 N a0_0 a0_1 a0_2 a0_3) fun v7 => bnd (iter (sf89_L1 N a1) N ((0 : Int), ((fun _ => none) : ((Int × Int × Int × Int) → Option Bool)), v7.1, v7.2.1, v7.2.2.1, v7.2.2.2.1, v7.2.2.2.2.1, v7.2.2.2.2.2, (0 : Int), (0 : Int), (0 : Int), (0 : Int), (0 : Int), (fun _ => 0))) (sel (fun w39 => some (w39.2.2.2.2.2.2.2.1, w39.2.2.2.2.2.2.2.2.1, w39.2.2.2.2.2.2.2.2.2.1, w39.2.2.2.2.2.2.2.2.2.2.1, w39.2.2.2.2.2.2.2.2.2.2.2.1, w39.2.2.2.2.2.2.2.2.2.2.2.2, false)) (fun w42 => some (w42.2.1, w42.2.2.1, w42.2.2.2.1, w42.2.2.2.2.1, w42.2.2.2.2.2.1, w42.2.2.2.2.2.2.1, true))))
/- meniscus/bore.readFor -/
def sf72 (N : Nat) (a0_0 : Int) (a0_1 : Int) (a0_2 : Int) (a0_3 : Int) (a1 : (List (Int × Int × Int × Int))) (a2 : Bool) : Option (Int × Int × Int × Int × Int × (Nat → Int) × Int) :=
  (bnd (sf64 N a0_0 a0_1 a0_2 a0_3 a1) fun v7 => (bif (!(decide (v7 = (0 : Int)))) then some ((0 : Int), (0 : Int), (0 : Int), (0 : Int), (0 : Int), (fun _ => 0), v7) else (bif (!a2) then some ((0 : Int), (0 : Int), (0 : Int), (0 : Int), (0 : Int), (fun _ => 0), (2 : Int)) else (bnd (sf89 N a0_0 a0_1 a0_2 a0_3 a1) fun v14 => (bif (!v14.2.2.2.2.2.2) then some ((0 : Int), (0 : Int), (0 : Int), (0 : Int), (0 : Int), (fun _ => 0), (9 : Int)) else some (v14.1, v14.2.1, v14.2.2.1, v14.2.2.2.1, v14.2.2.2.2.1, v14.2.2.2.2.2.1, (0 : Int)))))))
/- meniscus/bore.bothEnds -/
def sf77 (N : Nat) : Option Unit :=
  some ()
/- (*meniscus/gaps.Gaps).Lowest -/
def sf90 (N : Nat) (a0p0 : Int) (a0p1 : Int) (a0p2 : Int) (a0p3 : Int) (a0p4 : Int) (a0p5 : (Nat → Int)) (a1 : Int) : Option Int :=
  (ck (0 ≤ a1 ∧ a1 < 13) ((ck (0 ≤ (0 : Int) ∧ (0 : Int) < 13) ((ck (rng (-(a0p5 (((Int.toNat a1) * 13) + (Int.toNat (0 : Int)))))) (some (-(a0p5 (((Int.toNat a1) * 13) + (Int.toNat (0 : Int)))))))))))
/- (*meniscus/gaps.Gaps).Highest -/
def sf91 (N : Nat) (a0p0 : Int) (a0p1 : Int) (a0p2 : Int) (a0p3 : Int) (a0p4 : Int) (a0p5 : (Nat → Int)) (a1 : Int) : Option Int :=
  (ck (0 ≤ (0 : Int) ∧ (0 : Int) < 13) ((ck (0 ≤ a1 ∧ a1 < 13) (some (a0p5 (((Int.toNat (0 : Int)) * 13) + (Int.toNat a1)))))))
/- (meniscus/bore.readTube).bounds -/
def sf73_L1 (N : Nat) (a0_0 : Int) (a0_1 : Int) (a0_2 : Int) (a0_3 : Int) (a0_4 : Int) (a0_5 : (Nat → Int)) (x29 : ((List (Int × Int)) × Int)) : Option (((List (Int × Int)) × Int) ⊕ (List (Int × Int))) :=
  (bif (decide (x29.2 ≤ a0_0)) then (bnd (sf90 N a0_0 a0_1 a0_2 a0_3 a0_4 a0_5 x29.2) fun v49 => (bnd (sf91 N a0_0 a0_1 a0_2 a0_3 a0_4 a0_5 x29.2) fun v53 => (ck ((x29.1.length + 1) * 16 ≤ 35184372088832 ∧ x29.1.length + 1 ≤ 35184372088832) ((ck (rng (x29.2 + (1 : Int))) (some (.inl ((x29.1 ++ [(v49, v53)]), (x29.2 + (1 : Int)))))))))) else some (.inr x29.1))
def sf73 (N : Nat) (a0_0 : Int) (a0_1 : Int) (a0_2 : Int) (a0_3 : Int) (a0_4 : Int) (a0_5 : (Nat → Int)) : Option (List (Int × Int)) :=
  (bnd (sf77 N ) fun v4 => (ck (rng (a0_0 + (1 : Int))) ((ck (0 ≤ (0 : Int) ∧ 0 ≤ (a0_0 + (1 : Int)) ∧ Int.toNat (0 : Int) ≤ Int.toNat (a0_0 + (1 : Int)) ∧ (Int.toNat (a0_0 + (1 : Int)) * 16 ≤ 35184372088832 ∧ Int.toNat (a0_0 + (1 : Int)) ≤ 35184372088832)) (bnd (iter (sf73_L1 N a0_0 a0_1 a0_2 a0_3 a0_4 a0_5) N ((List.replicate (Int.toNat (0 : Int)) (0, 0)), (0 : Int))) (fun y45 => some y45))))))
/- meniscus/bore.Heights -/
def sf29 (N : Nat) (a0_0 : Int) (a0_1 : Int) (a0_2 : Int) (a0_3 : Int) (a1 : (List (Int × Int × Int × Int))) : Option ((List (Int × Int)) × Int) :=
  (bnd (sf72 N a0_0 a0_1 a0_2 a0_3 a1 true) fun v4 => (bif (!(decide (v4.2.2.2.2.2.2 = (0 : Int)))) then some ([], v4.2.2.2.2.2.2) else (bnd (sf73 N v4.1 v4.2.1 v4.2.2.1 v4.2.2.2.1 v4.2.2.2.2.1 v4.2.2.2.2.2.1) fun v12 => some (v12, (0 : Int)))))
/- (meniscus/bore.readTube).volumesAt -/
def sf76_L1 (N : Nat) (a0_0 : Int) (a0_1 : Int) (a0_2 : Int) (a0_3 : Int) (a0_4 : Int) (a0_5 : (Nat → Int)) (x22 : ((List Int) × Int)) : Option (((List Int) × Int) ⊕ (List Int)) :=
  (bif (decide (x22.2 < a0_0)) then (ck (rng (x22.2 + (1 : Int))) ((bnd (sf91 N a0_0 a0_1 a0_2 a0_3 a0_4 a0_5 (x22.2 + (1 : Int))) fun v44 => (bnd (sf91 N a0_0 a0_1 a0_2 a0_3 a0_4 a0_5 x22.2) fun v47 => (ck (rng (v44 - v47)) ((ck ((x22.1.length + 1) * 8 ≤ 35184372088832 ∧ x22.1.length + 1 ≤ 35184372088832) ((ck (rng (x22.2 + (1 : Int))) (some (.inl ((x22.1 ++ [(v44 - v47)]), (x22.2 + (1 : Int)))))))))))))) else some (.inr x22.1))
def sf76 (N : Nat) (a0_0 : Int) (a0_1 : Int) (a0_2 : Int) (a0_3 : Int) (a0_4 : Int) (a0_5 : (Nat → Int)) : Option (List Int) :=
  (ck (0 ≤ (0 : Int) ∧ 0 ≤ a0_0 ∧ Int.toNat (0 : Int) ≤ Int.toNat a0_0 ∧ (Int.toNat a0_0 * 8 ≤ 35184372088832 ∧ Int.toNat a0_0 ≤ 35184372088832)) (bnd (iter (sf76_L1 N a0_0 a0_1 a0_2 a0_3 a0_4 a0_5) N ((List.replicate (Int.toNat (0 : Int)) 0), (0 : Int))) (fun y39 => some y39)))
/- (meniscus/bore.readTube).volumesAt -/
def sf76_2_L1 (N : Nat) (a0_0 : Int) (a0_1 : Int) (a0_2 : Int) (a0_3 : Int) (a0_4 : Int) (a0_5 : (Nat → Int)) (x22 : ((List Int) × Int)) : Option (((List Int) × Int) ⊕ (List Int)) :=
  (bif (decide (x22.2 < a0_0)) then (ck (rng (x22.2 + (1 : Int))) ((bnd (sf90 N a0_0 a0_1 a0_2 a0_3 a0_4 a0_5 (x22.2 + (1 : Int))) fun v44 => (bnd (sf90 N a0_0 a0_1 a0_2 a0_3 a0_4 a0_5 x22.2) fun v47 => (ck (rng (v44 - v47)) ((ck ((x22.1.length + 1) * 8 ≤ 35184372088832 ∧ x22.1.length + 1 ≤ 35184372088832) ((ck (rng (x22.2 + (1 : Int))) (some (.inl ((x22.1 ++ [(v44 - v47)]), (x22.2 + (1 : Int)))))))))))))) else some (.inr x22.1))
def sf76_2 (N : Nat) (a0_0 : Int) (a0_1 : Int) (a0_2 : Int) (a0_3 : Int) (a0_4 : Int) (a0_5 : (Nat → Int)) : Option (List Int) :=
  (ck (0 ≤ (0 : Int) ∧ 0 ≤ a0_0 ∧ Int.toNat (0 : Int) ≤ Int.toNat a0_0 ∧ (Int.toNat a0_0 * 8 ≤ 35184372088832 ∧ Int.toNat a0_0 ≤ 35184372088832)) (bnd (iter (sf76_2_L1 N a0_0 a0_1 a0_2 a0_3 a0_4 a0_5) N ((List.replicate (Int.toNat (0 : Int)) 0), (0 : Int))) (fun y39 => some y39)))
/- meniscus/bore.Shows -/
def sf36 (N : Nat) (a0_0 : Int) (a0_1 : Int) (a0_2 : Int) (a0_3 : Int) (a1 : (List (Int × Int × Int × Int))) (a2 : Int) (a3 : Bool) : Option ((List Int) × Int) :=
  (bif (decide ((0 : Int) ≤ a2)) then (bnd (sf72 N a0_0 a0_1 a0_2 a0_3 a1 (decide (a2 ≤ a0_0))) fun v5 => (bif (!(decide (v5.2.2.2.2.2.2 = (0 : Int)))) then some ([], v5.2.2.2.2.2.2) else (bif a3 then (bnd (sf77 N ) fun v14 => (bnd (sf76 N v5.1 v5.2.1 v5.2.2.1 v5.2.2.2.1 v5.2.2.2.2.1 v5.2.2.2.2.2.1) fun v18 => some (v18, (0 : Int)))) else (bnd (sf77 N ) fun v22 => (bnd (sf76_2 N v5.1 v5.2.1 v5.2.2.1 v5.2.2.2.1 v5.2.2.2.2.1 v5.2.2.2.2.2.1) fun v26 => some (v26, (0 : Int))))))) else (bnd (sf72 N a0_0 a0_1 a0_2 a0_3 a1 false) fun v30 => (bif (!(decide (v30.2.2.2.2.2.2 = (0 : Int)))) then some ([], v30.2.2.2.2.2.2) else (bif a3 then (bnd (sf77 N ) fun v39 => (bnd (sf76 N v30.1 v30.2.1 v30.2.2.1 v30.2.2.2.1 v30.2.2.2.2.1 v30.2.2.2.2.2.1) fun v43 => some (v43, (0 : Int)))) else (bnd (sf77 N ) fun v47 => (bnd (sf76_2 N v30.1 v30.2.1 v30.2.2.1 v30.2.2.2.1 v30.2.2.2.2.1 v30.2.2.2.2.2.1) fun v51 => some (v51, (0 : Int))))))))
/- meniscus/meniscuslaw01.BoreEnds -/
def sf11_L1 (N : Nat) (a0_0 : Int) (a0_1 : Int) (a0_2 : Int) (a0_3 : Int) (v16 : (List (Int × Int × Int × Int))) (v32 : ((List (Int × Int)) × Int)) (x85 : Int) : Option (Int ⊕ (Unit ⊕ Unit)) :=
  (bif (decide (x85 ≤ a0_0)) then (bnd (sf21 N a0_0 a0_1 a0_2 a0_3) fun v223 => (bnd (sf23 N v16) fun v226 => (bnd (sf36 N v223.1 v223.2.1 v223.2.2.1 v223.2.2.2 v226 x85 false) fun v237 => (bnd (sf21 N a0_0 a0_1 a0_2 a0_3) fun v249 => (bnd (sf23 N v16) fun v252 => (bnd (sf36 N v249.1 v249.2.1 v249.2.2.1 v249.2.2.2 v252 x85 true) fun v265 => bnd ((bif (!(decide (v237.2 = (0 : Int)))) then some true else (bif (!(decide (v265.2 = (0 : Int)))) then some true else (bnd (sf27 N a0_0 a0_1 a0_2 a0_3 v16 v237.1) fun v312 => (bif (!v312) then some true else (bnd (sf27 N a0_0 a0_1 a0_2 a0_3 v16 v265.1) fun v317 => (bif (!v317) then some true else (bnd (sf38 N v237.1 x85) fun v322 => (ix v32.1 x85 fun x325 => (bif (!(decide (v322 = x325.1))) then some true else (bnd (sf38 N v265.1 x85) fun v328 => (ix v32.1 x85 fun x331 => some (!(decide (v328 = x331.2)))))))))))))) : Option (Bool)) (fun y304 => (bif y304 then some (.inr (.inl ())) else (ck (rng (x85 + (1 : Int))) (some (.inl (x85 + (1 : Int))))))))))))) else some (.inr (.inr ())))
def sf11 (N : Nat) (a0_0 : Int) (a0_1 : Int) (a0_2 : Int) (a0_3 : Int) (a1 : (List Int)) (a2 : (List Int)) : Option Bool :=
  (bnd (sf25 N a0_0 a0_1 a0_2 a0_3) fun v4 => (bif (!v4) then some true else (bnd (sf53 N a0_0 a0_1 a0_2 a0_3 a1) fun v9 => (bnd (sf54 N a0_0 a0_1 a0_2 a0_3 v9 a2) fun v16 => (bnd (sf21 N a0_0 a0_1 a0_2 a0_3) fun v22 => (bnd (sf23 N v16) fun v25 => (bnd (sf29 N v22.1 v22.2.1 v22.2.2.1 v22.2.2.2 v25) fun v32 => bnd (bnd ((bif (!(decide (v32.2 = (0 : Int)))) then some true else (ck (rng (a0_0 + (1 : Int))) (some (!(decide (((v32.1).length : Int) = (a0_0 + (1 : Int)))))))) : Option (Bool)) (fun y63 => (bif y63 then some (.inl ()) else some (.inr ()))) : Option (Unit ⊕ Unit)) (sel (fun w57 => some false) (fun w59 => bnd (iter (sf11_L1 N a0_0 a0_1 a0_2 a0_3 v16 v32) N (0 : Int)) (sel (fun w218 => some false) (fun w220 => some true)))))))))))
end Go.Hx.V

/- Functions of the program come to that. -/
namespace Go.Hx.V
open Go.Hx
set_option linter.unusedVariables false
set_option maxRecDepth 20000
set_option maxHeartbeats 4000000
attribute [local irreducible] W R C thenH inBlockH Tr.get Tr.set lo ck bnd ix iter
theorem ct35 (N : Nat) {a0_0 : Int} {a0_1 : Int} {r : (Int × Int)} (hF : sf35 N a0_0 a0_1 = some r) {fl : Nat} {h0 : Tr HBlk} {n0 : Nat} {F0 : PH} (hd : D h0 n0) (hs : F0.sub h0) : C LW fl 35 [(.agg [(i64 a0_0), (i64 a0_1)])] ⟨h0, n0⟩ (KS (.agg [(i64 r.1), (i64 r.2)]) n0 h0) := by
  unfold sf35 at hF
  refine in_cT hd hs lw35 rfl rfl (by rfl) (fun st T hT => ?_)
  have hfl : n0 ≤ n0 := Nat.le_refl n0
  have t0 := hT 0 _ rfl
  dsimp only [L35]
  refine w_seq ?_; refine w_reg ?_; refine v_box st (fun b1 h2 n3 st => ?_); refine v_alloc st (fun b4 h5 n6 st => ?_); refine r_nil ?_; refine th_n ?_; refine w_seq ?_; refine w_reg ?_; refine v_fa ?_; refine v_ld1 (st.at (i := 0) rfl).2.2 rfl ?_; refine v_fa ?_; refine v_ld1 (st.at (i := 0) rfl).2.2 rfl ?_; refine v_build (cs := [(i64 a0_0), (i64 a0_1)]) rfl ?_; refine v_st (cs' := [(i64 a0_0), (i64 a0_1)]) st 1 rfl rfl rfl rfl hfl (fun h7 st => ?_); refine r_nil ?_; refine th_n ?_; refine w_ret ?_; obtain rfl := inj hF
  exact end_s st (Res.c gA (st.at (i := 1) rfl).2.2 (show takeN _ _ = some [(i64 a0_0), (i64 a0_1)] from rfl) Res.nil) rfl rfl
theorem ct83 (N : Nat) {a0_0 : Int} {a0_1 : Int} {a1 : Int} {a2 : Int} {r : Bool} (hF : sf83 N a0_0 a0_1 a1 a2 = some r) {fl : Nat} {h0 : Tr HBlk} {n0 : Nat} {F0 : PH} (hd : D h0 n0) (hs : F0.sub h0) : C LW fl 83 [(.agg [(i64 a0_0), (i64 a0_1)]), (i64 a1), (i64 a2)] ⟨h0, n0⟩ (KS (.bool r) n0 h0) := by
  unfold sf83 at hF
  refine in_cT hd hs lw83 rfl rfl (by rfl) (fun st T hT => ?_)
  have hfl : n0 ≤ n0 := Nat.le_refl n0
  have t0 := hT 0 _ rfl
  have t1 := hT 1 _ rfl
  have t2 := hT 2 _ rfl
  dsimp only [L83]
  refine w_seq ?_; refine w_reg ?_; refine v_box st (fun b1 h2 n3 st => ?_); refine v_move ?_; refine r_nil ?_; refine th_n ?_; refine w_seq ?_; refine w_reg ?_; refine v_move ?_; refine v_fa ?_; refine v_ld1 (st.at (i := 0) rfl).2.2 rfl ?_; refine v_leq ?_; refine v_move ?_
  rcases Bool.eq_false_or_eq_true (decide (a1 ≤ a0_0)) with hb4 | hb4
  · have hF := bif_t hb4 hF; refine g_take hb4 (v_fa ?_); refine g_take hb4 (v_ld1 (st.at (i := 0) rfl).2.2 rfl ?_); refine g_take hb4 (v_fa ?_); refine g_take hb4 (v_ld1 (st.at (i := 0) rfl).2.2 rfl ?_); refine g_take hb4 (v_leq ?_); refine v_pick hb4 ?_; refine v_move ?_
    rcases Bool.eq_false_or_eq_true (decide (a0_0 ≤ a0_1)) with hb5 | hb5
    · have hF := bif_t hb5 hF; refine g_take hb5 (v_fa ?_); refine g_take hb5 (v_ld1 (st.at (i := 0) rfl).2.2 rfl ?_); refine g_take hb5 (v_move ?_); refine g_take hb5 (v_leq ?_); refine v_pick hb5 ?_; refine v_move ?_; refine r_nil ?_; refine th_n ?_; refine w_ret ?_; obtain rfl := inj hF
      exact end_s st (Res.t gA Res.nil) rfl rfl
    · have hF := bif_f hb5 hF; refine g_skip hb5 ?_; refine g_skip hb5 ?_; refine g_skip hb5 ?_; refine g_skip hb5 ?_; refine v_pick' hb5 ?_; refine v_move ?_; refine r_nil ?_; refine th_n ?_; refine w_ret ?_; obtain rfl := inj hF
      exact end_s st (Res.t gA Res.nil) rfl rfl
  · have hF := bif_f hb4 hF; refine g_skip hb4 ?_; refine g_skip hb4 ?_; refine g_skip hb4 ?_; refine g_skip hb4 ?_; refine g_skip hb4 ?_; refine v_pick' hb4 ?_; refine v_move ?_; refine g_skip rfl ?_; refine g_skip rfl ?_; refine g_skip rfl ?_; refine g_skip rfl ?_; refine v_pick' rfl ?_; refine v_move ?_; refine r_nil ?_; refine th_n ?_; refine w_ret ?_; obtain rfl := inj hF
    exact end_s st (Res.t gA Res.nil) rfl rfl
theorem ct66 (N : Nat) {a0_0 : Int} {a0_1 : Int} {a1 : Int} {r : Bool} (hF : sf66 N a0_0 a0_1 a1 = some r) {fl : Nat} {h0 : Tr HBlk} {n0 : Nat} {F0 : PH} (hd : D h0 n0) (hs : F0.sub h0) : C LW fl 66 [(.agg [(i64 a0_0), (i64 a0_1)]), (i64 a1)] ⟨h0, n0⟩ (KS (.bool r) n0 h0) := by
  unfold sf66 at hF
  refine in_cT hd hs lw66 rfl rfl (by rfl) (fun st T hT => ?_)
  have hfl : n0 ≤ n0 := Nat.le_refl n0
  have t0 := hT 0 _ rfl
  have t1 := hT 1 _ rfl
  dsimp only [L66]
  refine w_seq ?_; refine w_reg ?_; refine v_box st (fun b1 h2 n3 st => ?_); refine v_move ?_; refine r_nil ?_; refine th_n ?_; refine w_seq ?_; refine w_reg ?_; refine v_fa ?_; refine v_ld1 (st.at (i := 0) rfl).2.2 rfl ?_; refine v_move ?_; refine v_leq ?_; refine v_move ?_
  rcases Bool.eq_false_or_eq_true (decide (a0_0 ≤ a1)) with hb4 | hb4
  · have hF := bif_t hb4 hF; refine g_take hb4 (v_move ?_); refine g_take hb4 (v_fa ?_); refine g_take hb4 (v_ld1 (st.at (i := 0) rfl).2.2 rfl ?_); refine g_take hb4 (v_leq ?_); refine v_pick hb4 ?_; refine v_move ?_; refine r_nil ?_; refine th_n ?_; refine w_ret ?_; obtain rfl := inj hF
    exact end_s st (Res.t gA Res.nil) rfl rfl
  · have hF := bif_f hb4 hF; refine g_skip hb4 ?_; refine g_skip hb4 ?_; refine g_skip hb4 ?_; refine g_skip hb4 ?_; refine v_pick' hb4 ?_; refine v_move ?_; refine r_nil ?_; refine th_n ?_; refine w_ret ?_; obtain rfl := inj hF
    exact end_s st (Res.t gA Res.nil) rfl rfl
theorem ct37 (N : Nat) {a0 : Int} {a1 : Int} {a2 : Int} {r : Bool} (hF : sf37 N a0 a1 a2 = some r) {fl : Nat} {h0 : Tr HBlk} {n0 : Nat} {F0 : PH} (hd : D h0 n0) (hs : F0.sub h0) : C LW fl 37 [(i64 a0), (i64 a1), (i64 a2)] ⟨h0, n0⟩ (KS (.bool r) n0 h0) := by
  unfold sf37 at hF
  refine in_cT hd hs lw37 rfl rfl (by rfl) (fun st T hT => ?_)
  have hfl : n0 ≤ n0 := Nat.le_refl n0
  have t0 := hT 0 _ rfl
  have t1 := hT 1 _ rfl
  have t2 := hT 2 _ rfl
  dsimp only [L37]
  refine w_seq ?_; refine w_reg ?_; refine v_move ?_; refine r_nil ?_; refine th_n ?_; refine w_seq ?_; refine w_reg ?_; refine v_move ?_; refine v_move ?_; refine v_geq ?_; refine v_move ?_
  rcases Bool.eq_false_or_eq_true (decide (a1 ≤ a0)) with hb1 | hb1
  · have hF := bif_t hb1 hF; refine g_take hb1 (v_move ?_); refine g_take hb1 (v_move ?_); refine g_take hb1 (v_leq ?_); refine v_pick hb1 ?_; refine v_move ?_; refine r_nil ?_; refine th_n ?_; refine w_ret ?_; obtain rfl := inj hF
    exact end_s st (Res.t gA Res.nil) rfl rfl
  · have hF := bif_f hb1 hF; refine g_skip hb1 ?_; refine g_skip hb1 ?_; refine g_skip hb1 ?_; refine v_pick' hb1 ?_; refine v_move ?_; refine r_nil ?_; refine th_n ?_; refine w_ret ?_; obtain rfl := inj hF
    exact end_s st (Res.t gA Res.nil) rfl rfl
theorem ct38 (N : Nat) {a0 : (List Int)} {a1 : Int} {r : Int} (hF : sf38 N a0 a1 = some r) {fl : Nat} {h0 : Tr HBlk} {n0 : Nat} {F0 : PH} (hd : D h0 n0) (hs : F0.sub h0) {pa0 : Option (Nat × Nat)} {ca0 : Nat} (ra0 : RowF rI 1 F0 pa0 ca0 a0) : C LW fl 38 [(.slice pa0 (a0).length ca0), (i64 a1)] ⟨h0, n0⟩ (KS (i64 r) n0 h0) := by
  unfold sf38 at hF
  refine in_cT hd hs lw38 rfl rfl (by rfl) (fun st T hT => ?_)
  have hfl : n0 ≤ n0 := Nat.le_refl n0
  have t0 := hT 0 _ rfl
  have t1 := hT 1 _ rfl
  dsimp only [L38]
  refine w_seq ?_; refine w_reg ?_; refine v_move ?_; refine r_nil ?_; refine th_n ?_; refine w_seq ?_; refine w_reg ?_; refine v_move ?_; refine r_nil ?_; refine th_n ?_; refine w_seq ?_; refine w_seq ?_; refine w_reg ?_; refine v_move ?_; refine r_nil ?_; refine th_n ?_; refine w_block ?_; obtain ⟨y7, hy, hF⟩ := bnd_some hF; refine v_loopD (sf38_L1 a0 a1) (fun x1 T ds2 h nx => ∃ (F2 : PH), ds2 = [] ∧ PH.le F0 F2 ∧ St n0 h0 F0 F2 h nx [] ∧ T.get 0 = some (.slice pa0 (a0).length ca0) ∧ T.get 1 = some (i64 a1) ∧ T.get 5 = some (i64 x1.1) ∧ T.get 6 = some (i64 x1.2)) (fun y e a σ => e = .exit 0 ∧ a.nt = 19 ∧ ∃ (F8 : PH), a.defers = [] ∧ PH.le F0 F8 ∧ St n0 h0 F0 F8 σ.h σ.nx [] ∧ a.tmps.get 5 = some (i64 y)) (fun x1 T ds2 h nx s hp hF => ?_) N _ y7 _ _ _ _ hy ⟨F0, rfl, (PH.le.refl _), st, gA, gA, gA, gA⟩ (fun e a σ hne hq => ?_)
  · obtain ⟨F2, rfl, le2, st, t0, t1, t5, t6⟩ := hp; unfold sf38_L1 at hF; unfold L38w0; refine w_seq ?_; refine w_seq ?_; refine w_reg ?_; refine v_move ?_; refine v_move ?_; refine v_lss ?_; refine r_nil ?_; refine th_n ?_; refine v_cond (fun hb9 => ?_) (fun hb9 => ?_)
    · have hF := bif_t hb9 hF; refine w_skip ?_; refine th_n ?_; refine w_seq ?_; refine w_block ?_; refine w_reg ?_; refine v_move ?_; refine v_move ?_; refine v_move ?_; obtain ⟨n10, x10, z10, l10, g10, hF⟩ := ix_some hF; obtain ⟨b10, o10, s10, j10, r10, e10, f10, k10, rfl⟩ := RowF.get ra0 g10; refine v_ixp e10 z10 l10 ?_; refine v_ld1 (st.sub _ _ (le2 _ _ f10)) (take_at (j := 0) k10 rfl) ?_; obtain ⟨q11, hF⟩ := ck_some hF; refine v_add q11 ?_; refine v_move ?_; refine r_nil ?_; refine ib_n ?_; refine th_n ?_; refine w_reg ?_; refine v_move ?_; obtain ⟨q12, hF⟩ := ck_some hF; refine v_add q12 ?_; refine v_move ?_; refine r_nil ?_; refine thn ⟨_, (inj hF).symm, rfl, ?_⟩; dsimp only
      exact ⟨F2, rfl, le2, st, gA, gA, gA, gA⟩
    · have hF := bif_f hb9 hF; refine w_exit ?_; refine th_e ?_; refine th_e ?_; refine ⟨_, (inj hF).symm, rfl, rfl, ?_⟩; dsimp only
      exact ⟨F2, rfl, le2, st, gA⟩
  · obtain ⟨N9, T, ds8⟩ := a; obtain ⟨h13, n14⟩ := σ; obtain ⟨rfl, e1, F8, e2, le8, st, t5⟩ := hq
    dsimp only at e1 e2
    subst e1
    subst e2
    dsimp only at st t5
    refine ib_e ?_; refine th_n ?_; refine w_seq ?_; refine w_reg ?_; refine v_move ?_; refine v_move ?_; refine r_nil ?_; refine th_n ?_; refine w_ret ?_; obtain rfl := inj hF
    exact end_s st (Res.t gA Res.nil) rfl rfl
theorem ct62 (N : Nat) {a0 : (List Int)} {a1 : Int} {r : Int} (hF : sf62 N a0 a1 = some r) {fl : Nat} {h0 : Tr HBlk} {n0 : Nat} {F0 : PH} (hd : D h0 n0) (hs : F0.sub h0) {pa0 : Option (Nat × Nat)} {ca0 : Nat} (ra0 : RowF (rK .u16) 1 F0 pa0 ca0 a0) : C LW fl 62 [(.slice pa0 (a0).length ca0), (i64 a1)] ⟨h0, n0⟩ (KS (i64 r) n0 h0) := by
  unfold sf62 at hF
  refine in_cT hd hs lw62 rfl rfl (by rfl) (fun st T hT => ?_)
  have hfl : n0 ≤ n0 := Nat.le_refl n0
  have t0 := hT 0 _ rfl
  have t1 := hT 1 _ rfl
  dsimp only [L62]
  refine w_seq ?_; refine w_reg ?_; refine v_move ?_; refine r_nil ?_; refine th_n ?_; refine w_seq ?_; refine w_seq ?_; refine w_reg ?_; refine v_move ?_; refine v_len ?_; refine v_eqi ?_; refine r_nil ?_; refine th_n ?_; refine v_cond (fun hb1 => ?_) (fun hb1 => ?_)
  · have hF := bif_t hb1 hF; refine w_seq ?_; refine w_reg ?_; refine v_move ?_; refine r_nil ?_; refine th_n ?_; refine w_ret ?_; refine th_r ?_; obtain rfl := inj hF
    exact end_s st (Res.t gA Res.nil) rfl rfl
  · have hF := bif_f hb1 hF; refine w_skip ?_; refine th_n ?_; refine w_seq ?_; refine w_reg ?_; refine v_move ?_; refine v_move ?_; refine v_move ?_; refine v_len ?_; obtain ⟨q2, hF⟩ := ck_some hF; refine v_rem q2 ?_; obtain ⟨n3, x3, z3, l3, g3, hF⟩ := ix_some hF; obtain ⟨b3, o3, s3, j3, r3, e3, f3, k3, rfl⟩ := RowF.get ra0 g3; refine v_ixp e3 z3 l3 ?_; refine v_ld1 (st.sub _ _ f3) (take_at (j := 0) k3 rfl) ?_; obtain ⟨q4, hF⟩ := ck_some hF; refine v_conv q4 ?_; refine v_move ?_; refine r_nil ?_; refine th_n ?_; refine w_ret ?_; obtain rfl := inj hF
    exact end_s st (Res.t gA Res.nil) rfl rfl
end Go.Hx.V

/- Functions of the program come to that. -/
namespace Go.Hx.V
open Go.Hx
set_option linter.unusedVariables false
set_option maxRecDepth 20000
set_option maxHeartbeats 4000000
attribute [local irreducible] W R C thenH inBlockH Tr.get Tr.set lo ck bnd ix iter
theorem ct103 (N : Nat) {a0p0 : Int} {a0p1 : Int} {a0p2 : Int} {a0p3 : Int} {a0p4 : Int} {a0p5 : (Nat → Int)} {a1 : Int} {a2 : Int} {a3 : Int} {r : Bool} (hF : sf103 N a0p0 a0p1 a0p2 a0p3 a0p4 a0p5 a1 a2 a3 = some r) {fl : Nat} {h0 : Tr HBlk} {n0 : Nat} {F0 : PH} (hd : D h0 n0) (hs : F0.sub h0) {ba0 : Nat} (hba0 : F0 ba0 = some (.cells ([(i64 a0p0), (i64 a0p1), (i64 a0p2), (i64 a0p3), (i64 a0p4)] ++ (eI .i64 169 a0p5)) .exact)) : C LW fl 103 [(.ptr (some (ba0, 4))), (i64 a1), (i64 a2), (i64 a3)] ⟨h0, n0⟩ (KS (.bool r) n0 h0) := by
  unfold sf103 at hF
  refine in_cT hd hs lw103 rfl rfl (by rfl) (fun st T hT => ?_)
  have hfl : n0 ≤ n0 := Nat.le_refl n0
  have t0 := hT 0 _ rfl
  have t1 := hT 1 _ rfl
  have t2 := hT 2 _ rfl
  have t3 := hT 3 _ rfl
  dsimp only [L103]
  refine w_seq ?_; refine w_reg ?_; refine v_move ?_; refine r_nil ?_; refine th_n ?_; refine w_seq ?_; refine w_reg ?_; refine v_move ?_; refine v_move ?_; refine v_move ?_; refine v_move ?_; refine v_nc ?_; refine v_fa ?_; obtain ⟨q1, hF⟩ := ck_some hF
  refine v_ixa (j := (Int.toNat a2)) (Int.toNat_of_nonneg q1.1).symm (by omega) ?_
  obtain ⟨q2, hF⟩ := ck_some hF
  refine v_ixa (j := (Int.toNat a1)) (Int.toNat_of_nonneg q2.1).symm (by omega) ?_
  refine v_ld1 (o := ((5 + (Int.toNat a2) * 13) + (Int.toNat a1) * 1)) (st.sub _ _ hba0) (ar_get (p := 5) (ix := (((Int.toNat a2) * 13) + (Int.toNat a1))) [(i64 a0p0), (i64 a0p1), (i64 a0p2), (i64 a0p3), (i64 a0p4)] rfl (by omega) (by omega)) ?_
  obtain ⟨q3, hF⟩ := ck_some hF; refine v_add q3 ?_; refine v_geq ?_; refine v_move ?_; refine r_nil ?_; refine th_n ?_; refine w_ret ?_; obtain rfl := inj hF
  exact end_s st (Res.t gA Res.nil) rfl rfl
theorem ct77 (N : Nat) {r : Unit} (hF : sf77 N = some r) {fl : Nat} {h0 : Tr HBlk} {n0 : Nat} {F0 : PH} (hd : D h0 n0) (hs : F0.sub h0) : C LW fl 77 [] ⟨h0, n0⟩ (KS (.agg [(.via 131 "Lowest" 90), (.via 131 "Highest" 91)]) n0 h0) := by
  unfold sf77 at hF
  refine in_cT hd hs lw77 rfl rfl (by rfl) (fun st T hT => ?_)
  have hfl : n0 ≤ n0 := Nat.le_refl n0
  dsimp only [L77]
  refine w_seq ?_; refine w_reg ?_; refine v_alloc st (fun b1 h2 n3 st => ?_); refine r_nil ?_; refine th_n ?_; refine w_seq ?_; refine w_reg ?_; refine v_move ?_; refine v_move ?_; refine v_build (cs := [(.via 131 "Lowest" 90), (.via 131 "Highest" 91)]) rfl ?_; refine v_st (cs' := [(.via 131 "Lowest" 90), (.via 131 "Highest" 91)]) st 0 rfl rfl rfl rfl hfl (fun h4 st => ?_); refine r_nil ?_; refine th_n ?_; refine w_ret ?_; obtain rfl := inj hF
  exact end_s st (Res.c gA (st.at (i := 0) rfl).2.2 (show takeN _ _ = some [(.via 131 "Lowest" 90), (.via 131 "Highest" 91)] from rfl) Res.nil) rfl rfl
theorem ct90 (N : Nat) {a0p0 : Int} {a0p1 : Int} {a0p2 : Int} {a0p3 : Int} {a0p4 : Int} {a0p5 : (Nat → Int)} {a1 : Int} {r : Int} (hF : sf90 N a0p0 a0p1 a0p2 a0p3 a0p4 a0p5 a1 = some r) {fl : Nat} {h0 : Tr HBlk} {n0 : Nat} {F0 : PH} (hd : D h0 n0) (hs : F0.sub h0) {ba0 : Nat} (hba0 : F0 ba0 = some (.cells ([(i64 a0p0), (i64 a0p1), (i64 a0p2), (i64 a0p3), (i64 a0p4)] ++ (eI .i64 169 a0p5)) .exact)) : C LW fl 90 [(.ptr (some (ba0, 4))), (i64 a1)] ⟨h0, n0⟩ (KS (i64 r) n0 h0) := by
  unfold sf90 at hF
  refine in_cT hd hs lw90 rfl rfl (by rfl) (fun st T hT => ?_)
  have hfl : n0 ≤ n0 := Nat.le_refl n0
  have t0 := hT 0 _ rfl
  have t1 := hT 1 _ rfl
  dsimp only [L90]
  refine w_seq ?_; refine w_reg ?_; refine v_move ?_; refine r_nil ?_; refine th_n ?_; refine w_seq ?_; refine w_reg ?_; refine v_move ?_; refine v_move ?_; refine v_nc ?_; refine v_fa ?_; obtain ⟨q1, hF⟩ := ck_some hF
  refine v_ixa (j := (Int.toNat a1)) (Int.toNat_of_nonneg q1.1).symm (by omega) ?_
  obtain ⟨q2, hF⟩ := ck_some hF
  refine v_ixa (j := (Int.toNat (0 : Int))) (Int.toNat_of_nonneg q2.1).symm (by omega) ?_
  refine v_ld1 (o := ((5 + (Int.toNat a1) * 13) + (Int.toNat (0 : Int)) * 1)) (st.sub _ _ hba0) (ar_get (p := 5) (ix := (((Int.toNat a1) * 13) + (Int.toNat (0 : Int)))) [(i64 a0p0), (i64 a0p1), (i64 a0p2), (i64 a0p3), (i64 a0p4)] rfl (by omega) (by omega)) ?_
  obtain ⟨q3, hF⟩ := ck_some hF; refine v_neg q3 ?_; refine v_move ?_; refine r_nil ?_; refine th_n ?_; refine w_ret ?_; obtain rfl := inj hF
  exact end_s st (Res.t gA Res.nil) rfl rfl
theorem ct91 (N : Nat) {a0p0 : Int} {a0p1 : Int} {a0p2 : Int} {a0p3 : Int} {a0p4 : Int} {a0p5 : (Nat → Int)} {a1 : Int} {r : Int} (hF : sf91 N a0p0 a0p1 a0p2 a0p3 a0p4 a0p5 a1 = some r) {fl : Nat} {h0 : Tr HBlk} {n0 : Nat} {F0 : PH} (hd : D h0 n0) (hs : F0.sub h0) {ba0 : Nat} (hba0 : F0 ba0 = some (.cells ([(i64 a0p0), (i64 a0p1), (i64 a0p2), (i64 a0p3), (i64 a0p4)] ++ (eI .i64 169 a0p5)) .exact)) : C LW fl 91 [(.ptr (some (ba0, 4))), (i64 a1)] ⟨h0, n0⟩ (KS (i64 r) n0 h0) := by
  unfold sf91 at hF
  refine in_cT hd hs lw91 rfl rfl (by rfl) (fun st T hT => ?_)
  have hfl : n0 ≤ n0 := Nat.le_refl n0
  have t0 := hT 0 _ rfl
  have t1 := hT 1 _ rfl
  dsimp only [L91]
  refine w_seq ?_; refine w_reg ?_; refine v_move ?_; refine r_nil ?_; refine th_n ?_; refine w_seq ?_; refine w_reg ?_; refine v_move ?_; refine v_move ?_; refine v_nc ?_; refine v_fa ?_; obtain ⟨q1, hF⟩ := ck_some hF
  refine v_ixa (j := (Int.toNat (0 : Int))) (Int.toNat_of_nonneg q1.1).symm (by omega) ?_
  obtain ⟨q2, hF⟩ := ck_some hF
  refine v_ixa (j := (Int.toNat a1)) (Int.toNat_of_nonneg q2.1).symm (by omega) ?_
  refine v_ld1 (o := ((5 + (Int.toNat (0 : Int)) * 13) + (Int.toNat a1) * 1)) (st.sub _ _ hba0) (ar_get (p := 5) (ix := (((Int.toNat (0 : Int)) * 13) + (Int.toNat a1))) [(i64 a0p0), (i64 a0p1), (i64 a0p2), (i64 a0p3), (i64 a0p4)] rfl (by omega) (by omega)) ?_
  refine v_move ?_; refine r_nil ?_; refine th_n ?_; refine w_ret ?_; obtain rfl := inj hF
  exact end_s st (Res.t gA Res.nil) rfl rfl
end Go.Hx.V

/- Functions of the program come to that. -/
namespace Go.Hx.V
open Go.Hx
set_option linter.unusedVariables false
set_option maxRecDepth 20000
set_option maxHeartbeats 4000000
attribute [local irreducible] W R C thenH inBlockH Tr.get Tr.set lo ck bnd ix iter
theorem ct21 (N : Nat) {a0_0 : Int} {a0_1 : Int} {a0_2 : Int} {a0_3 : Int} {r : (Int × Int × Int × Int)} (hF : sf21 N a0_0 a0_1 a0_2 a0_3 = some r) {fl : Nat} {h0 : Tr HBlk} {n0 : Nat} {F0 : PH} (hd : D h0 n0) (hs : F0.sub h0) : C LW fl 21 [(.agg [(i64 a0_0), (i64 a0_1), (i64 a0_2), (i64 a0_3)])] ⟨h0, n0⟩ (KS (.agg [(i64 r.1), (i64 r.2.1), (i64 r.2.2.1), (i64 r.2.2.2)]) n0 h0) := by
  unfold sf21 at hF
  refine in_cT hd hs lw21 rfl rfl (by rfl) (fun st T hT => ?_)
  have hfl : n0 ≤ n0 := Nat.le_refl n0
  have t0 := hT 0 _ rfl
  dsimp only [L21]
  refine w_seq ?_; refine w_reg ?_; refine v_box st (fun b1 h2 n3 st => ?_); refine v_alloc st (fun b4 h5 n6 st => ?_); refine r_nil ?_; refine th_n ?_; refine w_seq ?_; refine w_drawV (Nat.le_trans hfl st.ext.le) (fun dw => ?_); refine y_pure st.d dw (fun hm vw => v_fa pr_nil) ?_; refine y_pure st.d dw (fun hm vw => v_ld1 (vw.bx (st.at (i := 0) rfl)) rfl pr_nil) ?_; refine y_pure st.d dw (fun hm vw => v_fa pr_nil) ?_; refine y_pure st.d dw (fun hm vw => v_ld1 (vw.bx (st.at (i := 0) rfl)) rfl pr_nil) ?_; refine y_pure st.d dw (fun hm vw => v_fa pr_nil) ?_; refine y_pure st.d dw (fun hm vw => v_ldn (vs := [(i64 a0_2), (i64 a0_3)]) (vw.bx (st.at (i := 0) rfl)) rfl pr_nil) ?_; obtain ⟨v7, e8, hF⟩ := bnd_some hF
  refine y_flat st.d dw (fun hm vw => u_call (ct35 N e8 vw.d (vw.sub st) ) (fun n' hn' => pf_nil hn')) (fun n9 hn' dw => ?_); refine y_end st.d dw rfl (fun h10 ex vs => ?_)
  have st := st.ext1 ex
  refine v_build (cs := [(i64 a0_0), (i64 a0_1), (i64 v7.1), (i64 v7.2)]) rfl ?_; refine v_st (cs' := [(i64 a0_0), (i64 a0_1), (i64 v7.1), (i64 v7.2)]) st 1 rfl rfl rfl rfl hfl (fun h11 st => ?_); refine r_nil ?_; refine th_n ?_; refine w_ret ?_; obtain rfl := inj hF
  exact end_s st (Res.c gA (st.at (i := 1) rfl).2.2 (show takeN _ _ = some [(i64 a0_0), (i64 a0_1), (i64 v7.1), (i64 v7.2)] from rfl) Res.nil) rfl rfl
theorem ct63 (N : Nat) {a0_0 : Int} {a0_1 : Int} {a0_2 : Int} {a0_3 : Int} {r : Bool} (hF : sf63 N a0_0 a0_1 a0_2 a0_3 = some r) {fl : Nat} {h0 : Tr HBlk} {n0 : Nat} {F0 : PH} (hd : D h0 n0) (hs : F0.sub h0) : C LW fl 63 [(.agg [(i64 a0_0), (i64 a0_1), (i64 a0_2), (i64 a0_3)])] ⟨h0, n0⟩ (KS (.bool r) n0 h0) := by
  unfold sf63 at hF
  refine in_cT hd hs lw63 rfl rfl (by rfl) (fun st T hT => ?_)
  have hfl : n0 ≤ n0 := Nat.le_refl n0
  have t0 := hT 0 _ rfl
  dsimp only [L63]
  refine w_seq ?_; refine w_reg ?_; refine v_box st (fun b1 h2 n3 st => ?_); refine v_move ?_; refine r_nil ?_; refine th_n ?_; obtain ⟨y19, hA20, hF⟩ := bnd_some hF; refine w_cutD (fun T ds25 h nx => ∃ u, y19 = (.inr u) ∧ ∃ (F25 : PH), ds25 = [] ∧ PH.le F0 F25 ∧ St n0 h0 F0 F25 h nx [.bx b1 [(i64 a0_0), (i64 a0_1), (i64 a0_2), (i64 a0_3)]] ∧ T.get 1 = some (.ptr (some (b1, 0)))) ?_ (fun T ds25 h nx hp => ?_)
  · have hK21 := hF
    have hF := hA20; obtain ⟨y31, hA32, hF⟩ := bnd_some hF; refine w_cutD (fun T ds34 h nx => ∃ (F34 : PH), ds34 = [] ∧ PH.le F0 F34 ∧ St n0 h0 F0 F34 h nx [.bx b1 [(i64 a0_0), (i64 a0_1), (i64 a0_2), (i64 a0_3)]] ∧ T.get 1 = some (.ptr (some (b1, 0))) ∧ T.get 17 = some (.bool y31)) ?_ (fun T ds34 h nx hp => ?_)
    · have hK33 := hF
      have hF := hA32; refine w_reg ?_; refine v_fa ?_; refine v_ld1 (st.at (i := 0) rfl).2.2 rfl ?_; refine v_lss ?_; refine v_move ?_
      rcases Bool.eq_false_or_eq_true (decide (a0_0 < (1 : Int))) with hb35 | hb35
      · have hF := bif_t hb35 hF; refine g_skip hb35 ?_; refine g_skip hb35 ?_; refine g_skip hb35 ?_; refine v_pick hb35 ?_; refine v_move ?_; refine g_skip rfl ?_; refine g_skip rfl ?_; refine g_skip rfl ?_; refine g_skip rfl ?_; refine v_pick rfl ?_; refine r_nil ?_; obtain rfl := inj hF; refine thn ⟨rfl, ?_⟩; dsimp only
        exact ⟨F0, rfl, (PH.le.refl _), st, gA, gA⟩
      · have hF := bif_f hb35 hF; refine g_take hb35 (v_fa ?_); refine g_take hb35 (v_ld1 (st.at (i := 0) rfl).2.2 rfl ?_); refine g_take hb35 (v_gtr ?_); refine v_pick' hb35 ?_; refine v_move ?_
        rcases Bool.eq_false_or_eq_true (decide ((10 : Int) < a0_0)) with hb36 | hb36
        · have hF := bif_t hb36 hF; refine g_skip hb36 ?_; refine g_skip hb36 ?_; refine g_skip hb36 ?_; refine g_skip hb36 ?_; refine v_pick hb36 ?_; refine r_nil ?_; obtain rfl := inj hF; refine thn ⟨rfl, ?_⟩; dsimp only
          exact ⟨F0, rfl, (PH.le.refl _), st, gA, gA⟩
        · have hF := bif_f hb36 hF; refine g_take hb36 (v_fa ?_); refine g_take hb36 (v_ldn (vs := [(i64 a0_2), (i64 a0_3)]) (st.at (i := 0) rfl).2.2 rfl ?_); obtain ⟨v37, e38, hF⟩ := bnd_some hF; refine g_take hb36 (v_call st (ct83 N e38 st.d st.sub ) (fun n39 st => ?_)); refine g_take hb36 (v_not ?_); refine v_pick' hb36 ?_; refine r_nil ?_; obtain rfl := inj hF; refine thn ⟨rfl, ?_⟩; dsimp only
          exact ⟨F0, rfl, (PH.le.refl _), st, gA, gA⟩
    · obtain ⟨F34, rfl, le34, st, t1, t17⟩ := hp; refine v_cond (fun hb40 => ?_) (fun hb40 => ?_)
      · have hF := bif_t hb40 hF; refine w_seq ?_; refine w_reg ?_; refine v_move ?_; refine r_nil ?_; refine th_n ?_; refine w_ret ?_; obtain rfl := inj hF; have hF := hK21; have hF := sel_l hF; refine th_r ?_; obtain rfl := inj hF
        exact end_s st (Res.t gA Res.nil) rfl rfl
      · have hF := bif_f hb40 hF; refine w_skip ?_; obtain rfl := inj hF; refine thn ⟨rfl, _, rfl, ?_⟩; dsimp only
        exact ⟨F34, rfl, le34, st, gA⟩
  · obtain ⟨w24, rfl, F25, rfl, le25, st, t1⟩ := hp; have hF := sel_r hF; refine w_seq ?_; refine w_reg ?_; refine v_fa ?_; refine v_ld1 (st.at (i := 0) rfl).2.2 rfl ?_; refine v_fa ?_; refine v_fa ?_; refine v_ld1 (st.at (i := 0) rfl).2.2 rfl ?_; obtain ⟨q41, hF⟩ := ck_some hF; refine v_mul q41 ?_; refine v_fa ?_; refine v_ld1 (st.at (i := 0) rfl).2.2 rfl ?_; refine v_fa ?_; refine v_fa ?_; refine v_ld1 (st.at (i := 0) rfl).2.2 rfl ?_; obtain ⟨q42, hF⟩ := ck_some hF; refine v_mul q42 ?_; refine v_build (cs := [(i64 (a0_0 * a0_2)), (i64 (a0_0 * a0_3))]) rfl ?_; refine v_alloc st (fun b43 h44 n45 st => ?_); refine v_st (cs' := [(i64 (a0_0 * a0_2)), (i64 (a0_0 * a0_3))]) st 1 rfl rfl rfl rfl hfl (fun h46 st => ?_)
    refine r_nil ?_; refine th_n ?_; refine w_seq ?_; refine w_reg ?_; refine v_fa ?_; refine v_ld1 (st.at (i := 0) rfl).2.2 rfl ?_; refine v_leq ?_; refine v_move ?_
    rcases Bool.eq_false_or_eq_true (decide (a0_1 ≤ (2000 : Int))) with hb47 | hb47
    · have hF := bif_t hb47 hF; refine g_take hb47 (v_ldn (vs := [(i64 (a0_0 * a0_2)), (i64 (a0_0 * a0_3))]) (st.at (i := 1) rfl).2.2 rfl ?_); refine g_take hb47 (v_fa ?_); refine g_take hb47 (v_ld1 (st.at (i := 0) rfl).2.2 rfl ?_); obtain ⟨v48, e49, hF⟩ := bnd_some hF; refine g_take hb47 (v_call st (ct66 N e49 st.d st.sub ) (fun n50 st => ?_)); refine v_pick hb47 ?_; refine v_move ?_; refine r_nil ?_; refine th_n ?_; refine w_ret ?_; obtain rfl := inj hF
      exact end_s st (Res.t gA Res.nil) rfl rfl
    · have hF := bif_f hb47 hF; refine g_skip hb47 ?_; refine g_skip hb47 ?_; refine g_skip hb47 ?_; refine g_skip hb47 ?_; refine v_pick' hb47 ?_; refine v_move ?_; refine r_nil ?_; refine th_n ?_; refine w_ret ?_; obtain rfl := inj hF
      exact end_s st (Res.t gA Res.nil) rfl rfl
theorem ct23 (N : Nat) {a0 : (List (Int × Int × Int × Int))} {r : (List (Int × Int × Int × Int))} (hF : sf23 N a0 = some r) {fl : Nat} {h0 : Tr HBlk} {n0 : Nat} {F0 : PH} (hd : D h0 n0) (hs : F0.sub h0) (hfl : fl ≤ n0) {pa0 : Option (Nat × Nat)} {ca0 : Nat} (ra0 : RowF (rP rI (rP rI (rP rI rI))) 4 F0 pa0 ca0 a0) : C LW fl 23 [(.slice pa0 (a0).length ca0)] ⟨h0, n0⟩ (KR (lvL (rP rI (rP rI (rP rI rI))) 4) F0 h0 n0 r) := by
  unfold sf23 at hF
  refine in_mT hd hs hfl lw23 rfl rfl (by rfl) (fun st T hT => ?_)
  have t0 := hT 0 _ rfl
  dsimp only [L23]
  refine w_seq ?_; refine w_reg ?_; refine v_move ?_; refine r_nil ?_; refine th_n ?_; refine w_seq ?_; refine w_reg ?_; refine v_move ?_; refine r_nil ?_; refine th_n ?_; refine w_seq ?_; refine w_seq ?_; refine w_reg ?_; refine v_move ?_; refine r_nil ?_; refine th_n ?_; refine w_block ?_
  have st := st.nilL 4
  have w1 : LR (rP rI (rP rI (rP rI rI))) 4 F0 ([] : List (Int × Int × Int × Int)) [] := LR.nil
  obtain ⟨y19, hy, hF⟩ := bnd_some hF; refine v_loopD (sf23_L1 N a0) (fun x3 T ds4 h nx => ∃ (F4 : PH) (o5 : Option Nat) (c5 : Nat) (cs5 : List HV), ds4 = [] ∧ PH.le F0 F4 ∧ St n0 h0 F0 F4 h nx [.ls o5 c5 cs5 4] ∧ LR (rP rI (rP rI (rP rI rI))) 4 F4 x3.1 cs5 ∧ T.get 0 = some (.slice pa0 (a0).length ca0) ∧ T.get 3 = some (slv o5 (x3.1).length c5) ∧ T.get 4 = some (i64 x3.2)) (fun y e a σ => e = .exit 0 ∧ a.nt = 32 ∧ ∃ (F20 : PH) (o21 : Option Nat) (c21 : Nat) (cs21 : List HV), a.defers = [] ∧ PH.le F0 F20 ∧ St n0 h0 F0 F20 σ.h σ.nx [.ls o21 c21 cs21 4] ∧ LR (rP rI (rP rI (rP rI rI))) 4 F20 y cs21 ∧ a.tmps.get 3 = some (slv o21 (y).length c21)) (fun x3 T ds4 h nx s hp hF => ?_) N _ y19 _ _ _ _ hy ⟨F0, none, 0, [], rfl, (PH.le.refl _), st, w1, gA, gA, gA⟩ (fun e a σ hne hq => ?_)
  · obtain ⟨F4, o5, c5, cs5, rfl, le4, st, w5, t0, t3, t4⟩ := hp; unfold sf23_L1 at hF; unfold L23w0; refine w_seq ?_; refine w_seq ?_; refine w_reg ?_; refine v_move ?_; refine v_move ?_; refine v_len ?_; refine v_lss ?_; refine r_nil ?_; refine th_n ?_; refine v_cond (fun hb22 => ?_) (fun hb22 => ?_)
    · have hF := bif_t hb22 hF; refine w_skip ?_; refine th_n ?_; refine w_seq ?_; refine w_block ?_; refine w_drawV (Nat.le_trans hfl st.ext.le) (fun dw => ?_); refine y_pure st.d dw (fun hm vw => v_move pr_nil) ?_; refine y_pure st.d dw (fun hm vw => v_move pr_nil) ?_; refine y_pure st.d dw (fun hm vw => v_move pr_nil) ?_; obtain ⟨n23, x23, z23, l23, g23, hF⟩ := ix_some hF; obtain ⟨b23, o23, s23, j23, r23, e23, f23, k23, ⟨_, _, rfl, rfl, ⟨_, _, rfl, rfl, ⟨_, _, rfl, rfl, rfl⟩⟩⟩⟩ := RowF.get ra0 g23; refine y_pure st.d dw (fun hm vw => v_ixp e23 z23 l23 pr_nil) ?_; refine y_pure st.d dw (fun hm vw => v_fa pr_nil) ?_; refine y_pure st.d dw (fun hm vw => v_ld1 (vw.fz st (le4 _ _ f23)) (take_at (j := 0) k23 rfl) pr_nil) ?_
      refine y_pure st.d dw (fun hm vw => v_move pr_nil) ?_; refine y_pure st.d dw (fun hm vw => v_move pr_nil) ?_; obtain ⟨n24, x24, z24, l24, g24, hF⟩ := ix_some hF; obtain ⟨b24, o24, s24, j24, r24, e24, f24, k24, ⟨_, _, rfl, rfl, ⟨_, _, rfl, rfl, ⟨_, _, rfl, rfl, rfl⟩⟩⟩⟩ := RowF.get ra0 g24; refine y_pure st.d dw (fun hm vw => v_ixp e24 z24 l24 pr_nil) ?_; refine y_pure st.d dw (fun hm vw => v_fa pr_nil) ?_; refine y_pure st.d dw (fun hm vw => v_ld1 (vw.fz st (le4 _ _ f24)) (take_at (j := 1) k24 rfl) pr_nil) ?_; refine y_pure st.d dw (fun hm vw => v_move pr_nil) ?_; refine y_pure st.d dw (fun hm vw => v_move pr_nil) ?_; obtain ⟨n25, x25, z25, l25, g25, hF⟩ := ix_some hF; obtain ⟨b25, o25, s25, j25, r25, e25, f25, k25, ⟨_, _, rfl, rfl, ⟨_, _, rfl, rfl, ⟨_, _, rfl, rfl, rfl⟩⟩⟩⟩ := RowF.get ra0 g25
      refine y_pure st.d dw (fun hm vw => v_ixp e25 z25 l25 pr_nil) ?_; refine y_pure st.d dw (fun hm vw => v_fa pr_nil) ?_
      refine y_pure st.d dw (fun hm vw => v_ldn (vs := [(i64 x25.2.2.1), (i64 x25.2.2.2)]) (vw.fz st (le4 _ _ f25)) (take_sub (j := 2) k25 (by decide) rfl) pr_nil) ?_
      obtain ⟨v26, e27, hF⟩ := bnd_some hF; refine y_flat st.d dw (fun hm vw => u_call (ct35 N e27 vw.d (vw.sub st) ) (fun n' hn' => pf_nil hn')) (fun n28 hn' dw => ?_); refine y_end st.d dw rfl (fun h29 ex vs => ?_)
      have st := st.ext1 ex
      refine v_build (cs := [(i64 x23.1), (i64 x24.2.1), (i64 v26.1), (i64 v26.2)]) rfl ?_; refine v_bs (cs := [(i64 x23.1), (i64 x24.2.1), (i64 v26.1), (i64 v26.2)]) st rfl (fun b30 h31 n32 st => ?_); obtain ⟨q33, hF⟩ := ck_some hF
      have w33 : LR (rP rI (rP rI (rP rI rI))) 4 F4 (x3.1 ++ [(x23.1, x24.2.1, v26.1, v26.2)]) (cs5 ++ [(i64 x23.1), (i64 x24.2.1), (i64 v26.1), (i64 v26.2)]) := LR.app w5 (LR.one (⟨[(i64 x23.1)], _, rfl, rfl, ⟨[(i64 x24.2.1)], _, rfl, rfl, ⟨[(i64 v26.1)], _, rfl, rfl, rfl⟩⟩⟩))
      refine v_aps (n := 1) (ox := 0) (m := (x3.1 ++ [(x23.1, x24.2.1, v26.1, v26.2)]).length) (row := [(i64 x23.1), (i64 x24.2.1), (i64 v26.1), (i64 v26.2)]) st 0 rfl w5.1 (st.at (i := 1) rfl).2.2 rfl rfl q33 hfl (by decide) (by decide) (by simp) (fun o33 c33 h33 n33 st => ?_)
      refine v_move ?_; refine r_nil ?_; refine ib_n ?_; refine th_n ?_; refine w_reg ?_; refine v_move ?_; obtain ⟨q34, hF⟩ := ck_some hF; refine v_add q34 ?_; refine v_move ?_; refine r_nil ?_; refine thn ⟨_, (inj hF).symm, rfl, ?_⟩; dsimp only
      exact ⟨F4, o33, c33, (cs5 ++ [(i64 x23.1), (i64 x24.2.1), (i64 v26.1), (i64 v26.2)]), rfl, le4, (st.drop (by first | exact List.Sublist.refl _ | (repeat first | exact List.nil_sublist _ | refine List.Sublist.cons_cons _ ?_ | refine List.Sublist.cons _ ?_))), w33, gA, gA, gA⟩
    · have hF := bif_f hb22 hF; refine w_exit ?_; refine th_e ?_; refine th_e ?_; refine ⟨_, (inj hF).symm, rfl, rfl, ?_⟩; dsimp only
      exact ⟨F4, o5, c5, cs5, rfl, le4, st, w5, gA⟩
  · obtain ⟨N9, T, ds20⟩ := a; obtain ⟨h35, n36⟩ := σ; obtain ⟨rfl, e1, F20, o21, c21, cs21, e2, le20, st, w21, t3⟩ := hq
    dsimp only at e1 e2
    subst e1
    subst e2
    dsimp only at st t3
    refine ib_e ?_; refine th_n ?_; refine w_seq ?_; refine w_reg ?_; refine v_move ?_; refine v_move ?_; refine r_nil ?_; refine th_n ?_; refine w_ret ?_; obtain rfl := inj hF
    obtain ⟨F37, le37, st, rf37⟩ := St.freeze st 0 rfl w21 (by decide)
    have le38 := PH.le.trans le20 le37
    exact end_r st (Res.t gA Res.nil) ⟨_, _, rfl, rf37⟩
theorem ct86 (N : Nat) {a0_0 : Int} {a0_1 : Int} {a0_2 : Int} {a0_3 : Int} {a1_0 : Int} {a1_1 : Int} {a1_2 : Int} {a1_3 : Int} {r : Bool} (hF : sf86 N a0_0 a0_1 a0_2 a0_3 a1_0 a1_1 a1_2 a1_3 = some r) {fl : Nat} {h0 : Tr HBlk} {n0 : Nat} {F0 : PH} (hd : D h0 n0) (hs : F0.sub h0) : C LW fl 86 [(.agg [(i64 a0_0), (i64 a0_1), (i64 a0_2), (i64 a0_3)]), (.agg [(i64 a1_0), (i64 a1_1), (i64 a1_2), (i64 a1_3)])] ⟨h0, n0⟩ (KS (.bool r) n0 h0) := by
  unfold sf86 at hF
  refine in_cT hd hs lw86 rfl rfl (by rfl) (fun st T hT => ?_)
  have hfl : n0 ≤ n0 := Nat.le_refl n0
  have t0 := hT 0 _ rfl
  have t1 := hT 1 _ rfl
  dsimp only [L86]
  refine w_seq ?_; refine w_reg ?_; refine v_box st (fun b1 h2 n3 st => ?_); refine v_box st (fun b4 h5 n6 st => ?_); refine v_move ?_; refine r_nil ?_; refine th_n ?_; refine w_seq ?_; refine w_reg ?_; refine v_fa ?_; refine v_ld1 (st.at (i := 1) rfl).2.2 rfl ?_; refine v_leq ?_; refine v_move ?_
  rcases Bool.eq_false_or_eq_true (decide ((0 : Int) ≤ a1_0)) with hb7 | hb7
  · have hF := bif_t hb7 hF; refine g_take hb7 (v_fa ?_); refine g_take hb7 (v_ld1 (st.at (i := 1) rfl).2.2 rfl ?_); refine g_take hb7 (v_fa ?_); refine g_take hb7 (v_ld1 (st.at (i := 0) rfl).2.2 rfl ?_); refine g_take hb7 (v_lss ?_); refine v_pick hb7 ?_; refine v_move ?_
    rcases Bool.eq_false_or_eq_true (decide (a1_0 < a0_0)) with hb8 | hb8
    · have hF := bif_t hb8 hF; refine g_take hb8 (v_fa ?_); refine g_take hb8 (v_ld1 (st.at (i := 1) rfl).2.2 rfl ?_); refine g_take hb8 (v_fa ?_); refine g_take hb8 (v_ld1 (st.at (i := 1) rfl).2.2 rfl ?_); refine g_take hb8 (v_leq ?_); refine v_pick hb8 ?_; refine v_move ?_
      rcases Bool.eq_false_or_eq_true (decide (a1_0 ≤ a1_1)) with hb9 | hb9
      · have hF := bif_t hb9 hF; refine g_take hb9 (v_fa ?_); refine g_take hb9 (v_ld1 (st.at (i := 1) rfl).2.2 rfl ?_); refine g_take hb9 (v_fa ?_); refine g_take hb9 (v_ld1 (st.at (i := 0) rfl).2.2 rfl ?_); refine g_take hb9 (v_leq ?_); refine v_pick hb9 ?_; refine v_move ?_
        rcases Bool.eq_false_or_eq_true (decide (a1_1 ≤ a0_0)) with hb10 | hb10
        · have hF := bif_t hb10 hF; refine g_take hb10 (v_fa ?_); refine g_take hb10 (v_ldn (vs := [(i64 a1_2), (i64 a1_3)]) (st.at (i := 1) rfl).2.2 rfl ?_); obtain ⟨v11, e12, hF⟩ := bnd_some hF; refine g_take hb10 (v_call st (ct83 N e12 st.d st.sub ) (fun n13 st => ?_)); refine v_pick hb10 ?_; refine v_move ?_; refine r_nil ?_; refine th_n ?_; refine w_ret ?_; obtain rfl := inj hF
          exact end_s st (Res.t gA Res.nil) rfl rfl
        · have hF := bif_f hb10 hF; refine g_skip hb10 ?_; refine g_skip hb10 ?_; refine g_skip hb10 ?_; refine v_pick' hb10 ?_; refine v_move ?_; refine r_nil ?_; refine th_n ?_; refine w_ret ?_; obtain rfl := inj hF
          exact end_s st (Res.t gA Res.nil) rfl rfl
      · have hF := bif_f hb9 hF; refine g_skip hb9 ?_; refine g_skip hb9 ?_; refine g_skip hb9 ?_; refine g_skip hb9 ?_; refine g_skip hb9 ?_; refine v_pick' hb9 ?_; refine v_move ?_; refine g_skip rfl ?_; refine g_skip rfl ?_; refine g_skip rfl ?_; refine v_pick' rfl ?_; refine v_move ?_; refine r_nil ?_; refine th_n ?_; refine w_ret ?_; obtain rfl := inj hF
        exact end_s st (Res.t gA Res.nil) rfl rfl
    · have hF := bif_f hb8 hF; refine g_skip hb8 ?_; refine g_skip hb8 ?_; refine g_skip hb8 ?_; refine g_skip hb8 ?_; refine g_skip hb8 ?_; refine v_pick' hb8 ?_; refine v_move ?_; refine g_skip rfl ?_; refine g_skip rfl ?_; refine g_skip rfl ?_; refine g_skip rfl ?_; refine g_skip rfl ?_; refine v_pick' rfl ?_; refine v_move ?_; refine g_skip rfl ?_; refine g_skip rfl ?_; refine g_skip rfl ?_; refine v_pick' rfl ?_; refine v_move ?_; refine r_nil ?_; refine th_n ?_; refine w_ret ?_; obtain rfl := inj hF
      exact end_s st (Res.t gA Res.nil) rfl rfl
  · have hF := bif_f hb7 hF; refine g_skip hb7 ?_; refine g_skip hb7 ?_; refine g_skip hb7 ?_; refine g_skip hb7 ?_; refine g_skip hb7 ?_; refine v_pick' hb7 ?_; refine v_move ?_; refine g_skip rfl ?_; refine g_skip rfl ?_; refine g_skip rfl ?_; refine g_skip rfl ?_; refine g_skip rfl ?_; refine v_pick' rfl ?_; refine v_move ?_; refine g_skip rfl ?_; refine g_skip rfl ?_; refine g_skip rfl ?_; refine g_skip rfl ?_; refine g_skip rfl ?_; refine v_pick' rfl ?_; refine v_move ?_; refine g_skip rfl ?_; refine g_skip rfl ?_; refine g_skip rfl ?_; refine v_pick' rfl ?_; refine v_move ?_; refine r_nil ?_; refine th_n ?_; refine w_ret ?_; obtain rfl := inj hF
    exact end_s st (Res.t gA Res.nil) rfl rfl
end Go.Hx.V

/- Functions of the program come to that. -/
namespace Go.Hx.V
open Go.Hx
set_option linter.unusedVariables false
set_option maxRecDepth 20000
set_option maxHeartbeats 4000000
attribute [local irreducible] W R C thenH inBlockH Tr.get Tr.set lo ck bnd ix iter
theorem ct48 (N : Nat) {a0_0 : Int} {a0_1 : Int} {a1 : Int} {a2 : Int} {r : Bool} (hF : sf48 N a0_0 a0_1 a1 a2 = some r) {fl : Nat} {h0 : Tr HBlk} {n0 : Nat} {F0 : PH} (hd : D h0 n0) (hs : F0.sub h0) : C LW fl 48 [(.agg [(i64 a0_0), (i64 a0_1)]), (i64 a1), (i64 a2)] ⟨h0, n0⟩ (KS (.bool r) n0 h0) := by
  unfold sf48 at hF
  refine in_cT hd hs lw48 rfl rfl (by rfl) (fun st T hT => ?_)
  have hfl : n0 ≤ n0 := Nat.le_refl n0
  have t0 := hT 0 _ rfl
  have t1 := hT 1 _ rfl
  have t2 := hT 2 _ rfl
  dsimp only [L48]
  refine w_seq ?_; refine w_reg ?_; refine v_box st (fun b1 h2 n3 st => ?_); refine v_move ?_; refine r_nil ?_; refine th_n ?_; refine w_seq ?_; refine w_reg ?_; refine v_fa ?_; refine v_ld1 (st.at (i := 0) rfl).2.2 rfl ?_; refine v_move ?_; refine v_fa ?_; refine v_ld1 (st.at (i := 0) rfl).2.2 rfl ?_; obtain ⟨v4, e5, hF⟩ := bnd_some hF; refine v_call st (ct37 N e5 st.d st.sub ) (fun n6 st => ?_); refine v_move ?_
  rcases Bool.eq_false_or_eq_true v4 with hb7 | hb7
  · have hF := bif_t hb7 hF; refine g_take hb7 (v_fa ?_); refine g_take hb7 (v_ld1 (st.at (i := 0) rfl).2.2 rfl ?_); refine g_take hb7 (v_move ?_); refine g_take hb7 (v_leq ?_); refine v_pick hb7 ?_; refine v_move ?_; refine r_nil ?_; refine th_n ?_; refine w_ret ?_; obtain rfl := inj hF
    exact end_s st (Res.t gA Res.nil) rfl rfl
  · have hF := bif_f hb7 hF; refine g_skip hb7 ?_; refine g_skip hb7 ?_; refine g_skip hb7 ?_; refine g_skip hb7 ?_; refine v_pick' hb7 ?_; refine v_move ?_; refine r_nil ?_; refine th_n ?_; refine w_ret ?_; obtain rfl := inj hF
    exact end_s st (Res.t gA Res.nil) rfl rfl
theorem ct71 (N : Nat) {a0_0 : Int} {a0_1 : Int} {a0_2 : Int} {a0_3 : Int} {a1_0 : Int} {a1_1 : Int} {a1_2 : Int} {a1_3 : Int} {a2 : (List Int)} {r : Bool} (hF : sf71 N a0_0 a0_1 a0_2 a0_3 a1_0 a1_1 a1_2 a1_3 a2 = some r) {fl : Nat} {h0 : Tr HBlk} {n0 : Nat} {F0 : PH} (hd : D h0 n0) (hs : F0.sub h0) {pa2 : Option (Nat × Nat)} {ca2 : Nat} (ra2 : RowF rI 1 F0 pa2 ca2 a2) : C LW fl 71 [(.agg [(i64 a0_0), (i64 a0_1), (i64 a0_2), (i64 a0_3)]), (.agg [(i64 a1_0), (i64 a1_1), (i64 a1_2), (i64 a1_3)]), (.slice pa2 (a2).length ca2)] ⟨h0, n0⟩ (KS (.bool r) n0 h0) := by
  unfold sf71 at hF
  refine in_cT hd hs lw71 rfl rfl (by rfl) (fun st T hT => ?_)
  have hfl : n0 ≤ n0 := Nat.le_refl n0
  have t0 := hT 0 _ rfl
  have t1 := hT 1 _ rfl
  have t2 := hT 2 _ rfl
  dsimp only [L71]
  refine w_seq ?_; refine w_reg ?_; refine v_box st (fun b1 h2 n3 st => ?_); refine v_box st (fun b4 h5 n6 st => ?_); refine v_move ?_; refine r_nil ?_; refine th_n ?_; refine w_seq ?_; refine w_reg ?_; refine v_move ?_; refine v_fa ?_; refine v_ld1 (st.at (i := 1) rfl).2.2 rfl ?_; obtain ⟨v7, e8, hF⟩ := bnd_some hF; refine v_call st (ct38 N e8 st.d st.sub ra2) (fun n9 st => ?_); refine v_move ?_; refine r_nil ?_; refine th_n ?_; refine w_seq ?_; refine w_drawV (Nat.le_trans hfl st.ext.le) (fun dw => ?_); refine y_pure st.d dw (fun hm vw => v_fa pr_nil) ?_; refine y_pure st.d dw (fun hm vw => v_fa pr_nil) ?_; refine y_pure st.d dw (fun hm vw => v_ld1 (vw.bx (st.at (i := 1) rfl)) rfl pr_nil) ?_
  refine y_pure st.d dw (fun hm vw => v_move pr_nil) ?_; refine y_pure st.d dw (fun hm vw => v_fa pr_nil) ?_; refine y_pure st.d dw (fun hm vw => v_ld1 (vw.bx (st.at (i := 1) rfl)) rfl pr_nil) ?_; obtain ⟨v10, e11, hF⟩ := bnd_some hF; refine y_flat st.d dw (fun hm vw => u_call (ct38 N e11 vw.d (vw.sub st) ra2) (fun n' hn' => pf_nil hn')) (fun n12 hn' dw => ?_); refine y_pure st.d dw (fun hm vw => v_move pr_nil) ?_; obtain ⟨q13, hF⟩ := ck_some hF; refine y_pure st.d dw (fun hm vw => v_sub q13 pr_nil) ?_; refine y_pure st.d dw (fun hm vw => v_max pr_nil) ?_; refine y_pure st.d dw (fun hm vw => v_fa pr_nil) ?_; refine y_pure st.d dw (fun hm vw => v_fa pr_nil) ?_; refine y_pure st.d dw (fun hm vw => v_ld1 (vw.bx (st.at (i := 1) rfl)) rfl pr_nil) ?_
  refine y_end st.d dw rfl (fun h14 ex vs => ?_)
  have st := st.ext1 ex
  refine v_move ?_; refine v_move ?_; refine r_nil ?_; refine th_n ?_; refine w_seq ?_; refine w_seq ?_; refine w_reg ?_; refine v_fa ?_; refine v_ld1 (st.at (i := 1) rfl).2.2 rfl ?_; refine v_fa ?_; refine v_ld1 (st.at (i := 0) rfl).2.2 rfl ?_; refine v_lss ?_; refine r_nil ?_; refine th_n ?_; refine v_cond (fun hb15 => ?_) (fun hb15 => ?_)
  · have hF := bif_t hb15 hF; refine w_reg ?_; refine v_move ?_; refine v_move ?_; refine v_fa ?_; refine v_ld1 (st.at (i := 1) rfl).2.2 rfl ?_; obtain ⟨q16, hF⟩ := ck_some hF; refine v_add q16 ?_; obtain ⟨v17, e18, hF⟩ := bnd_some hF; refine v_call st (ct38 N e18 st.d st.sub ra2) (fun n19 st => ?_); refine v_move ?_; obtain ⟨q20, hF⟩ := ck_some hF; refine v_sub q20 ?_; obtain ⟨q21, hF⟩ := ck_some hF; refine v_sub q21 ?_; refine v_min ?_; refine v_move ?_; refine r_nil ?_; refine th_n ?_; refine w_seq ?_; refine w_reg ?_; refine v_move ?_; refine v_move ?_; refine v_leq ?_; refine v_move ?_; refine r_nil ?_; refine th_n ?_; refine w_ret ?_; obtain rfl := inj hF
    exact end_s st (Res.t gA Res.nil) rfl rfl
  · have hF := bif_f hb15 hF; refine w_skip ?_; refine th_n ?_; refine w_seq ?_; refine w_reg ?_; refine v_move ?_; refine v_move ?_; refine v_leq ?_; refine v_move ?_; refine r_nil ?_; refine th_n ?_; refine w_ret ?_; obtain rfl := inj hF
    exact end_s st (Res.t gA Res.nil) rfl rfl
theorem ct53 (N : Nat) {a0_0 : Int} {a0_1 : Int} {a0_2 : Int} {a0_3 : Int} {a1 : (List Int)} {r : (List Int)} (hF : sf53 N a0_0 a0_1 a0_2 a0_3 a1 = some r) {fl : Nat} {h0 : Tr HBlk} {n0 : Nat} {F0 : PH} (hd : D h0 n0) (hs : F0.sub h0) (hfl : fl ≤ n0) {pa1 : Option (Nat × Nat)} {ca1 : Nat} (ra1 : RowF (rK .u16) 1 F0 pa1 ca1 a1) : C LW fl 53 [(.agg [(i64 a0_0), (i64 a0_1), (i64 a0_2), (i64 a0_3)]), (.slice pa1 (a1).length ca1)] ⟨h0, n0⟩ (KR (lvL rI 1) F0 h0 n0 r) := by
  unfold sf53 at hF
  refine in_mT hd hs hfl lw53 rfl rfl (by rfl) (fun st T hT => ?_)
  have t0 := hT 0 _ rfl
  have t1 := hT 1 _ rfl
  dsimp only [L53]
  refine w_seq ?_; refine w_reg ?_; refine v_box st (fun b1 h2 n3 st => ?_); refine v_move ?_; refine r_nil ?_; refine th_n ?_; refine w_seq ?_; refine w_reg ?_; refine v_move ?_; refine r_nil ?_; refine th_n ?_; refine w_seq ?_; refine w_reg ?_; refine v_fa ?_; refine v_ld1 (st.at (i := 0) rfl).2.2 rfl ?_; refine v_move ?_; refine r_nil ?_; refine th_n ?_; refine w_seq ?_; refine w_seq ?_; refine w_reg ?_; refine v_move ?_; refine r_nil ?_; refine th_n ?_; refine w_block ?_
  have st := st.nilL 1
  have w4 : LR rI 1 F0 ([] : List Int) [] := LR.nil
  obtain ⟨y30, hy, hF⟩ := bnd_some hF; refine v_loopD (sf53_L1 N a0_0 a0_2 a0_3 a1) (fun x6 T ds7 h nx => ∃ (F7 : PH) (o8 : Option Nat) (c8 : Nat) (cs8 : List HV), ds7 = [] ∧ PH.le F0 F7 ∧ St n0 h0 F0 F7 h nx [.bx b1 [(i64 a0_0), (i64 a0_1), (i64 a0_2), (i64 a0_3)], .ls o8 c8 cs8 1] ∧ LR rI 1 F7 x6.1 cs8 ∧ T.get 1 = some (.slice pa1 (a1).length ca1) ∧ T.get 2 = some (.ptr (some (b1, 0))) ∧ T.get 5 = some (slv o8 (x6.1).length c8) ∧ T.get 6 = some (i64 x6.2.1) ∧ T.get 7 = some (i64 x6.2.2)) (fun y e a σ => e = .exit 0 ∧ a.nt = 65 ∧ ∃ (F31 : PH) (o32 : Option Nat) (c32 : Nat) (cs32 : List HV), a.defers = [] ∧ PH.le F0 F31 ∧ St n0 h0 F0 F31 σ.h σ.nx [.bx b1 [(i64 a0_0), (i64 a0_1), (i64 a0_2), (i64 a0_3)], .ls o32 c32 cs32 1] ∧ LR rI 1 F31 y cs32 ∧ a.tmps.get 5 = some (slv o32 (y).length c32)) (fun x6 T ds7 h nx s hp hF => ?_) N _ y30 _ _ _ _ hy ⟨F0, none, 0, [], rfl, (PH.le.refl _), st, w4, gA, gA, gA, gA, gA⟩ (fun e a σ hne hq => ?_)
  · obtain ⟨F7, o8, c8, cs8, rfl, le7, st, w8, t1, t2, t5, t6, t7⟩ := hp; unfold sf53_L1 at hF; unfold L53w0; refine w_seq ?_; refine w_seq ?_; refine w_reg ?_; refine v_move ?_; refine v_fa ?_; refine v_ld1 (st.at (i := 0) rfl).2.2 rfl ?_; refine v_lss ?_; refine r_nil ?_; refine th_n ?_; refine v_cond (fun hb33 => ?_) (fun hb33 => ?_)
    · have hF := bif_t hb33 hF; refine w_skip ?_; refine th_n ?_; refine w_seq ?_; refine w_block ?_; refine w_seq ?_; refine w_reg ?_; refine v_fa ?_; refine v_ld1 (st.at (i := 0) rfl).2.2 rfl ?_; obtain ⟨q34, hF⟩ := ck_some hF; refine v_sub q34 ?_; refine v_move ?_; obtain ⟨q35, hF⟩ := ck_some hF; refine v_sub q35 ?_; refine v_move ?_; refine r_nil ?_; refine th_n ?_; refine w_seq ?_; refine w_drawV (Nat.le_trans hfl st.ext.le) (fun dw => ?_); refine y_pure st.d dw (fun hm vw => v_fa pr_nil) ?_; refine y_pure st.d dw (fun hm vw => v_fa pr_nil) ?_; refine y_pure st.d dw (fun hm vw => v_ld1 (vw.bx (st.at (i := 0) rfl)) rfl pr_nil) ?_; refine y_pure st.d dw (fun hm vw => v_move pr_nil) ?_; refine y_pure st.d dw (fun hm vw => v_move pr_nil) ?_
      refine y_pure st.d dw (fun hm vw => v_fa pr_nil) ?_; refine y_pure st.d dw (fun hm vw => v_fa pr_nil) ?_; refine y_pure st.d dw (fun hm vw => v_ld1 (vw.bx (st.at (i := 0) rfl)) rfl pr_nil) ?_; obtain ⟨q36, hF⟩ := ck_some hF; refine y_pure st.d dw (fun hm vw => v_mul q36 pr_nil) ?_; obtain ⟨q37, hF⟩ := ck_some hF; refine y_pure st.d dw (fun hm vw => v_sub q37 pr_nil) ?_; refine y_pure st.d dw (fun hm vw => v_max pr_nil) ?_; refine y_pure st.d dw (fun hm vw => v_fa pr_nil) ?_; refine y_pure st.d dw (fun hm vw => v_fa pr_nil) ?_; refine y_pure st.d dw (fun hm vw => v_ld1 (vw.bx (st.at (i := 0) rfl)) rfl pr_nil) ?_; refine y_pure st.d dw (fun hm vw => v_move pr_nil) ?_; refine y_pure st.d dw (fun hm vw => v_move pr_nil) ?_
      refine y_pure st.d dw (fun hm vw => v_fa pr_nil) ?_; refine y_pure st.d dw (fun hm vw => v_fa pr_nil) ?_; refine y_pure st.d dw (fun hm vw => v_ld1 (vw.bx (st.at (i := 0) rfl)) rfl pr_nil) ?_; obtain ⟨q38, hF⟩ := ck_some hF; refine y_pure st.d dw (fun hm vw => v_mul q38 pr_nil) ?_; obtain ⟨q39, hF⟩ := ck_some hF; refine y_pure st.d dw (fun hm vw => v_sub q39 pr_nil) ?_; refine y_pure st.d dw (fun hm vw => v_min pr_nil) ?_; refine y_end st.d dw rfl (fun h40 ex vs => ?_)
      have st := st.ext1 ex
      refine v_move ?_; refine v_move ?_; refine r_nil ?_; refine th_n ?_; refine w_seq ?_; refine w_reg ?_; refine v_move ?_; refine v_move ?_; refine v_move ?_; obtain ⟨v41, e42, hF⟩ := bnd_some hF; refine v_call st (ct62 N e42 st.d st.sub (RowF.mono le7 ra1)) (fun n43 st => ?_); refine v_move ?_; refine v_move ?_; obtain ⟨q44, hF⟩ := ck_some hF; refine v_sub q44 ?_; obtain ⟨q45, hF⟩ := ck_some hF; refine v_add q45 ?_; obtain ⟨q46, hF⟩ := ck_some hF; refine v_rem q46 ?_; obtain ⟨q47, hF⟩ := ck_some hF; refine v_add q47 ?_; refine v_move ?_; refine r_nil ?_; refine th_n ?_; refine w_seq ?_; refine w_reg ?_; refine v_move ?_; refine v_move ?_; refine v_bs (cs := [(i64 ((max a0_2 (x6.2.1 - (((a0_0 - (1 : Int)) - x6.2.2) * a0_3))) + (Int.tmod v41 (((min a0_3 (x6.2.1 - (((a0_0 - (1 : Int)) - x6.2.2) * a0_2))) - (max a0_2 (x6.2.1 - (((a0_0 - (1 : Int)) - x6.2.2) * a0_3)))) + (1 : Int)))))]) st rfl (fun b48 h49 n50 st => ?_)
      obtain ⟨q51, hF⟩ := ck_some hF
      have w51 : LR rI 1 F7 (x6.1 ++ [((max a0_2 (x6.2.1 - (((a0_0 - (1 : Int)) - x6.2.2) * a0_3))) + (Int.tmod v41 (((min a0_3 (x6.2.1 - (((a0_0 - (1 : Int)) - x6.2.2) * a0_2))) - (max a0_2 (x6.2.1 - (((a0_0 - (1 : Int)) - x6.2.2) * a0_3)))) + (1 : Int))))]) (cs8 ++ [(i64 ((max a0_2 (x6.2.1 - (((a0_0 - (1 : Int)) - x6.2.2) * a0_3))) + (Int.tmod v41 (((min a0_3 (x6.2.1 - (((a0_0 - (1 : Int)) - x6.2.2) * a0_2))) - (max a0_2 (x6.2.1 - (((a0_0 - (1 : Int)) - x6.2.2) * a0_3)))) + (1 : Int)))))]) := LR.app w8 (LR.one (rfl))
      refine v_aps (n := 1) (ox := 0) (m := (x6.1 ++ [((max a0_2 (x6.2.1 - (((a0_0 - (1 : Int)) - x6.2.2) * a0_3))) + (Int.tmod v41 (((min a0_3 (x6.2.1 - (((a0_0 - (1 : Int)) - x6.2.2) * a0_2))) - (max a0_2 (x6.2.1 - (((a0_0 - (1 : Int)) - x6.2.2) * a0_3)))) + (1 : Int))))]).length) (row := [(i64 ((max a0_2 (x6.2.1 - (((a0_0 - (1 : Int)) - x6.2.2) * a0_3))) + (Int.tmod v41 (((min a0_3 (x6.2.1 - (((a0_0 - (1 : Int)) - x6.2.2) * a0_2))) - (max a0_2 (x6.2.1 - (((a0_0 - (1 : Int)) - x6.2.2) * a0_3)))) + (1 : Int)))))]) st 1 rfl w8.1 (st.at (i := 2) rfl).2.2 rfl rfl q51 hfl (by decide) (by decide) (by simp) (fun o51 c51 h51 n51 st => ?_)
      refine v_move ?_; refine r_nil ?_; refine th_n ?_; refine w_reg ?_; refine v_move ?_; refine v_move ?_; obtain ⟨q52, hF⟩ := ck_some hF; refine v_sub q52 ?_; refine v_move ?_; refine r_nil ?_; refine ib_n ?_; refine th_n ?_; refine w_reg ?_; refine v_move ?_; obtain ⟨q53, hF⟩ := ck_some hF; refine v_add q53 ?_; refine v_move ?_; refine r_nil ?_; refine thn ⟨_, (inj hF).symm, rfl, ?_⟩; dsimp only
      exact ⟨F7, o51, c51, (cs8 ++ [(i64 ((max a0_2 (x6.2.1 - (((a0_0 - (1 : Int)) - x6.2.2) * a0_3))) + (Int.tmod v41 (((min a0_3 (x6.2.1 - (((a0_0 - (1 : Int)) - x6.2.2) * a0_2))) - (max a0_2 (x6.2.1 - (((a0_0 - (1 : Int)) - x6.2.2) * a0_3)))) + (1 : Int)))))]), rfl, le7, (st.drop (by first | exact List.Sublist.refl _ | (repeat first | exact List.nil_sublist _ | refine List.Sublist.cons_cons _ ?_ | refine List.Sublist.cons _ ?_))), w51, gA, gA, gA, gA, gA⟩
    · have hF := bif_f hb33 hF; refine w_exit ?_; refine th_e ?_; refine th_e ?_; refine ⟨_, (inj hF).symm, rfl, rfl, ?_⟩; dsimp only
      exact ⟨F7, o8, c8, cs8, rfl, le7, st, w8, gA⟩
  · obtain ⟨N9, T, ds31⟩ := a; obtain ⟨h54, n55⟩ := σ; obtain ⟨rfl, e1, F31, o32, c32, cs32, e2, le31, st, w32, t5⟩ := hq
    dsimp only at e1 e2
    subst e1
    subst e2
    dsimp only at st t5
    refine ib_e ?_; refine th_n ?_; refine w_seq ?_; refine w_reg ?_; refine v_move ?_; refine v_move ?_; refine r_nil ?_; refine th_n ?_; refine w_ret ?_; obtain rfl := inj hF
    obtain ⟨F56, le56, st, rf56⟩ := St.freeze st 1 rfl w32 (by decide)
    have le57 := PH.le.trans le31 le56
    exact end_r st (Res.t gA Res.nil) ⟨_, _, rfl, rf56⟩
end Go.Hx.V

/- Functions of the program come to that. -/
namespace Go.Hx.V
open Go.Hx
set_option linter.unusedVariables false
set_option maxRecDepth 20000
set_option maxHeartbeats 4000000
attribute [local irreducible] W R C thenH inBlockH Tr.get Tr.set lo ck bnd ix iter
theorem ct54 (N : Nat) {a0_0 : Int} {a0_1 : Int} {a0_2 : Int} {a0_3 : Int} {a1 : (List Int)} {a2 : (List Int)} {r : (List (Int × Int × Int × Int))} (hF : sf54 N a0_0 a0_1 a0_2 a0_3 a1 a2 = some r) {fl : Nat} {h0 : Tr HBlk} {n0 : Nat} {F0 : PH} (hd : D h0 n0) (hs : F0.sub h0) (hfl : fl ≤ n0) {pa1 : Option (Nat × Nat)} {ca1 : Nat} {pa2 : Option (Nat × Nat)} {ca2 : Nat} (ra1 : RowF rI 1 F0 pa1 ca1 a1) (ra2 : RowF (rK .u16) 1 F0 pa2 ca2 a2) : C LW fl 54 [(.agg [(i64 a0_0), (i64 a0_1), (i64 a0_2), (i64 a0_3)]), (.slice pa1 (a1).length ca1), (.slice pa2 (a2).length ca2)] ⟨h0, n0⟩ (KR (lvL (rP rI (rP rI (rP rI rI))) 4) F0 h0 n0 r) := by
  unfold sf54 at hF
  refine in_mT hd hs hfl lw54 rfl rfl (by rfl) (fun st T hT => ?_)
  have t0 := hT 0 _ rfl
  have t1 := hT 1 _ rfl
  have t2 := hT 2 _ rfl
  dsimp only [L54]
  refine w_seq ?_; refine w_reg ?_; refine v_box st (fun b1 h2 n3 st => ?_); refine v_move ?_; refine r_nil ?_; refine th_n ?_; refine w_seq ?_; refine w_reg ?_; refine v_move ?_; refine r_nil ?_; refine th_n ?_; refine w_seq ?_; refine w_seq ?_; refine w_reg ?_; refine v_move ?_; refine r_nil ?_; refine th_n ?_; refine w_block ?_
  have st := st.nilL 4
  have w4 : LR (rP rI (rP rI (rP rI rI))) 4 F0 ([] : List (Int × Int × Int × Int)) [] := LR.nil
  obtain ⟨y122, hy, hF⟩ := bnd_some hF; refine v_loopD (sf54_L2 N a0_0 a0_1 a1 a2) (fun x6 T ds7 h nx => ∃ (F7 : PH) (o8 : Option Nat) (c8 : Nat) (cs8 : List HV), ds7 = [] ∧ PH.le F0 F7 ∧ St n0 h0 F0 F7 h nx [.bx b1 [(i64 a0_0), (i64 a0_1), (i64 a0_2), (i64 a0_3)], .ls o8 c8 cs8 4] ∧ LR (rP rI (rP rI (rP rI rI))) 4 F7 x6.1 cs8 ∧ T.get 1 = some (.slice pa1 (a1).length ca1) ∧ T.get 2 = some (.slice pa2 (a2).length ca2) ∧ T.get 3 = some (.ptr (some (b1, 0))) ∧ T.get 7 = some (slv o8 (x6.1).length c8) ∧ T.get 8 = some (i64 x6.2)) (fun y e a σ => e = .exit 0 ∧ a.nt = 83 ∧ ∃ (F123 : PH) (o124 : Option Nat) (c124 : Nat) (cs124 : List HV), a.defers = [] ∧ PH.le F0 F123 ∧ St n0 h0 F0 F123 σ.h σ.nx [.bx b1 [(i64 a0_0), (i64 a0_1), (i64 a0_2), (i64 a0_3)], .ls o124 c124 cs124 4] ∧ LR (rP rI (rP rI (rP rI rI))) 4 F123 y cs124 ∧ a.tmps.get 7 = some (slv o124 (y).length c124)) (fun x6 T ds7 h nx s hp hF => ?_) N _ y122 _ _ _ _ hy ⟨F0, none, 0, [], rfl, (PH.le.refl _), st, w4, gA, gA, gA, gA, gA⟩ (fun e a σ hne hq => ?_)
  · obtain ⟨F7, o8, c8, cs8, rfl, le7, st, w8, t1, t2, t3, t7, t8⟩ := hp; unfold sf54_L2 at hF; unfold L54w1; obtain ⟨y133, hA134, hF⟩ := bnd_some hF; refine w_cutD (fun T ds137 h nx => ∃ u, y133 = (.inl u) ∧ ∃ (F137 : PH), ds137 = [] ∧ PH.le F7 F137 ∧ St n0 h0 F0 F137 h nx [.bx b1 [(i64 a0_0), (i64 a0_1), (i64 a0_2), (i64 a0_3)], .ls o8 c8 cs8 4] ∧ T.get 1 = some (.slice pa1 (a1).length ca1) ∧ T.get 2 = some (.slice pa2 (a2).length ca2) ∧ T.get 3 = some (.ptr (some (b1, 0))) ∧ T.get 7 = some (slv o8 (x6.1).length c8) ∧ T.get 8 = some (i64 x6.2)) ?_ (fun T ds137 h nx hp => ?_)
    · have hK135 := hF
      have hF := hA134; obtain ⟨y141, hA142, hF⟩ := bnd_some hF; refine w_cutD (fun T ds144 h nx => ∃ (F144 : PH), ds144 = [] ∧ PH.le F7 F144 ∧ St n0 h0 F0 F144 h nx [.bx b1 [(i64 a0_0), (i64 a0_1), (i64 a0_2), (i64 a0_3)], .ls o8 c8 cs8 4] ∧ T.get 1 = some (.slice pa1 (a1).length ca1) ∧ T.get 2 = some (.slice pa2 (a2).length ca2) ∧ T.get 3 = some (.ptr (some (b1, 0))) ∧ T.get 7 = some (slv o8 (x6.1).length c8) ∧ T.get 8 = some (i64 x6.2) ∧ T.get 20 = some (.bool y141)) ?_ (fun T ds144 h nx hp => ?_)
      · have hK143 := hF
        have hF := hA142; refine w_reg ?_; refine v_move ?_; refine v_move ?_; refine v_len ?_; refine v_lss ?_; refine v_move ?_
        rcases Bool.eq_false_or_eq_true (decide (x6.2 < ((a2).length : Int))) with hb145 | hb145
        · have hF := bif_t hb145 hF; refine g_take hb145 (v_move ?_); refine g_take hb145 (v_lss ?_); refine v_pick hb145 ?_; refine r_nil ?_; obtain rfl := inj hF; refine thn ⟨rfl, ?_⟩; dsimp only
          exact ⟨F7, rfl, (PH.le.refl _), st, gA, gA, gA, gA, gA, gA⟩
        · have hF := bif_f hb145 hF; refine g_skip hb145 ?_; refine g_skip hb145 ?_; refine v_pick' hb145 ?_; refine r_nil ?_; obtain rfl := inj hF; refine thn ⟨rfl, ?_⟩; dsimp only
          exact ⟨F7, rfl, (PH.le.refl _), st, gA, gA, gA, gA, gA, gA⟩
      · obtain ⟨F144, rfl, le144, st, t1, t2, t3, t7, t8, t20⟩ := hp
        have le146 := PH.le.trans le7 le144
        refine v_cond (fun hb147 => ?_) (fun hb147 => ?_)
        · have hF := bif_t hb147 hF; refine w_skip ?_; obtain rfl := inj hF; refine thn ⟨rfl, _, rfl, ?_⟩; dsimp only
          exact ⟨F144, rfl, le144, st, gA, gA, gA, gA, gA⟩
        · have hF := bif_f hb147 hF; refine w_exit ?_; obtain rfl := inj hF; have hF := hK135; have hF := sel_r hF; refine th_e ?_; refine th_e ?_; refine ⟨_, (inj hF).symm, rfl, rfl, ?_⟩; dsimp only
          exact ⟨F144, o8, c8, cs8, rfl, le146, st, (LR.mono le144 w8), gA⟩
    · obtain ⟨w136, rfl, F137, rfl, le137, st, t1, t2, t3, t7, t8⟩ := hp; have hF := sel_l hF
      have le148 := PH.le.trans le7 le137
      refine w_seq ?_; refine w_block ?_; refine w_seq ?_; refine w_reg ?_; refine v_move ?_; refine v_move ?_; obtain ⟨n149, x149, z149, l149, g149, hF⟩ := ix_some hF; obtain ⟨b149, o149, s149, j149, r149, e149, f149, k149, rfl⟩ := RowF.get ra2 g149; refine v_ixp e149 z149 l149 ?_; refine v_ld1 (st.sub _ _ (le148 _ _ f149)) (take_at (j := 0) k149 rfl) ?_; obtain ⟨q150, hF⟩ := ck_some hF; refine v_conv q150 ?_; refine v_move ?_; refine r_nil ?_; refine th_n ?_; refine w_seq ?_; refine w_reg ?_; refine v_move ?_; refine v_fa ?_; refine v_ld1 (st.at (i := 0) rfl).2.2 rfl ?_; obtain ⟨q151, hF⟩ := ck_some hF; refine v_rem q151 ?_; refine v_move ?_; refine r_nil ?_; refine th_n ?_; refine w_seq ?_
      refine w_drawV (Nat.le_trans hfl st.ext.le) (fun dw => ?_); refine y_pure st.d dw (fun hm vw => v_move pr_nil) ?_; obtain ⟨q152, hF⟩ := ck_some hF; refine y_pure st.d dw (fun hm vw => v_quo q152 pr_nil) ?_; obtain ⟨q153, hF⟩ := ck_some hF; refine y_pure st.d dw (fun hm vw => v_rem q153 pr_nil) ?_; refine y_pure st.d dw (fun hm vw => v_fa pr_nil) ?_; refine y_pure st.d dw (fun hm vw => v_ld1 (vw.bx (st.at (i := 0) rfl)) rfl pr_nil) ?_; refine y_pure st.d dw (fun hm vw => v_move pr_nil) ?_; refine y_pure st.d dw (fun hm vw => v_move pr_nil) ?_; obtain ⟨v154, e155, hF⟩ := bnd_some hF; refine y_flat st.d dw (fun hm vw => u_call (ct38 N e155 vw.d (vw.sub st) (RowF.mono le148 ra1)) (fun n' hn' => pf_nil hn')) (fun n156 hn' dw => ?_)
      refine y_end st.d dw rfl (fun h157 ex vs => ?_)
      have st := st.ext1 ex
      obtain ⟨q158, hF⟩ := ck_some hF; refine v_sub q158 ?_; obtain ⟨q159, hF⟩ := ck_some hF; refine v_add q159 ?_; obtain ⟨q160, hF⟩ := ck_some hF; refine v_mul q160 ?_; obtain ⟨q161, hF⟩ := ck_some hF; refine v_quo q161 ?_; refine v_move ?_; refine r_nil ?_; refine th_n ?_; refine w_seq ?_; refine w_reg ?_; refine v_move ?_; refine v_move ?_; refine r_nil ?_; refine th_n ?_; refine w_seq ?_; refine w_block ?_; obtain ⟨y193, hy, hF⟩ := bnd_some hF; refine v_loopD (sf54_L1 N a0_0 a0_1 a1 x149 v154) (fun x162 T ds163 h nx => ∃ (F163 : PH), ds163 = [] ∧ PH.le F137 F163 ∧ St n0 h0 F0 F163 h nx [.bx b1 [(i64 a0_0), (i64 a0_1), (i64 a0_2), (i64 a0_3)], .ls o8 c8 cs8 4] ∧ T.get 1 = some (.slice pa1 (a1).length ca1) ∧ T.get 2 = some (.slice pa2 (a2).length ca2) ∧ T.get 3 = some (.ptr (some (b1, 0))) ∧ T.get 7 = some (slv o8 (x6.1).length c8) ∧ T.get 8 = some (i64 x6.2) ∧ T.get 9 = some (i64 x149) ∧ T.get 10 = some (i64 (Int.tmod x149 a0_0)) ∧ T.get 11 = some (i64 (Int.tdiv ((Int.tmod (Int.tdiv x149 (16 : Int)) (256 : Int)) * ((a0_1 - v154) + (5 : Int))) (256 : Int))) ∧ T.get 12 = some (i64 x162)) (fun y e a σ => e = .exit 2 ∧ a.nt = 83 ∧ ∃ (F194 : PH), a.defers = [] ∧ PH.le F137 F194 ∧ St n0 h0 F0 F194 σ.h σ.nx [.bx b1 [(i64 a0_0), (i64 a0_1), (i64 a0_2), (i64 a0_3)], .ls o8 c8 cs8 4] ∧ a.tmps.get 1 = some (.slice pa1 (a1).length ca1) ∧ a.tmps.get 2 = some (.slice pa2 (a2).length ca2) ∧ a.tmps.get 3 = some (.ptr (some (b1, 0))) ∧ a.tmps.get 7 = some (slv o8 (x6.1).length c8) ∧ a.tmps.get 8 = some (i64 x6.2) ∧ a.tmps.get 9 = some (i64 x149) ∧ a.tmps.get 10 = some (i64 (Int.tmod x149 a0_0)) ∧ a.tmps.get 11 = some (i64 (Int.tdiv ((Int.tmod (Int.tdiv x149 (16 : Int)) (256 : Int)) * ((a0_1 - v154) + (5 : Int))) (256 : Int))) ∧ a.tmps.get 12 = some (i64 y)) (fun x162 T ds163 h nx s hp hF => ?_) N _ y193 _ _ _ _ hy ⟨F137, rfl, (PH.le.refl _), st, gA, gA, gA, gA, gA, gA, gA, gA, gA⟩ (fun e a σ hne hq => ?_)
      · obtain ⟨F163, rfl, le163, st, t1, t2, t3, t7, t8, t9, t10, t11, t12⟩ := hp
        have le164 := PH.le.trans le148 le163
        have le165 := PH.le.trans le137 le163
        unfold sf54_L1 at hF; unfold L54w0; refine w_seq ?_; obtain ⟨y204, hA205, hF⟩ := bnd_some hF; refine w_cutD (fun T ds207 h nx => ∃ (F207 : PH), ds207 = [] ∧ PH.le F163 F207 ∧ St n0 h0 F0 F207 h nx [.bx b1 [(i64 a0_0), (i64 a0_1), (i64 a0_2), (i64 a0_3)], .ls o8 c8 cs8 4] ∧ T.get 1 = some (.slice pa1 (a1).length ca1) ∧ T.get 2 = some (.slice pa2 (a2).length ca2) ∧ T.get 3 = some (.ptr (some (b1, 0))) ∧ T.get 7 = some (slv o8 (x6.1).length c8) ∧ T.get 8 = some (i64 x6.2) ∧ T.get 9 = some (i64 x149) ∧ T.get 10 = some (i64 (Int.tmod x149 a0_0)) ∧ T.get 11 = some (i64 (Int.tdiv ((Int.tmod (Int.tdiv x149 (16 : Int)) (256 : Int)) * ((a0_1 - v154) + (5 : Int))) (256 : Int))) ∧ T.get 12 = some (i64 x162) ∧ T.get 60 = some (.bool y204)) ?_ (fun T ds207 h nx hp => ?_)
        · have hK206 := hF
          have hF := hA205; refine w_reg ?_; refine v_move ?_; refine v_fa ?_; refine v_ld1 (st.at (i := 0) rfl).2.2 rfl ?_; refine v_lss ?_; refine v_move ?_
          rcases Bool.eq_false_or_eq_true (decide (x162 < a0_0)) with hb208 | hb208
          · have hF := bif_t hb208 hF; refine g_take hb208 (v_move ?_); refine g_take hb208 (v_move ?_); obtain ⟨q209, hF⟩ := ck_some hF; refine g_take hb208 (v_add q209 ?_); obtain ⟨v210, e211, hF⟩ := bnd_some hF; refine g_take hb208 (v_call st (ct38 N e211 st.d st.sub (RowF.mono le164 ra1)) (fun n212 st => ?_)); refine g_take hb208 (v_move ?_); refine g_take hb208 (v_move ?_); obtain ⟨v213, e214, hF⟩ := bnd_some hF; refine g_take hb208 (v_call st (ct38 N e214 st.d st.sub (RowF.mono le164 ra1)) (fun n215 st => ?_)); obtain ⟨q216, hF⟩ := ck_some hF; refine g_take hb208 (v_sub q216 ?_); refine g_take hb208 (v_move ?_); refine g_take hb208 (v_leq ?_); refine v_pick hb208 ?_; refine r_nil ?_; obtain rfl := inj hF
            refine thn ⟨rfl, ?_⟩; dsimp only
            exact ⟨F163, rfl, (PH.le.refl _), st, gA, gA, gA, gA, gA, gA, gA, gA, gA, gA⟩
          · have hF := bif_f hb208 hF; refine g_skip hb208 ?_; refine g_skip hb208 ?_; refine g_skip hb208 ?_; refine g_skip hb208 ?_; refine g_skip hb208 ?_; refine g_skip hb208 ?_; refine g_skip hb208 ?_; refine g_skip hb208 ?_; refine g_skip hb208 ?_; refine g_skip hb208 ?_; refine v_pick' hb208 ?_; refine r_nil ?_; obtain rfl := inj hF; refine thn ⟨rfl, ?_⟩; dsimp only
            exact ⟨F163, rfl, (PH.le.refl _), st, gA, gA, gA, gA, gA, gA, gA, gA, gA, gA⟩
        · obtain ⟨F207, rfl, le207, st, t1, t2, t3, t7, t8, t9, t10, t11, t12, t60⟩ := hp
          have le217 := PH.le.trans le164 le207
          have le218 := PH.le.trans le165 le207
          have le219 := PH.le.trans le163 le207
          refine v_cond (fun hb220 => ?_) (fun hb220 => ?_)
          · have hF := bif_t hb220 hF; refine w_skip ?_; refine th_n ?_; refine w_block ?_; refine w_reg ?_; refine v_move ?_; obtain ⟨q221, hF⟩ := ck_some hF; refine v_add q221 ?_; refine v_move ?_; refine r_nil ?_; refine ib_n ?_; refine thn ⟨_, (inj hF).symm, rfl, ?_⟩; dsimp only
            exact ⟨F207, rfl, le219, st, gA, gA, gA, gA, gA, gA, gA, gA, gA⟩
          · have hF := bif_f hb220 hF; refine w_exit ?_; refine th_e ?_; refine th_e ?_; refine ⟨_, (inj hF).symm, rfl, rfl, ?_⟩; dsimp only
            exact ⟨F207, rfl, le219, st, gA, gA, gA, gA, gA, gA, gA, gA, gA⟩
      · obtain ⟨N9, T, ds194⟩ := a; obtain ⟨h224, n225⟩ := σ; obtain ⟨rfl, e1, F194, e2, le194, st, t1, t2, t3, t7, t8, t9, t10, t11, t12⟩ := hq
        dsimp only at e1 e2
        subst e1
        subst e2
        dsimp only at st t1 t2 t3 t7 t8 t9 t10 t11 t12
        have le222 := PH.le.trans le148 le194
        have le223 := PH.le.trans le137 le194
        refine ib_e ?_; refine th_n ?_; refine w_reg ?_; refine v_move ?_; refine v_move ?_; refine v_move ?_; refine v_move ?_; refine v_move ?_; obtain ⟨q226, hF⟩ := ck_some hF; refine v_quo q226 ?_; obtain ⟨q227, hF⟩ := ck_some hF; refine v_rem q227 ?_; obtain ⟨q228, hF⟩ := ck_some hF; refine v_sub q228 ?_; refine v_max ?_; refine v_move ?_; refine v_move ?_; obtain ⟨q229, hF⟩ := ck_some hF; refine v_quo q229 ?_; obtain ⟨q230, hF⟩ := ck_some hF; refine v_rem q230 ?_; obtain ⟨q231, hF⟩ := ck_some hF; refine v_add q231 ?_; refine v_min ?_; refine v_build (cs := [(i64 (max (0 : Int) ((Int.tdiv ((Int.tmod (Int.tdiv x149 (16 : Int)) (256 : Int)) * ((a0_1 - v154) + (5 : Int))) (256 : Int)) - (Int.tmod (Int.tdiv x149 (4096 : Int)) (4 : Int))))), (i64 (min (2000 : Int) ((Int.tdiv ((Int.tmod (Int.tdiv x149 (16 : Int)) (256 : Int)) * ((a0_1 - v154) + (5 : Int))) (256 : Int)) + (Int.tmod (Int.tdiv x149 (8192 : Int)) (3 : Int)))))]) rfl ?_
        refine v_build (cs := [(i64 (Int.tmod x149 a0_0)), (i64 y193), (i64 (max (0 : Int) ((Int.tdiv ((Int.tmod (Int.tdiv x149 (16 : Int)) (256 : Int)) * ((a0_1 - v154) + (5 : Int))) (256 : Int)) - (Int.tmod (Int.tdiv x149 (4096 : Int)) (4 : Int))))), (i64 (min (2000 : Int) ((Int.tdiv ((Int.tmod (Int.tdiv x149 (16 : Int)) (256 : Int)) * ((a0_1 - v154) + (5 : Int))) (256 : Int)) + (Int.tmod (Int.tdiv x149 (8192 : Int)) (3 : Int)))))]) rfl ?_; refine v_bs (cs := [(i64 (Int.tmod x149 a0_0)), (i64 y193), (i64 (max (0 : Int) ((Int.tdiv ((Int.tmod (Int.tdiv x149 (16 : Int)) (256 : Int)) * ((a0_1 - v154) + (5 : Int))) (256 : Int)) - (Int.tmod (Int.tdiv x149 (4096 : Int)) (4 : Int))))), (i64 (min (2000 : Int) ((Int.tdiv ((Int.tmod (Int.tdiv x149 (16 : Int)) (256 : Int)) * ((a0_1 - v154) + (5 : Int))) (256 : Int)) + (Int.tmod (Int.tdiv x149 (8192 : Int)) (3 : Int)))))]) st rfl (fun b232 h233 n234 st => ?_)
        obtain ⟨q235, hF⟩ := ck_some hF
        have w235 : LR (rP rI (rP rI (rP rI rI))) 4 F194 (x6.1 ++ [((Int.tmod x149 a0_0), y193, (max (0 : Int) ((Int.tdiv ((Int.tmod (Int.tdiv x149 (16 : Int)) (256 : Int)) * ((a0_1 - v154) + (5 : Int))) (256 : Int)) - (Int.tmod (Int.tdiv x149 (4096 : Int)) (4 : Int)))), (min (2000 : Int) ((Int.tdiv ((Int.tmod (Int.tdiv x149 (16 : Int)) (256 : Int)) * ((a0_1 - v154) + (5 : Int))) (256 : Int)) + (Int.tmod (Int.tdiv x149 (8192 : Int)) (3 : Int)))))]) (cs8 ++ [(i64 (Int.tmod x149 a0_0)), (i64 y193), (i64 (max (0 : Int) ((Int.tdiv ((Int.tmod (Int.tdiv x149 (16 : Int)) (256 : Int)) * ((a0_1 - v154) + (5 : Int))) (256 : Int)) - (Int.tmod (Int.tdiv x149 (4096 : Int)) (4 : Int))))), (i64 (min (2000 : Int) ((Int.tdiv ((Int.tmod (Int.tdiv x149 (16 : Int)) (256 : Int)) * ((a0_1 - v154) + (5 : Int))) (256 : Int)) + (Int.tmod (Int.tdiv x149 (8192 : Int)) (3 : Int)))))]) := LR.app (LR.mono le223 w8) (LR.one (⟨[(i64 (Int.tmod x149 a0_0))], _, rfl, rfl, ⟨[(i64 y193)], _, rfl, rfl, ⟨[(i64 (max (0 : Int) ((Int.tdiv ((Int.tmod (Int.tdiv x149 (16 : Int)) (256 : Int)) * ((a0_1 - v154) + (5 : Int))) (256 : Int)) - (Int.tmod (Int.tdiv x149 (4096 : Int)) (4 : Int)))))], _, rfl, rfl, rfl⟩⟩⟩))
        refine v_aps (n := 1) (ox := 0) (m := (x6.1 ++ [((Int.tmod x149 a0_0), y193, (max (0 : Int) ((Int.tdiv ((Int.tmod (Int.tdiv x149 (16 : Int)) (256 : Int)) * ((a0_1 - v154) + (5 : Int))) (256 : Int)) - (Int.tmod (Int.tdiv x149 (4096 : Int)) (4 : Int)))), (min (2000 : Int) ((Int.tdiv ((Int.tmod (Int.tdiv x149 (16 : Int)) (256 : Int)) * ((a0_1 - v154) + (5 : Int))) (256 : Int)) + (Int.tmod (Int.tdiv x149 (8192 : Int)) (3 : Int)))))]).length) (row := [(i64 (Int.tmod x149 a0_0)), (i64 y193), (i64 (max (0 : Int) ((Int.tdiv ((Int.tmod (Int.tdiv x149 (16 : Int)) (256 : Int)) * ((a0_1 - v154) + (5 : Int))) (256 : Int)) - (Int.tmod (Int.tdiv x149 (4096 : Int)) (4 : Int))))), (i64 (min (2000 : Int) ((Int.tdiv ((Int.tmod (Int.tdiv x149 (16 : Int)) (256 : Int)) * ((a0_1 - v154) + (5 : Int))) (256 : Int)) + (Int.tmod (Int.tdiv x149 (8192 : Int)) (3 : Int)))))]) st 1 rfl (LR.mono le223 w8).1 (st.at (i := 2) rfl).2.2 rfl rfl q235 hfl (by decide) (by decide) (by simp) (fun o235 c235 h235 n235 st => ?_)
        refine v_move ?_; refine r_nil ?_; refine ib_n ?_; refine th_n ?_; refine w_reg ?_; refine v_move ?_; obtain ⟨q236, hF⟩ := ck_some hF; refine v_add q236 ?_; refine v_move ?_; refine r_nil ?_; refine thn ⟨_, (inj hF).symm, rfl, ?_⟩; dsimp only
        exact ⟨F194, o235, c235, (cs8 ++ [(i64 (Int.tmod x149 a0_0)), (i64 y193), (i64 (max (0 : Int) ((Int.tdiv ((Int.tmod (Int.tdiv x149 (16 : Int)) (256 : Int)) * ((a0_1 - v154) + (5 : Int))) (256 : Int)) - (Int.tmod (Int.tdiv x149 (4096 : Int)) (4 : Int))))), (i64 (min (2000 : Int) ((Int.tdiv ((Int.tmod (Int.tdiv x149 (16 : Int)) (256 : Int)) * ((a0_1 - v154) + (5 : Int))) (256 : Int)) + (Int.tmod (Int.tdiv x149 (8192 : Int)) (3 : Int)))))]), rfl, le222, (st.drop (by first | exact List.Sublist.refl _ | (repeat first | exact List.nil_sublist _ | refine List.Sublist.cons_cons _ ?_ | refine List.Sublist.cons _ ?_))), w235, gA, gA, gA, gA, gA⟩
  · obtain ⟨N9, T, ds123⟩ := a; obtain ⟨h238, n239⟩ := σ; obtain ⟨rfl, e1, F123, o124, c124, cs124, e2, le123, st, w124, t7⟩ := hq
    dsimp only at e1 e2
    subst e1
    subst e2
    dsimp only at st t7
    refine ib_e ?_; refine th_n ?_; refine w_seq ?_; refine w_reg ?_; refine v_move ?_; refine v_move ?_; refine r_nil ?_; refine th_n ?_; refine w_ret ?_; obtain rfl := inj hF
    obtain ⟨F240, le240, st, rf240⟩ := St.freeze st 1 rfl w124 (by decide)
    have le241 := PH.le.trans le123 le240
    exact end_r st (Res.t gA Res.nil) ⟨_, _, rfl, rf240⟩
end Go.Hx.V

