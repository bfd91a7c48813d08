/- The functions of the program, as the plain machine runs them. -/
import Derived.Test.YtpifhppigeblaaaH04
import Derived.ProofKit
import Derived.Test.YtpifhppigeblaaaH02
import Derived.Test.YtpifhppigeblaaaH03
set_option linter.all false
/- The functions of the program, as the plain machine runs them. -/
namespace Go.Hx
set_option maxRecDepth 100000
noncomputable def L83r0 : List LOper := [(og 22 (.bin .leq (.t 20) (.t 21)) 18 .true), (o 23 (.pick (.t 18) (.t 22) (.c (.bool .false)))), (o 6 (.move (.t 23)))]
noncomputable def L83r1 : List LOper := ((o 17 (.pick (.t 11) (.t 16) (.c (.bool .false)))) :: (o 18 (.move (.t 17))) :: (og 19 (.fieldAddr 1 (.t 3)) 18 .true) :: (og 20 (.load .false 1 (.t 19)) 18 .true) :: (og 21 (.move (.t 2)) 18 .true) :: L83r0)
noncomputable def L83r2 : List LOper := ((og 12 (.fieldAddr 0 (.t 3)) 11 .true) :: (og 13 (.load .false 1 (.t 12)) 11 .true) :: (og 14 (.fieldAddr 1 (.t 3)) 11 .true) :: (og 15 (.load .false 1 (.t 14)) 11 .true) :: (og 16 (.bin .leq (.t 13) (.t 15)) 11 .true) :: L83r1)
noncomputable def L83s0 : LCode := (.seq (.reg ((o 7 (.move (.t 1))) :: (o 8 (.fieldAddr 0 (.t 3))) :: (o 9 (.load .false 1 (.t 8))) :: (o 10 (.bin .leq (.t 7) (.t 9))) :: (o 11 (.move (.t 10))) :: L83r2)) .ret)
noncomputable def L83 : LFunc := ⟨24, (.seq (.reg [(o 3 (.box (.t 0))), (o 6 (.move (.c (.bool .false))))]) L83s0), [(.t 6)], .false, .none, viaOff Go.Proofs.Try.prog⟩
theorem lp83 : LP 83 = some L83 := by kernel_rfl
noncomputable def L91r0 : List LOper := [(o 10 (.indexAddrA 13 1 (.t 9) (.t 6))), (o 11 (.load .false 1 (.t 10))), (o 4 (.move (.t 11)))]
noncomputable def L91s0 : LCode := (.seq (.reg ((o 5 (.move (.t 0))) :: (o 6 (.move (.t 1))) :: (o 7 (.nilCheck (.t 5))) :: (o 8 (.fieldAddr 1 (.t 7))) :: (o 9 (.indexAddrA 13 13 (.t 8) (.c (.int .i64 0)))) :: L91r0)) .ret)
noncomputable def L91 : LFunc := ⟨12, (.seq (.reg [(o 4 (.move (.c (.int .i64 0))))]) L91s0), [(.t 4)], .false, .none, viaOff Go.Proofs.Try.prog⟩
theorem lp91 : LP 91 = some L91 := by kernel_rfl
noncomputable def L103r0 : List LOper := [(o 14 (.fieldAddr 1 (.t 13))), (o 15 (.indexAddrA 13 13 (.t 14) (.t 11))), (o 16 (.indexAddrA 13 1 (.t 15) (.t 12))), (o 17 (.load .false 1 (.t 16))), (o 18 (.bin .add (.t 9) (.t 17))), (o 19 (.bin .geq (.t 18) (.c (.int .i64 0)))), (o 8 (.move (.t 19)))]
noncomputable def L103s0 : LCode := (.seq (.reg ((o 9 (.move (.t 3))) :: (o 10 (.move (.t 0))) :: (o 11 (.move (.t 2))) :: (o 12 (.move (.t 1))) :: (o 13 (.nilCheck (.t 10))) :: L103r0)) .ret)
noncomputable def L103 : LFunc := ⟨20, (.seq (.reg [(o 8 (.move (.c (.bool .false))))]) L103s0), [(.t 8)], .false, .none, viaOff Go.Proofs.Try.prog⟩
theorem lp103 : LP 103 = some L103 := by kernel_rfl
end Go.Hx

/- The functions of the program, of which one is known: the closed examples tell true. -/
namespace Go.Hx
noncomputable section
def spWakes : List HV → HS → Option (HV × HS)
  | [], σ => some (.bool true, σ)
  | _, _ => none
def LW : Nat → Option LFunc := withS LP 19 spWakes
theorem withS_of {lp : Nat → Option LFunc} {f : Nat} {g : List HV → HS → Option (HV × HS)} {k : Nat} {lf : LFunc} (hk : Nat.beq k f = false) (h : lp k = some lf) : withS lp f g k = some lf := by
  unfold withS
  rw [hk]
  exact h
theorem lw_of {k : Nat} {lf : LFunc} (hk : Nat.beq k 19 = false) (h : LP k = some lf) : LW k = some lf := withS_of hk h
theorem lw16 : LW 16 = some L16 := lw_of rfl lp16
theorem lw20 : LW 20 = some L20 := lw_of rfl lp20
theorem lw21 : LW 21 = some L21 := lw_of rfl lp21
theorem lw25 : LW 25 = some L25 := lw_of rfl lp25
theorem lw29 : LW 29 = some L29 := lw_of rfl lp29
theorem lw35 : LW 35 = some L35 := lw_of rfl lp35
theorem lw37 : LW 37 = some L37 := lw_of rfl lp37
theorem lw48 : LW 48 = some L48 := lw_of rfl lp48
theorem lw51 : LW 51 = some L51 := lw_of rfl lp51
theorem lw63 : LW 63 = some L63 := lw_of rfl lp63
theorem lw64 : LW 64 = some L64 := lw_of rfl lp64
theorem lw66 : LW 66 = some L66 := lw_of rfl lp66
theorem lw68 : LW 68 = some L68 := lw_of rfl lp68
theorem lw72 : LW 72 = some L72 := lw_of rfl lp72
theorem lw73 : LW 73 = some L73 := lw_of rfl lp73
theorem lw77 : LW 77 = some L77 := lw_of rfl lp77
theorem lw83 : LW 83 = some L83 := lw_of rfl lp83
theorem lw86 : LW 86 = some L86 := lw_of rfl lp86
theorem lw89 : LW 89 = some L89 := lw_of rfl lp89
theorem lw90 : LW 90 = some L90 := lw_of rfl lp90
theorem lw91 : LW 91 = some L91 := lw_of rfl lp91
theorem lw96 : LW 96 = some L96 := lw_of rfl lp96
theorem lw97 : LW 97 = some L97 := lw_of rfl lp97
theorem lw100 : LW 100 = some L100 := lw_of rfl lp100
theorem lw103 : LW 103 = some L103 := lw_of rfl lp103
theorem V.ct_wakes {fl : Nat} {h : Tr HBlk} {nx : Nat} : C LW fl 19 [] ⟨h, nx⟩ (V.KS (.bool true) nx h) :=
  c_spec (lf := ⟨0, .bad, [], false, some spWakes, fun _ _ => none⟩) rfl rfl rfl (Nat.le_refl _) ⟨rfl, nx, Nat.le_refl _, rfl⟩
end
end Go.Hx

/- What is known of the temporaries, and no more. -/
namespace Go.Hx.V
open Go.Hx
variable {lp : Nat → Option LFunc} {fl nt : Nat} {rd : Option Nat} {Q : HExit → HAct → HS → Prop} {T : Tr HV} {ds : List Nat} {σ : HS} {c : LCode}
end Go.Hx.V

/- Arrays at the end of what a box holds, as functions of places. -/
namespace Go.Hx.V
open Go.Hx
def eI (k : IntKind) (n : Nat) (f : Nat → Int) : List HV := (List.range n).map fun i => .int k (f i)
def eB (n : Nat) (f : Nat → Bool) : List HV := (List.range n).map fun i => .bool (f i)
def ups {α : Type} (f : Nat → α) (j : Nat) (v : α) : Nat → α := fun i => if i = j then v else f i
section
variable {k : IntKind} {n : Nat} {f : Nat → Int} {g : Nat → Bool}
theorem eI_len : (eI k n f).length = n := by unfold eI; rw [List.length_map, List.length_range]
theorem eB_len : (eB n g).length = n := by unfold eB; rw [List.length_map, List.length_range]
theorem eI_one : (eI k n f).all HV.one = true := by
  unfold eI; rw [List.all_map, List.all_eq_true]; intro i _; rfl
theorem eB_one : (eB n g).all HV.one = true := by
  unfold eB; rw [List.all_map, List.all_eq_true]; intro i _; rfl
theorem eI_get {i : Nat} (h : i < n) : (eI k n f)[i]? = some (.int k (f i)) := by
  unfold eI; rw [List.getElem?_map, List.getElem?_range h]; rfl
theorem ovw1 : ∀ (l : List HV) (i : Nat) (v : HV), i < l.length → overwrite l i [v] = some (l.set i v)
  | [], i, v, h => by simp at h
  | x :: l, 0, v, h => by cases l <;> rfl
  | x :: l, i + 1, v, h => by
    show (overwrite l i [v]).map _ = _
    rw [ovw1 l i v (by simpa using h)]; rfl
theorem eI_set {i : Nat} {v : Int} : (eI k n f).set i (.int k v) = eI k n (ups f i v) := by
  apply List.ext_getElem?
  intro j
  rw [List.getElem?_set]
  by_cases hj : j < n
  · rw [eI_get (f := ups f i v) hj, eI_len]
    by_cases e : i = j
    · subst e; rw [if_pos rfl, if_pos hj]; unfold ups; rw [if_pos rfl]
    · rw [if_neg e, eI_get hj]; unfold ups; rw [if_neg (Ne.symm e)]
  · rw [List.getElem?_eq_none (l := eI k n (ups f i v)) (by rw [eI_len]; omega), List.getElem?_eq_none (l := eI k n f) (by rw [eI_len]; omega), eI_len]
    by_cases e : i = j
    · subst e; rw [if_pos rfl, if_neg hj]
    · rw [if_neg e]
theorem ar_get (P : List HV) {p off ix : Nat} (hp : P.length = p) (ho : off = p + ix) (hl : ix < n) : (P ++ eI k n f)[off]? = some (.int k (f ix)) := by
  rw [List.getElem?_append_right (by omega), show off - P.length = ix by omega]; exact eI_get hl
theorem ar_set (P : List HV) {p off ix : Nat} {v : Int} (hp : P.length = p) (ho : off = p + ix) (hl : ix < n) : overwrite (P ++ eI k n f) off [.int k v] = some (P ++ eI k n (ups f ix v)) := by
  rw [ovw1 _ _ _ (by rw [List.length_append, eI_len]; omega), List.set_append_right _ _ (by omega), show off - P.length = ix by omega, eI_set]
end
theorem tk_tail (P1 P2 : List HV) {E : List HV} {m off n : Nat} (h1 : P1.length = off) (hE : E.length = m) (h2 : P2.length + m = n) : takeN n ((P1 ++ (P2 ++ E)).drop off) = some (P2 ++ E) := by
  rw [← h1, List.drop_left, ← h2, ← hE, ← List.length_append]; exact takeN_all _
theorem ov_full : ∀ (q r : List HV), q.length = r.length → overwrite q 0 r = some r
  | [], [], _ => rfl
  | x :: q, [], h => by simp at h
  | [], y :: r, h => by simp at h
  | x :: q, y :: r, h => by
    show (overwrite q 0 r).map _ = _
    rw [ov_full q r (by simpa using h)]; rfl
theorem ov_tail : ∀ (P : List HV) {q r : List HV} {off : Nat}, P.length = off → q.length = r.length → overwrite (P ++ q) off r = some (P ++ r)
  | [], q, r, off, h, e => by rw [← h]; exact ov_full q r e
  | x :: P, q, [], off, h, e => by
    have : q = [] := List.length_eq_zero_iff.1 (by simpa using e)
    subst this
    cases off <;> rfl
  | x :: P, q, y :: r, off, h, e => by
    subst h
    show (overwrite (P ++ q) P.length (y :: r)).map _ = _
    rw [ov_tail P rfl e]; rfl
theorem len_tail (P : List HV) {E : List HV} {m n : Nat} (hE : E.length = m) (h : P.length + m = n) : (P ++ E).length = n := by rw [List.length_append, hE, h]
theorem one_tail (P : List HV) {E : List HV} (h : P.all HV.one = true) (hE : E.all HV.one = true) : (P ++ E).all HV.one = true := by rw [List.all_append, h, hE]; rfl
section
variable {n0 nx : Nat} {h0 h : Tr HBlk} {F0 F : PH} {L : List LE}
theorem St.cells (st : St n0 h0 F0 F h nx L) (i : Nat) {b : Nat} {cs : List HV} (hi : L[i]? = some (.bx b cs)) (cs' : List HV) (he : cs = cs') : St n0 h0 F0 F h nx (L.set i (.bx b cs')) := by
  subst he
  have : L.set i (.bx b cs) = L := by
    apply List.ext_getElem?
    intro j
    rw [List.getElem?_set]
    by_cases e : i = j
    · subst e
      rw [if_pos rfl, hi]
      split
      · rfl
      · rename_i hn; rw [List.getElem?_eq_none (by omega)] at hi; cases hi
    · rw [if_neg e]
  rw [this]; exact st
end
def rF (k : IntKind) (n : Nat) : Rel (Nat → Int) := fun _ f r => r = eI k n f
def rFB (n : Nat) : Rel (Nat → Bool) := fun _ f r => r = eB n f
instance {k : IntKind} {n : Nat} : OkR (rF k n) n := ⟨fun _ h => h, fun h => by rw [h]; exact eI_len, fun h => by rw [h]; exact eI_one⟩
instance {n : Nat} : OkR (rFB n) n := ⟨fun _ h => h, fun h => by rw [h]; exact eB_len, fun h => by rw [h]; exact eB_one⟩
end Go.Hx.V

/- Maps, as functions from keys. -/
namespace Go.Hx.V
set_option linter.unusedVariables false
open Go.Hx
def KD {κ : Type} [DecidableEq κ] (D : ED) (en : κ → HV) : Prop := ∀ a b : κ, eqH D (en a) (en b) = some (decide (a = b))
def KRw {κ : Type} [DecidableEq κ] (ks : List Leaf) (en : κ → List HV) : Prop := ∀ a b : κ, eqRow ks (en a) (en b) = some (decide (a = b))
theorem KD.int {k : IntKind} : KD (.cell (.i k)) (fun x : Int => .int k x) := fun a b => by
  show (if k = k ∧ k = k then some (a == b) else none) = _
  rw [if_pos ⟨rfl, rfl⟩]; rfl
theorem KRw.one {k : IntKind} : KRw [.i k] (fun x : Int => [.int k x]) := fun a b => by
  show (match (if k = k ∧ k = k then some (a == b) else none), some true with | some a, some b => some (a && b) | _, _ => none) = _
  rw [if_pos ⟨rfl, rfl⟩]
  show some ((a == b) && true) = _
  rw [Bool.and_true]; rfl
theorem KRw.cons {κ : Type} [DecidableEq κ] {ks : List Leaf} {en : κ → List HV} {k : IntKind} (h : KRw ks en) : KRw (.i k :: ks) (fun p : Int × κ => .int k p.1 :: en p.2) := fun a b => by
  show (match (if k = k ∧ k = k then some (a.1 == b.1) else none), eqRow ks (en a.2) (en b.2) with | some a, some b => some (a && b) | _, _ => none) = _
  rw [if_pos ⟨rfl, rfl⟩, h a.2 b.2]
  show some ((a.1 == b.1) && decide (a.2 = b.2)) = _
  congr 1
  obtain ⟨a1, a2⟩ := a
  obtain ⟨b1, b2⟩ := b
  by_cases c : a1 = b1
  · by_cases c' : a2 = b2
    · subst c; subst c'; simp
    · simp [c, c']
  · simp [c]
theorem KD.row {κ : Type} [DecidableEq κ] {ks : List Leaf} {en : κ → List HV} (h : KRw ks en) : KD (.row ks) (fun k => .agg (en k)) := h
section
variable {κ β : Type} [DecidableEq κ]
def look : List (κ × β) → κ → Option β
  | [], _ => none
  | (x, v) :: l, k => if k = x then some v else look l k
def putM (k : κ) (v : β) : List (κ × β) → List (κ × β)
  | [] => [(k, v)]
  | (x, u) :: l => if k = x then (k, v) :: l else (x, u) :: putM k v l
def upm (m : κ → Option β) (k : κ) (v : β) : κ → Option β := fun j => if j = k then some v else m j
theorem look_put {k : κ} {v : β} : ∀ (l : List (κ × β)) (j : κ), look (putM k v l) j = if j = k then some v else look l j
  | [], j => rfl
  | (x, u) :: l, j => by
    unfold putM
    by_cases c : k = x
    · rw [if_pos c]
      unfold look
      by_cases c' : j = k
      · rw [if_pos c', if_pos c']
      · rw [if_neg c', if_neg c', if_neg (fun e => c' (e.trans c.symm))]
    · rw [if_neg c]
      unfold look
      by_cases c' : j = x
      · rw [if_pos c', if_neg (fun e => c (e.symm.trans c')), if_pos c']
      · rw [if_neg c', if_neg c', look_put l j]
def MR (D : ED) (en : κ → HV) (ev : β → HV) (es : List (HV × HV)) (m : κ → Option β) : Prop := KD D en ∧ ∃ l : List (κ × β), es = l.map (fun p => (en p.1, ev p.2)) ∧ ∀ k, m k = look l k
theorem MR.nil {D : ED} {en : κ → HV} {ev : β → HV} (h : KD D en) : MR D en ev [] (fun _ => none) := ⟨h, [], rfl, fun _ => rfl⟩
theorem MR.find {D : ED} {en : κ → HV} {ev : β → HV} {es : List (HV × HV)} {m : κ → Option β} (h : MR D en ev es m) (k : κ) : findH D (en k) es = some ((m k).map ev) := by
  obtain ⟨hd, l, rfl, hm⟩ := h
  rw [hm k]
  clear hm
  induction l with
  | nil => rfl
  | cons p l ih =>
    obtain ⟨x, v⟩ := p
    show (match eqH D (en k) (en x) with | some true => some (some (ev v)) | some false => findH D (en k) (l.map fun p : κ × β => (en p.1, ev p.2)) | none => none) = _
    rw [hd k x]
    unfold look
    by_cases c : k = x
    · rw [decide_eq_true c, if_pos c]; rfl
    · rw [decide_eq_false c, if_neg c]; exact ih
theorem MR.upd {D : ED} {en : κ → HV} {ev : β → HV} {es : List (HV × HV)} {m : κ → Option β} (h : MR D en ev es m) (k : κ) (v : β) : ∃ es', updH D (en k) (ev v) es = some es' ∧ MR D en ev es' (upm m k v) := by
  obtain ⟨hd, l, rfl, hm⟩ := h
  refine ⟨(putM k v l).map (fun p => (en p.1, ev p.2)), ?_, hd, putM k v l, rfl, fun j => ?_⟩
  · clear hm
    induction l with
    | nil => rfl
    | cons p l ih =>
      obtain ⟨x, u⟩ := p
      show (match eqH D (en k) (en x) with | some true => some ((en k, ev v) :: l.map fun p : κ × β => (en p.1, ev p.2)) | some false => (updH D (en k) (ev v) (l.map fun p : κ × β => (en p.1, ev p.2))).map ((en x, ev u) :: ·) | none => none) = _
      rw [hd k x]
      unfold putM
      by_cases c : k = x
      · rw [decide_eq_true c, if_pos c]; rfl
      · rw [decide_eq_false c, if_neg c]
        show (updH D (en k) (ev v) (l.map fun p : κ × β => (en p.1, ev p.2))).map ((en x, ev u) :: ·) = _
        rw [ih]; rfl
  · rw [look_put]
    unfold upm
    rw [hm j]
theorem MR.key {D : ED} {en : κ → HV} {ev : β → HV} {es : List (HV × HV)} {m : κ → Option β} (h : MR D en ev es m) (k : κ) : keyOk D (en k) = true := by
  unfold keyOk; rw [h.1 k k]; rfl
end
section
variable {lp : Nat → Option LFunc} {fl : Nat} {N : HAct → HS → Prop} {nt d : Nat} {T : Tr HV} {ds : List Nat} {h : Tr HBlk} {nx : Nat} {os : List LOper} {anc : List Nat} {κ β : Type} [DecidableEq κ]
theorem v_mm {n0 : Nat} {h0 : Tr HBlk} {F0 F : PH} {L : List LE} (st : St n0 h0 F0 F h nx L) (hn : ∀ b h' n', St n0 h0 F0 F h' n' (L ++ [.any b (.map [])]) → R lp fl os N ⟨nt, T.set d (some (.map (some b))), ds⟩ ⟨h', n'⟩) (hd : Nat.blt d nt = true := by rfl) : R lp fl (⟨some d, .makeMap, none, anc⟩ :: os) N ⟨nt, T, ds⟩ ⟨h, nx⟩ :=
  r_mm (by
    rw [put_eq hd]
    have hne := st.ext.le
    exact hn _ _ _ (st.push (b := nx) (Ext.set st.d (by omega) (by omega) (by omega)) (fun c hc => by rw [os_any hc]; omega) ⟨by omega, by omega, get_same _ _ _⟩))
theorem v_lk1 {D : ED} {en : κ → HV} {ev : β → HV} {es : List (HV × HV)} {m : κ → Option β} {b : Nat} {x y : Lo} {kv zero : HV} (hm : MR D en ev es m) (hg : h.get b = some (.map es)) (k : κ) (z : β) (hk : kv = en k) (hz : zero = ev z) (hn : R lp fl os N ⟨nt, T.set d (some (ev ((m k).getD z))), ds⟩ ⟨h, nx⟩) (hx : lo T x = .map (some b) := by first | exact ev_c | (apply ev_t; exact gA)) (hy : lo T y = kv := by first | exact ev_c | (apply ev_t; exact gA)) (hd : Nat.blt d nt = true := by rfl) : R lp fl (⟨some d, .lookup D zero false x y, none, anc⟩ :: os) N ⟨nt, T, ds⟩ ⟨h, nx⟩ := by
  subst hk; subst hz
  refine r_lku ((ev_eq x).trans hx) ((ev_eq y).trans hy) (hm.key k) hg (hm.find k) ?_
  rw [put_eq hd]
  cases e : m k <;> (rw [e] at hn; exact hn)
theorem v_mu {n0 : Nat} {h0 : Tr HBlk} {F0 F : PH} {L : List LE} {D : ED} {en : κ → HV} {ev : β → HV} {es : List (HV × HV)} {m : κ → Option β} {b : Nat} {x y z : Lo} {kv vv : HV} (st : St n0 h0 F0 F h nx L) (i : Nat) (hi : L[i]? = some (.any b (.map es))) (hm : MR D en ev es m) (k : κ) (v : β) (hk : kv = en k) (hv : vv = ev v) (hfl : fl ≤ n0) (hn : ∀ es' h', MR D en ev es' (upm m k v) → St n0 h0 F0 F h' nx (L.set i (.any b (.map es'))) → R lp fl os N ⟨nt, T, ds⟩ ⟨h', nx⟩) (hx : lo T x = .map (some b) := by first | exact ev_c | (apply ev_t; exact gA)) (hy : lo T y = kv := by first | exact ev_c | (apply ev_t; exact gA)) (hw : lo T z = vv := by first | exact ev_c | (apply ev_t; exact gA)) : R lp fl (⟨none, .mapUpdate D x y z, none, anc⟩ :: os) N ⟨nt, T, ds⟩ ⟨h, nx⟩ := by
  subst hk; subst hv
  obtain ⟨es', e1, e2⟩ := hm.upd k v
  obtain ⟨h1, h2, h3⟩ := st.at hi
  refine r_mup ((ev_eq x).trans hx) ((ev_eq y).trans hy) ((ev_eq z).trans hw) (hm.key k) h3 (Nat.le_trans hfl h1) e1 ?_
  exact hn es' _ e2 (st.swap hi (Nat.le_refl _) (st.d.upd h2) (fun c hc hne => get_other _ _ fun e => hne (List.mem_singleton.2 e)) (fun c hc => .inl hc) ⟨h1, h2, get_same _ _ _⟩)
end
end Go.Hx.V

/- Appending, in the part of a region that draws, to a row that this part itself has laid. -/
namespace Go.Hx.V
set_option linter.unusedVariables false
open Go.Hx
section
variable {lp : Nat → Option LFunc} {fl : Nat} {N : HAct → HS → Prop} {nt d : Nat} {T : Tr HV} {ds : List Nat} {os : List LOper}
variable {h1 hm h0 : Tr HBlk} {nx s n1 n0 i : Nat} {done : List (Nat × List (Nat × HBlk))} {V : List (Nat × PH)} {F F0 : PH} {L : List LE}
end
end Go.Hx.V

/- What the functions of the program come to. -/
namespace Go.Hx.V
open Go.Hx
set_option linter.unusedVariables false
set_option maxRecDepth 20000
set_option maxHeartbeats 4000000
/- meniscus/meniscuslaw01.to -/
def sf35 (N : Nat) (a0_0 : Int) (a0_1 : Int) : Option (Int × Int) :=
  some (a0_0, a0_1)
/- meniscus/meniscuslaw01.Tube -/
def sf21 (N : Nat) (a0_0 : Int) (a0_1 : Int) (a0_2 : Int) (a0_3 : Int) : Option (Int × Int × Int × Int) :=
  (bnd (sf35 N a0_2 a0_3) fun v7 => some (a0_0, a0_1, v7.1, v7.2))
/- (meniscus/bore.Range).liesIn -/
def sf83 (N : Nat) (a0_0 : Int) (a0_1 : Int) (a1 : Int) (a2 : Int) : Option Bool :=
  (bif (decide (a1 ≤ a0_0)) then (bif (decide (a0_0 ≤ a0_1)) then some (decide (a0_1 ≤ a2)) else some false) else some false)
/- (meniscus/bore.Range).has -/
def sf66 (N : Nat) (a0_0 : Int) (a0_1 : Int) (a1 : Int) : Option Bool :=
  (bif (decide (a0_0 ≤ a1)) then some (decide (a1 ≤ a0_1)) else some false)
/- (meniscus/bore.Tube).valid -/
def sf63 (N : Nat) (a0_0 : Int) (a0_1 : Int) (a0_2 : Int) (a0_3 : Int) : Option Bool :=
  bnd (bnd ((bif (decide (a0_0 < (1 : Int))) then some true else (bif (decide ((10 : Int) < a0_0)) then some true else (bnd (sf83 N a0_2 a0_3 (1 : Int) (200 : Int)) fun v37 => some (!v37)))) : Option (Bool)) (fun y31 => (bif y31 then some (.inl ()) else some (.inr ()))) : Option (Unit ⊕ Unit)) (sel (fun w22 => some false) (fun w24 => (ck (rng (a0_0 * a0_2)) ((ck (rng (a0_0 * a0_3)) ((bif (decide (a0_1 ≤ (2000 : Int))) then (bnd (sf66 N (a0_0 * a0_2) (a0_0 * a0_3) a0_1) fun v48 => some v48) else some false)))))))
/- meniscus/bore.CheckTube -/
def sf20 (N : Nat) (a0_0 : Int) (a0_1 : Int) (a0_2 : Int) (a0_3 : Int) : Option Int :=
  (bnd (sf63 N a0_0 a0_1 a0_2 a0_3) fun v4 => (bif (!v4) then some (1 : Int) else some (0 : Int)))
/- (meniscus/bore.Tube).allows -/
def sf86 (N : Nat) (a0_0 : Int) (a0_1 : Int) (a0_2 : Int) (a0_3 : Int) (a1_0 : Int) (a1_1 : Int) (a1_2 : Int) (a1_3 : Int) : Option Bool :=
  (bif (decide ((0 : Int) ≤ a1_0)) then (bif (decide (a1_0 < a0_0)) then (bif (decide (a1_0 ≤ a1_1)) then (bif (decide (a1_1 ≤ a0_0)) then (bnd (sf83 N a1_2 a1_3 (0 : Int) (2000 : Int)) fun v11 => some v11) else some false) else some false) else some false) else some false)
/- meniscus/lists.All[meniscus/bore.Reading] -/
def sf68_L1 (N : Nat) (a0 : (List (Int × Int × Int × Int))) (a1f0_0 : Int) (a1f0_1 : Int) (a1f0_2 : Int) (a1f0_3 : Int) (x1 : Int) : Option (Int ⊕ (Unit ⊕ Unit)) :=
  (bif (decide (x1 < ((a0).length : Int))) then (ix a0 x1 fun x20 => (bnd (sf86 N a1f0_0 a1f0_1 a1f0_2 a1f0_3 x20.1 x20.2.1 x20.2.2.1 x20.2.2.2) fun v25 => (bif (!v25) then some (.inr (.inl ())) else (ck (rng (x1 + (1 : Int))) (some (.inl (x1 + (1 : Int)))))))) else some (.inr (.inr ())))
def sf68 (N : Nat) (a0 : (List (Int × Int × Int × Int))) (a1f0_0 : Int) (a1f0_1 : Int) (a1f0_2 : Int) (a1f0_3 : Int) : Option Bool :=
  bnd (iter (sf68_L1 N a0 a1f0_0 a1f0_1 a1f0_2 a1f0_3) N (0 : Int)) (sel (fun w15 => some false) (fun w17 => some true))
/- meniscus/bore.check -/
def sf64 (N : Nat) (a0_0 : Int) (a0_1 : Int) (a0_2 : Int) (a0_3 : Int) (a1 : (List (Int × Int × Int × Int))) : Option Int :=
  (bnd (sf20 N a0_0 a0_1 a0_2 a0_3) fun v4 => (bif (!(decide (v4 = (0 : Int)))) then some v4 else (bif (decide ((12 : Int) < ((a1).length : Int))) then some (3 : Int) else (bnd (sf68 N a1 a0_0 a0_1 a0_2 a0_3) fun v9 => (bif (!v9) then some (2 : Int) else some (0 : Int))))))
/- meniscus/meniscusref01.In -/
def sf37 (N : Nat) (a0 : Int) (a1 : Int) (a2 : Int) : Option Bool :=
  (bif (decide (a1 ≤ a0)) then some (decide (a0 ≤ a2)) else some false)
/- meniscus/meniscusref01.Span -/
def sf48 (N : Nat) (a0_0 : Int) (a0_1 : Int) (a1 : Int) (a2 : Int) : Option Bool :=
  (bnd (sf37 N a0_0 a1 a0_1) fun v4 => (bif v4 then some (decide (a0_1 ≤ a2)) else some false))
/- meniscus/meniscusref01.IsTube -/
def sf25 (N : Nat) (a0_0 : Int) (a0_1 : Int) (a0_2 : Int) (a0_3 : Int) : Option Bool :=
  (bnd (sf37 N a0_0 (1 : Int) (10 : Int)) fun v4 => (bif v4 then (bnd (sf48 N a0_2 a0_3 (1 : Int) (200 : Int)) fun v8 => (bif v8 then (bnd (sf37 N a0_1 (1 : Int) (2000 : Int)) fun v12 => (bif v12 then (ck (rng (a0_0 * a0_2)) ((ck (rng (a0_0 * a0_3)) ((bnd (sf37 N a0_1 (a0_0 * a0_2) (a0_0 * a0_3)) fun v18 => some v18))))) else some false)) else some false)) else some false))
/- meniscus/meniscusref01.Height -/
def sf38_L1 (a0 : (List Int)) (a1 : Int) (x1 : (Int × Int)) : Option ((Int × Int) ⊕ Int) :=
  (bif (decide (x1.2 < a1)) then (ix a0 x1.2 fun x10 => (ck (rng (x1.1 + x10)) ((ck (rng (x1.2 + (1 : Int))) (some (.inl ((x1.1 + x10), (x1.2 + (1 : Int))))))))) else some (.inr x1.1))
def sf38 (N : Nat) (a0 : (List Int)) (a1 : Int) : Option Int :=
  bnd (iter (sf38_L1 a0 a1) N ((0 : Int), (0 : Int))) (fun y7 => some y7)
/- meniscus/meniscusref01.Right -/
def sf71 (N : Nat) (a0_0 : Int) (a0_1 : Int) (a0_2 : Int) (a0_3 : Int) (a1_0 : Int) (a1_1 : Int) (a1_2 : Int) (a1_3 : Int) (a2 : (List Int)) : Option Bool :=
  (bnd (sf38 N a2 a1_0) fun v7 => (bnd (sf38 N a2 a1_1) fun v10 => (ck (rng (v10 - v7)) ((bif (decide (a1_1 < a0_0)) then (ck (rng (a1_1 + (1 : Int))) ((bnd (sf38 N a2 (a1_1 + (1 : Int))) fun v17 => (ck (rng (v17 - v7)) ((ck (rng ((v17 - v7) - (1 : Int))) (some (decide ((max a1_2 (v10 - v7)) ≤ (min a1_3 ((v17 - v7) - (1 : Int)))))))))))) else some (decide ((max a1_2 (v10 - v7)) ≤ a1_3)))))))
/- (*meniscus/gaps.Gaps).Can -/
def sf103 (N : Nat) (a0p0 : Int) (a0p1 : Int) (a0p2 : Int) (a0p3 : Int) (a0p4 : Int) (a0p5 : (Nat → Int)) (a1 : Int) (a2 : Int) (a3 : Int) : Option Bool :=
  (ck (0 ≤ a2 ∧ a2 < 13) ((ck (0 ≤ a1 ∧ a1 < 13) ((ck (rng (a3 + (a0p5 (((Int.toNat a2) * 13) + (Int.toNat a1))))) (some (decide ((0 : Int) ≤ (a3 + (a0p5 (((Int.toNat a2) * 13) + (Int.toNat a1))))))))))))
/- meniscus/bore.unread -/
def sf97_L1 (a0_0 : Int) (a0_2 : Int) (a0_3 : Int) (x69 : (Int × (Nat → Int))) (x146 : (Int × (Nat → Int))) : Option ((Int × (Nat → Int)) ⊕ (Nat → Int)) :=
  (bif (decide (x146.1 ≤ a0_0)) then (ck (rng (x146.1 - x69.1)) ((ck (rng ((x146.1 - x69.1) * a0_3)) ((ck (0 ≤ x69.1 ∧ x69.1 < 13) ((ck (0 ≤ x146.1 ∧ x146.1 < 13) ((ck (rng (x69.1 - x146.1)) ((ck (rng ((x69.1 - x146.1) * a0_2)) ((ck (0 ≤ x146.1 ∧ x146.1 < 13) ((ck (0 ≤ x69.1 ∧ x69.1 < 13) ((ck (rng (x146.1 + (1 : Int))) (some (.inl ((x146.1 + (1 : Int)), (ups (ups x146.2 (((Int.toNat x69.1) * 13) + (Int.toNat x146.1)) ((x146.1 - x69.1) * a0_3)) (((Int.toNat x146.1) * 13) + (Int.toNat x69.1)) ((x69.1 - x146.1) * a0_2)))))))))))))))))))))) else some (.inr x146.2))
def sf97_L2 (N : Nat) (a0_0 : Int) (a0_2 : Int) (a0_3 : Int) (x69 : (Int × (Nat → Int))) : Option ((Int × (Nat → Int)) ⊕ (Nat → Int)) :=
  (bif (decide (x69.1 ≤ a0_0)) then bnd (iter (sf97_L1 a0_0 a0_2 a0_3 x69) N (x69.1, x69.2)) (fun y163 => (ck (rng (x69.1 + (1 : Int))) (some (.inl ((x69.1 + (1 : Int)), y163))))) else some (.inr x69.2))
def sf97_L3 (a0_0 : Int) (a0_1 : Int) (x259 : (Int × (Nat → Int))) (x347 : (Int × (Nat → Int))) : Option ((Int × (Nat → Int)) ⊕ (Nat → Int)) :=
  (bif (decide (x347.1 < (a0_0 + (1 : Int)))) then (ck (0 ≤ (0 : Int) ∧ (0 : Int) < 13) ((ck (0 ≤ x347.1 ∧ x347.1 < 13) ((ck (rng (((x259.2 (((Int.toNat x259.1) * 13) + (Int.toNat a0_0))) + (-a0_1)) + (x347.2 (((Int.toNat (0 : Int)) * 13) + (Int.toNat x347.1))))) ((ck (0 ≤ x259.1 ∧ x259.1 < 13) ((ck (0 ≤ x347.1 ∧ x347.1 < 13) ((bif (decide ((((x259.2 (((Int.toNat x259.1) * 13) + (Int.toNat a0_0))) + (-a0_1)) + (x347.2 (((Int.toNat (0 : Int)) * 13) + (Int.toNat x347.1)))) < (x347.2 (((Int.toNat x259.1) * 13) + (Int.toNat x347.1))))) then (ck (0 ≤ x259.1 ∧ x259.1 < 13) ((ck (0 ≤ x347.1 ∧ x347.1 < 13) ((ck (rng (x347.1 + (1 : Int))) (some (.inl ((x347.1 + (1 : Int)), (ups x347.2 (((Int.toNat x259.1) * 13) + (Int.toNat x347.1)) (((x259.2 (((Int.toNat x259.1) * 13) + (Int.toNat a0_0))) + (-a0_1)) + (x347.2 (((Int.toNat (0 : Int)) * 13) + (Int.toNat x347.1))))))))))))) else (ck (rng (x347.1 + (1 : Int))) (some (.inl ((x347.1 + (1 : Int)), x347.2))))))))))))))) else some (.inr x347.2))
def sf97_L4 (N : Nat) (a0_0 : Int) (a0_1 : Int) (x259 : (Int × (Nat → Int))) : Option ((Int × (Nat → Int)) ⊕ (Nat → Int)) :=
  (bif (decide (x259.1 < (a0_0 + (1 : Int)))) then (ck (0 ≤ x259.1 ∧ x259.1 < 13) ((ck (0 ≤ a0_0 ∧ a0_0 < 13) ((ck (rng ((x259.2 (((Int.toNat x259.1) * 13) + (Int.toNat a0_0))) + (-a0_1))) ((ck (0 ≤ x259.1 ∧ x259.1 < 13) ((ck (0 ≤ (0 : Int) ∧ (0 : Int) < 13) ((bif (decide ((x259.2 (((Int.toNat x259.1) * 13) + (Int.toNat (0 : Int)))) ≤ ((x259.2 (((Int.toNat x259.1) * 13) + (Int.toNat a0_0))) + (-a0_1)))) then (ck (rng (x259.1 + (1 : Int))) (some (.inl ((x259.1 + (1 : Int)), x259.2)))) else bnd (iter (sf97_L3 a0_0 a0_1 x259) N ((0 : Int), x259.2)) (fun y363 => (ck (rng (x259.1 + (1 : Int))) (some (.inl ((x259.1 + (1 : Int)), y363)))))))))))))))) else some (.inr x259.2))
def sf97_L5 (a0_0 : Int) (a0_1 : Int) (x448 : (Int × (Nat → Int))) (x536 : (Int × (Nat → Int))) : Option ((Int × (Nat → Int)) ⊕ (Nat → Int)) :=
  (bif (decide (x536.1 < (a0_0 + (1 : Int)))) then (ck (0 ≤ a0_0 ∧ a0_0 < 13) ((ck (0 ≤ x536.1 ∧ x536.1 < 13) ((ck (rng (((x448.2 (((Int.toNat x448.1) * 13) + (Int.toNat (0 : Int)))) + a0_1) + (x536.2 (((Int.toNat a0_0) * 13) + (Int.toNat x536.1))))) ((ck (0 ≤ x448.1 ∧ x448.1 < 13) ((ck (0 ≤ x536.1 ∧ x536.1 < 13) ((bif (decide ((((x448.2 (((Int.toNat x448.1) * 13) + (Int.toNat (0 : Int)))) + a0_1) + (x536.2 (((Int.toNat a0_0) * 13) + (Int.toNat x536.1)))) < (x536.2 (((Int.toNat x448.1) * 13) + (Int.toNat x536.1))))) then (ck (0 ≤ x448.1 ∧ x448.1 < 13) ((ck (0 ≤ x536.1 ∧ x536.1 < 13) ((ck (rng (x536.1 + (1 : Int))) (some (.inl ((x536.1 + (1 : Int)), (ups x536.2 (((Int.toNat x448.1) * 13) + (Int.toNat x536.1)) (((x448.2 (((Int.toNat x448.1) * 13) + (Int.toNat (0 : Int)))) + a0_1) + (x536.2 (((Int.toNat a0_0) * 13) + (Int.toNat x536.1))))))))))))) else (ck (rng (x536.1 + (1 : Int))) (some (.inl ((x536.1 + (1 : Int)), x536.2))))))))))))))) else some (.inr x536.2))
def sf97_L6 (N : Nat) (a0_0 : Int) (a0_1 : Int) (x448 : (Int × (Nat → Int))) : Option ((Int × (Nat → Int)) ⊕ (Nat → Int)) :=
  (bif (decide (x448.1 < (a0_0 + (1 : Int)))) then (ck (0 ≤ x448.1 ∧ x448.1 < 13) ((ck (0 ≤ (0 : Int) ∧ (0 : Int) < 13) ((ck (rng ((x448.2 (((Int.toNat x448.1) * 13) + (Int.toNat (0 : Int)))) + a0_1)) ((ck (0 ≤ x448.1 ∧ x448.1 < 13) ((ck (0 ≤ a0_0 ∧ a0_0 < 13) ((bif (decide ((x448.2 (((Int.toNat x448.1) * 13) + (Int.toNat a0_0))) ≤ ((x448.2 (((Int.toNat x448.1) * 13) + (Int.toNat (0 : Int)))) + a0_1))) then (ck (rng (x448.1 + (1 : Int))) (some (.inl ((x448.1 + (1 : Int)), x448.2)))) else bnd (iter (sf97_L5 a0_0 a0_1 x448) N ((0 : Int), x448.2)) (fun y552 => (ck (rng (x448.1 + (1 : Int))) (some (.inl ((x448.1 + (1 : Int)), y552)))))))))))))))) else some (.inr x448.2))
def sf97_L7 (a0_0 : Int) (a0_1 : Int) (x647 : (Int × (Nat → Int))) (x740 : (Int × (Nat → Int))) : Option ((Int × (Nat → Int)) ⊕ (Nat → Int)) :=
  (bif (decide (x740.1 < (a0_0 + (1 : Int)))) then (ck (0 ≤ (0 : Int) ∧ (0 : Int) < 13) ((ck (0 ≤ x740.1 ∧ x740.1 < 13) ((ck (rng (((x647.2 (((Int.toNat x647.1) * 13) + (Int.toNat a0_0))) + (-a0_1)) + (x740.2 (((Int.toNat (0 : Int)) * 13) + (Int.toNat x740.1))))) ((ck (0 ≤ x647.1 ∧ x647.1 < 13) ((ck (0 ≤ x740.1 ∧ x740.1 < 13) ((bif (decide ((((x647.2 (((Int.toNat x647.1) * 13) + (Int.toNat a0_0))) + (-a0_1)) + (x740.2 (((Int.toNat (0 : Int)) * 13) + (Int.toNat x740.1)))) < (x740.2 (((Int.toNat x647.1) * 13) + (Int.toNat x740.1))))) then (ck (0 ≤ x647.1 ∧ x647.1 < 13) ((ck (0 ≤ x740.1 ∧ x740.1 < 13) ((ck (rng (x740.1 + (1 : Int))) (some (.inl ((x740.1 + (1 : Int)), (ups x740.2 (((Int.toNat x647.1) * 13) + (Int.toNat x740.1)) (((x647.2 (((Int.toNat x647.1) * 13) + (Int.toNat a0_0))) + (-a0_1)) + (x740.2 (((Int.toNat (0 : Int)) * 13) + (Int.toNat x740.1))))))))))))) else (ck (rng (x740.1 + (1 : Int))) (some (.inl ((x740.1 + (1 : Int)), x740.2))))))))))))))) else some (.inr x740.2))
def sf97_L8 (N : Nat) (a0_0 : Int) (a0_1 : Int) (x647 : (Int × (Nat → Int))) : Option ((Int × (Nat → Int)) ⊕ (Nat → Int)) :=
  (bif (decide (x647.1 < (a0_0 + (1 : Int)))) then (ck (0 ≤ x647.1 ∧ x647.1 < 13) ((ck (0 ≤ a0_0 ∧ a0_0 < 13) ((ck (rng ((x647.2 (((Int.toNat x647.1) * 13) + (Int.toNat a0_0))) + (-a0_1))) ((ck (0 ≤ x647.1 ∧ x647.1 < 13) ((ck (0 ≤ (0 : Int) ∧ (0 : Int) < 13) ((bif (decide ((x647.2 (((Int.toNat x647.1) * 13) + (Int.toNat (0 : Int)))) ≤ ((x647.2 (((Int.toNat x647.1) * 13) + (Int.toNat a0_0))) + (-a0_1)))) then (ck (rng (x647.1 + (1 : Int))) (some (.inl ((x647.1 + (1 : Int)), x647.2)))) else bnd (iter (sf97_L7 a0_0 a0_1 x647) N ((0 : Int), x647.2)) (fun y757 => (ck (rng (x647.1 + (1 : Int))) (some (.inl ((x647.1 + (1 : Int)), y757)))))))))))))))) else some (.inr x647.2))
def sf97 (N : Nat) (a0_0 : Int) (a0_1 : Int) (a0_2 : Int) (a0_3 : Int) : Option (Int × Int × Int × Int × Int × (Nat → Int)) :=
  (ck (rng (a0_0 + (1 : Int))) (bnd (iter (sf97_L2 N a0_0 a0_2 a0_3) N ((0 : Int), (fun _ => 0))) (fun y126 => (bnd (sf103 N a0_0 a0_1 a0_2 a0_3 (a0_0 + (1 : Int)) y126 (0 : Int) a0_0 a0_1) fun v186 => (bif (!v186) then (ck (rng (-a0_1)) ((bnd (sf103 N a0_0 a0_1 a0_2 a0_3 (a0_0 + (1 : Int)) y126 a0_0 (0 : Int) (-a0_1)) fun v192 => (bif (!v192) then some (a0_0, a0_1, a0_2, a0_3, (a0_0 + (1 : Int)), y126) else bnd (iter (sf97_L4 N a0_0 a0_1) N ((0 : Int), y126)) (fun y321 => some (a0_0, a0_1, a0_2, a0_3, (a0_0 + (1 : Int)), y321)))))) else bnd (iter (sf97_L6 N a0_0 a0_1) N ((0 : Int), y126)) (fun y510 => (ck (rng (-a0_1)) ((bnd (sf103 N a0_0 a0_1 a0_2 a0_3 (a0_0 + (1 : Int)) y510 a0_0 (0 : Int) (-a0_1)) fun v576 => (bif (!v576) then some (a0_0, a0_1, a0_2, a0_3, (a0_0 + (1 : Int)), y510) else bnd (iter (sf97_L8 N a0_0 a0_1) N ((0 : Int), y510)) (fun y713 => some (a0_0, a0_1, a0_2, a0_3, (a0_0 + (1 : Int)), y713))))))))))))
/- (meniscus/bore.readTube).with -/
def sf96_L1 (a0_4 : Int) (a1_0 : Int) (a1_1 : Int) (a1_3 : Int) (x75 : (Int × (Nat → Int))) (x158 : (Int × (Nat → Int))) : Option ((Int × (Nat → Int)) ⊕ (Nat → Int)) :=
  (bif (decide (x158.1 < a0_4)) then (ck (0 ≤ a1_1 ∧ a1_1 < 13) ((ck (0 ≤ x158.1 ∧ x158.1 < 13) ((ck (rng (((x75.2 (((Int.toNat x75.1) * 13) + (Int.toNat a1_0))) + a1_3) + (x158.2 (((Int.toNat a1_1) * 13) + (Int.toNat x158.1))))) ((ck (0 ≤ x75.1 ∧ x75.1 < 13) ((ck (0 ≤ x158.1 ∧ x158.1 < 13) ((bif (decide ((((x75.2 (((Int.toNat x75.1) * 13) + (Int.toNat a1_0))) + a1_3) + (x158.2 (((Int.toNat a1_1) * 13) + (Int.toNat x158.1)))) < (x158.2 (((Int.toNat x75.1) * 13) + (Int.toNat x158.1))))) then (ck (0 ≤ x75.1 ∧ x75.1 < 13) ((ck (0 ≤ x158.1 ∧ x158.1 < 13) ((ck (rng (x158.1 + (1 : Int))) (some (.inl ((x158.1 + (1 : Int)), (ups x158.2 (((Int.toNat x75.1) * 13) + (Int.toNat x158.1)) (((x75.2 (((Int.toNat x75.1) * 13) + (Int.toNat a1_0))) + a1_3) + (x158.2 (((Int.toNat a1_1) * 13) + (Int.toNat x158.1))))))))))))) else (ck (rng (x158.1 + (1 : Int))) (some (.inl ((x158.1 + (1 : Int)), x158.2))))))))))))))) else some (.inr x158.2))
def sf96_L2 (N : Nat) (a0_4 : Int) (a1_0 : Int) (a1_1 : Int) (a1_3 : Int) (x75 : (Int × (Nat → Int))) : Option ((Int × (Nat → Int)) ⊕ (Nat → Int)) :=
  (bif (decide (x75.1 < a0_4)) then (ck (0 ≤ x75.1 ∧ x75.1 < 13) ((ck (0 ≤ a1_0 ∧ a1_0 < 13) ((ck (rng ((x75.2 (((Int.toNat x75.1) * 13) + (Int.toNat a1_0))) + a1_3)) ((ck (0 ≤ x75.1 ∧ x75.1 < 13) ((ck (0 ≤ a1_1 ∧ a1_1 < 13) ((bif (decide ((x75.2 (((Int.toNat x75.1) * 13) + (Int.toNat a1_1))) ≤ ((x75.2 (((Int.toNat x75.1) * 13) + (Int.toNat a1_0))) + a1_3))) then (ck (rng (x75.1 + (1 : Int))) (some (.inl ((x75.1 + (1 : Int)), x75.2)))) else bnd (iter (sf96_L1 a0_4 a1_0 a1_1 a1_3 x75) N ((0 : Int), x75.2)) (fun y173 => (ck (rng (x75.1 + (1 : Int))) (some (.inl ((x75.1 + (1 : Int)), y173)))))))))))))))) else some (.inr x75.2))
def sf96_L3 (a0_4 : Int) (a1_0 : Int) (a1_1 : Int) (a1_2 : Int) (x466 : (Int × (Nat → Int))) (x554 : (Int × (Nat → Int))) : Option ((Int × (Nat → Int)) ⊕ (Nat → Int)) :=
  (bif (decide (x554.1 < a0_4)) then (ck (0 ≤ a1_0 ∧ a1_0 < 13) ((ck (0 ≤ x554.1 ∧ x554.1 < 13) ((ck (rng (((x466.2 (((Int.toNat x466.1) * 13) + (Int.toNat (a1_1 + (1 : Int))))) + ((-a1_2) - (1 : Int))) + (x554.2 (((Int.toNat a1_0) * 13) + (Int.toNat x554.1))))) ((ck (0 ≤ x466.1 ∧ x466.1 < 13) ((ck (0 ≤ x554.1 ∧ x554.1 < 13) ((bif (decide ((((x466.2 (((Int.toNat x466.1) * 13) + (Int.toNat (a1_1 + (1 : Int))))) + ((-a1_2) - (1 : Int))) + (x554.2 (((Int.toNat a1_0) * 13) + (Int.toNat x554.1)))) < (x554.2 (((Int.toNat x466.1) * 13) + (Int.toNat x554.1))))) then (ck (0 ≤ x466.1 ∧ x466.1 < 13) ((ck (0 ≤ x554.1 ∧ x554.1 < 13) ((ck (rng (x554.1 + (1 : Int))) (some (.inl ((x554.1 + (1 : Int)), (ups x554.2 (((Int.toNat x466.1) * 13) + (Int.toNat x554.1)) (((x466.2 (((Int.toNat x466.1) * 13) + (Int.toNat (a1_1 + (1 : Int))))) + ((-a1_2) - (1 : Int))) + (x554.2 (((Int.toNat a1_0) * 13) + (Int.toNat x554.1))))))))))))) else (ck (rng (x554.1 + (1 : Int))) (some (.inl ((x554.1 + (1 : Int)), x554.2))))))))))))))) else some (.inr x554.2))
def sf96_L4 (N : Nat) (a0_4 : Int) (a1_0 : Int) (a1_1 : Int) (a1_2 : Int) (x466 : (Int × (Nat → Int))) : Option ((Int × (Nat → Int)) ⊕ (Nat → Int)) :=
  (bif (decide (x466.1 < a0_4)) then (ck (0 ≤ x466.1 ∧ x466.1 < 13) ((ck (0 ≤ (a1_1 + (1 : Int)) ∧ (a1_1 + (1 : Int)) < 13) ((ck (rng ((x466.2 (((Int.toNat x466.1) * 13) + (Int.toNat (a1_1 + (1 : Int))))) + ((-a1_2) - (1 : Int)))) ((ck (0 ≤ x466.1 ∧ x466.1 < 13) ((ck (0 ≤ a1_0 ∧ a1_0 < 13) ((bif (decide ((x466.2 (((Int.toNat x466.1) * 13) + (Int.toNat a1_0))) ≤ ((x466.2 (((Int.toNat x466.1) * 13) + (Int.toNat (a1_1 + (1 : Int))))) + ((-a1_2) - (1 : Int))))) then (ck (rng (x466.1 + (1 : Int))) (some (.inl ((x466.1 + (1 : Int)), x466.2)))) else bnd (iter (sf96_L3 a0_4 a1_0 a1_1 a1_2 x466) N ((0 : Int), x466.2)) (fun y570 => (ck (rng (x466.1 + (1 : Int))) (some (.inl ((x466.1 + (1 : Int)), y570)))))))))))))))) else some (.inr x466.2))
def sf96 (N : Nat) (a0_0 : Int) (a0_1 : Int) (a0_2 : Int) (a0_3 : Int) (a0_4 : Int) (a0_5 : (Nat → Int)) (a1_0 : Int) (a1_1 : Int) (a1_2 : Int) (a1_3 : Int) : Option (Int × Int × Int × Int × Int × (Nat → Int) × Bool) :=
  (bnd (sf103 N a0_0 a0_1 a0_2 a0_3 a0_4 a0_5 a1_0 a1_1 a1_3) fun v11 => (bif (!v11) then some ((0 : Int), (0 : Int), (0 : Int), (0 : Int), (0 : Int), (fun _ => 0), false) else bnd (iter (sf96_L2 N a0_4 a1_0 a1_1 a1_3) N ((0 : Int), a0_5)) (fun y133 => bnd ((bif (decide (a1_1 < a0_0)) then (ck (rng (a1_1 + (1 : Int))) ((ck (rng (-a1_2)) ((ck (rng ((-a1_2) - (1 : Int))) ((bnd (sf103 N a0_0 a0_1 a0_2 a0_3 a0_4 y133 (a1_1 + (1 : Int)) a1_0 ((-a1_2) - (1 : Int))) fun v400 => (bif (!v400) then some ((!false), y133) else bnd (iter (sf96_L4 N a0_4 a1_0 a1_1 a1_2) N ((0 : Int), y133)) (fun y528 => some ((!true), y528)))))))))) else some (false, y133)) : Option ((Bool × (Nat → Int)))) (fun y391 => (bif y391.1 then some ((0 : Int), (0 : Int), (0 : Int), (0 : Int), (0 : Int), (fun _ => 0), false) else some (a0_0, a0_1, a0_2, a0_3, a0_4, y391.2, true))))))
/- meniscus/bore.read -/
def sf89_L1 (N : Nat) (a1 : (List (Int × Int × Int × Int))) (x18 : (Int × ((Int × Int × Int × Int) → Option Bool) × Int × Int × Int × Int × Int × (Nat → Int) × Int × Int × Int × Int × Int × (Nat → Int))) : Option ((Int × ((Int × Int × Int × Int) → Option Bool) × Int × Int × Int × Int × Int × (Nat → Int) × Int × Int × Int × Int × Int × (Nat → Int)) ⊕ ((((Int × Int × Int × Int) → Option Bool) × Int × Int × Int × Int × Int × (Nat → Int) × Int × Int × Int × Int × Int × (Nat → Int)) ⊕ (((Int × Int × Int × Int) → Option Bool) × Int × Int × Int × Int × Int × (Nat → Int) × Int × Int × Int × Int × Int × (Nat → Int)))) :=
  (bif (decide (x18.1 < ((a1).length : Int))) then (ix a1 x18.1 fun x46 => (bif (Option.getD (x18.2.1 (x46.1, x46.2.1, x46.2.2.1, x46.2.2.2)) false) then (ck (rng (x18.1 + (1 : Int))) (some (.inl ((x18.1 + (1 : Int)), x18.2.1, x18.2.2.1, x18.2.2.2.1, x18.2.2.2.2.1, x18.2.2.2.2.2.1, x18.2.2.2.2.2.2.1, x18.2.2.2.2.2.2.2.1, x18.2.2.2.2.2.2.2.2.1, x18.2.2.2.2.2.2.2.2.2.1, x18.2.2.2.2.2.2.2.2.2.2.1, x18.2.2.2.2.2.2.2.2.2.2.2.1, x18.2.2.2.2.2.2.2.2.2.2.2.2.1, x18.2.2.2.2.2.2.2.2.2.2.2.2.2)))) else (bnd (sf96 N x18.2.2.1 x18.2.2.2.1 x18.2.2.2.2.1 x18.2.2.2.2.2.1 x18.2.2.2.2.2.2.1 x18.2.2.2.2.2.2.2.1 x46.1 x46.2.1 x46.2.2.1 x46.2.2.2) fun v55 => (bif (!v55.2.2.2.2.2.2) then some (.inr (.inl ((upm x18.2.1 (x46.1, x46.2.1, x46.2.2.1, x46.2.2.2) true), v55.1, v55.2.1, v55.2.2.1, v55.2.2.2.1, v55.2.2.2.2.1, v55.2.2.2.2.2.1, (0 : Int), (0 : Int), (0 : Int), (0 : Int), (0 : Int), (fun _ => 0)))) else (ck (rng (x18.1 + (1 : Int))) (some (.inl ((x18.1 + (1 : Int)), (upm x18.2.1 (x46.1, x46.2.1, x46.2.2.1, x46.2.2.2) true), v55.1, v55.2.1, v55.2.2.1, v55.2.2.2.1, v55.2.2.2.2.1, v55.2.2.2.2.2.1, x18.2.2.2.2.2.2.2.2.1, x18.2.2.2.2.2.2.2.2.2.1, x18.2.2.2.2.2.2.2.2.2.2.1, x18.2.2.2.2.2.2.2.2.2.2.2.1, x18.2.2.2.2.2.2.2.2.2.2.2.2.1, x18.2.2.2.2.2.2.2.2.2.2.2.2.2)))))))) else some (.inr (.inr (x18.2.1, x18.2.2.1, x18.2.2.2.1, x18.2.2.2.2.1, x18.2.2.2.2.2.1, x18.2.2.2.2.2.2.1, x18.2.2.2.2.2.2.2.1, x18.2.2.2.2.2.2.2.2.1, x18.2.2.2.2.2.2.2.2.2.1, x18.2.2.2.2.2.2.2.2.2.2.1, x18.2.2.2.2.2.2.2.2.2.2.2.1, x18.2.2.2.2.2.2.2.2.2.2.2.2.1, x18.2.2.2.2.2.2.2.2.2.2.2.2.2))))
def sf89 (N : Nat) (a0_0 : Int) (a0_1 : Int) (a0_2 : Int) (a0_3 : Int) (a1 : (List (Int × Int × Int × Int))) : Option (Int × Int × Int × Int × Int × (Nat → Int) × Bool) :=
  (bnd (sf97 N a0_0 a0_1 a0_2 a0_3) fun v7 => bnd (iter (sf89_L1 N a1) N ((0 : Int), ((fun _ => none) : ((Int × Int × Int × Int) → Option Bool)), v7.1, v7.2.1, v7.2.2.1, v7.2.2.2.1, v7.2.2.2.2.1, v7.2.2.2.2.2, (0 : Int), (0 : Int), (0 : Int), (0 : Int), (0 : Int), (fun _ => 0))) (sel (fun w39 => some (w39.2.2.2.2.2.2.2.1, w39.2.2.2.2.2.2.2.2.1, w39.2.2.2.2.2.2.2.2.2.1, w39.2.2.2.2.2.2.2.2.2.2.1, w39.2.2.2.2.2.2.2.2.2.2.2.1, w39.2.2.2.2.2.2.2.2.2.2.2.2, false)) (fun w42 => some (w42.2.1, w42.2.2.1, w42.2.2.2.1, w42.2.2.2.2.1, w42.2.2.2.2.2.1, w42.2.2.2.2.2.2.1, true))))
/- meniscus/bore.readFor -/
def sf72 (N : Nat) (a0_0 : Int) (a0_1 : Int) (a0_2 : Int) (a0_3 : Int) (a1 : (List (Int × Int × Int × Int))) (a2 : Bool) : Option (Int × Int × Int × Int × Int × (Nat → Int) × Int) :=
  (bnd (sf64 N a0_0 a0_1 a0_2 a0_3 a1) fun v7 => (bif (!(decide (v7 = (0 : Int)))) then some ((0 : Int), (0 : Int), (0 : Int), (0 : Int), (0 : Int), (fun _ => 0), v7) else (bif (!a2) then some ((0 : Int), (0 : Int), (0 : Int), (0 : Int), (0 : Int), (fun _ => 0), (2 : Int)) else (bnd (sf89 N a0_0 a0_1 a0_2 a0_3 a1) fun v14 => (bif (!v14.2.2.2.2.2.2) then some ((0 : Int), (0 : Int), (0 : Int), (0 : Int), (0 : Int), (fun _ => 0), (9 : Int)) else some (v14.1, v14.2.1, v14.2.2.1, v14.2.2.2.1, v14.2.2.2.2.1, v14.2.2.2.2.2.1, (0 : Int)))))))
/- meniscus/bore.bothEnds -/
def sf77 (N : Nat) : Option Unit :=
  some ()
/- (*meniscus/gaps.Gaps).Lowest -/
def sf90 (N : Nat) (a0p0 : Int) (a0p1 : Int) (a0p2 : Int) (a0p3 : Int) (a0p4 : Int) (a0p5 : (Nat → Int)) (a1 : Int) : Option Int :=
  (ck (0 ≤ a1 ∧ a1 < 13) ((ck (0 ≤ (0 : Int) ∧ (0 : Int) < 13) ((ck (rng (-(a0p5 (((Int.toNat a1) * 13) + (Int.toNat (0 : Int)))))) (some (-(a0p5 (((Int.toNat a1) * 13) + (Int.toNat (0 : Int)))))))))))
/- (*meniscus/gaps.Gaps).Highest -/
def sf91 (N : Nat) (a0p0 : Int) (a0p1 : Int) (a0p2 : Int) (a0p3 : Int) (a0p4 : Int) (a0p5 : (Nat → Int)) (a1 : Int) : Option Int :=
  (ck (0 ≤ (0 : Int) ∧ (0 : Int) < 13) ((ck (0 ≤ a1 ∧ a1 < 13) (some (a0p5 (((Int.toNat (0 : Int)) * 13) + (Int.toNat a1)))))))
/- (meniscus/bore.readTube).bounds -/
def sf73_L1 (N : Nat) (a0_0 : Int) (a0_1 : Int) (a0_2 : Int) (a0_3 : Int) (a0_4 : Int) (a0_5 : (Nat → Int)) (x29 : ((List (Int × Int)) × Int)) : Option (((List (Int × Int)) × Int) ⊕ (List (Int × Int))) :=
  (bif (decide (x29.2 ≤ a0_0)) then (bnd (sf90 N a0_0 a0_1 a0_2 a0_3 a0_4 a0_5 x29.2) fun v49 => (bnd (sf91 N a0_0 a0_1 a0_2 a0_3 a0_4 a0_5 x29.2) fun v53 => (ck ((x29.1.length + 1) * 16 ≤ 35184372088832 ∧ x29.1.length + 1 ≤ 35184372088832) ((ck (rng (x29.2 + (1 : Int))) (some (.inl ((x29.1 ++ [(v49, v53)]), (x29.2 + (1 : Int)))))))))) else some (.inr x29.1))
def sf73 (N : Nat) (a0_0 : Int) (a0_1 : Int) (a0_2 : Int) (a0_3 : Int) (a0_4 : Int) (a0_5 : (Nat → Int)) : Option (List (Int × Int)) :=
  (bnd (sf77 N ) fun v4 => (ck (rng (a0_0 + (1 : Int))) ((ck (0 ≤ (0 : Int) ∧ 0 ≤ (a0_0 + (1 : Int)) ∧ Int.toNat (0 : Int) ≤ Int.toNat (a0_0 + (1 : Int)) ∧ (Int.toNat (a0_0 + (1 : Int)) * 16 ≤ 35184372088832 ∧ Int.toNat (a0_0 + (1 : Int)) ≤ 35184372088832)) (bnd (iter (sf73_L1 N a0_0 a0_1 a0_2 a0_3 a0_4 a0_5) N ((List.replicate (Int.toNat (0 : Int)) (0, 0)), (0 : Int))) (fun y45 => some y45))))))
/- meniscus/bore.Heights -/
def sf29 (N : Nat) (a0_0 : Int) (a0_1 : Int) (a0_2 : Int) (a0_3 : Int) (a1 : (List (Int × Int × Int × Int))) : Option ((List (Int × Int)) × Int) :=
  (bnd (sf72 N a0_0 a0_1 a0_2 a0_3 a1 true) fun v4 => (bif (!(decide (v4.2.2.2.2.2.2 = (0 : Int)))) then some ([], v4.2.2.2.2.2.2) else (bnd (sf73 N v4.1 v4.2.1 v4.2.2.1 v4.2.2.2.1 v4.2.2.2.2.1 v4.2.2.2.2.2.1) fun v12 => some (v12, (0 : Int)))))
/- meniscus/meniscuslaw01.between -/
def sf51 (N : Nat) (a0 : Int) (a1 : Int) : Option (Int × Int) :=
  some (a0, a1)
/- meniscus/meniscuslaw01.BoreFree -/
def sf16_L1 (N : Nat) (a0_0 : Int) (a0_1 : Int) (a0_2 : Int) (a0_3 : Int) (v12 : ((List (Int × Int)) × Int)) (x45 : Int) : Option (Int ⊕ (Unit ⊕ Unit)) :=
  (bif (decide (x45 ≤ a0_0)) then (ck (rng (a0_0 - x45)) ((ix v12.1 x45 fun x71 => (ck (rng (x45 * a0_2)) ((ck (rng ((a0_0 - x45) * a0_3)) ((ck (rng (a0_1 - ((a0_0 - x45) * a0_3))) ((ck (rng (x45 * a0_3)) ((ck (rng ((a0_0 - x45) * a0_2)) ((ck (rng (a0_1 - ((a0_0 - x45) * a0_2))) ((bnd (sf51 N (max (x45 * a0_2) (a0_1 - ((a0_0 - x45) * a0_3))) (min (x45 * a0_3) (a0_1 - ((a0_0 - x45) * a0_2)))) fun v78 => (bif (!(x71.1 == v78.1 && (x71.2 == v78.2 && true))) then some (.inr (.inl ())) else (ck (rng (x45 + (1 : Int))) (some (.inl (x45 + (1 : Int)))))))))))))))))))))) else some (.inr (.inr ())))
def sf16 (N : Nat) (a0_0 : Int) (a0_1 : Int) (a0_2 : Int) (a0_3 : Int) : Option Bool :=
  (bnd (sf25 N a0_0 a0_1 a0_2 a0_3) fun v4 => (bif (!v4) then some true else (bnd (sf21 N a0_0 a0_1 a0_2 a0_3) fun v9 => (bnd (sf29 N v9.1 v9.2.1 v9.2.2.1 v9.2.2.2 ([])) fun v12 => bnd (bnd ((bif (!(decide (v12.2 = (0 : Int)))) then some true else (ck (rng (a0_0 + (1 : Int))) (some (!(decide (((v12.1).length : Int) = (a0_0 + (1 : Int)))))))) : Option (Bool)) (fun y35 => (bif y35 then some (.inl ()) else some (.inr ()))) : Option (Unit ⊕ Unit)) (sel (fun w29 => some false) (fun w31 => bnd (iter (sf16_L1 N a0_0 a0_1 a0_2 a0_3 v12) N (0 : Int)) (sel (fun w65 => some false) (fun w67 => some true))))))))
end Go.Hx.V

/- Functions of the program come to that. -/
namespace Go.Hx.V
open Go.Hx
set_option linter.unusedVariables false
set_option maxRecDepth 20000
set_option maxHeartbeats 4000000
attribute [local irreducible] W R C thenH inBlockH Tr.get Tr.set lo ck bnd ix iter
theorem ct35 (N : Nat) {a0_0 : Int} {a0_1 : Int} {r : (Int × Int)} (hF : sf35 N a0_0 a0_1 = some r) {fl : Nat} {h0 : Tr HBlk} {n0 : Nat} {F0 : PH} (hd : D h0 n0) (hs : F0.sub h0) : C LW fl 35 [(.agg [(i64 a0_0), (i64 a0_1)])] ⟨h0, n0⟩ (KS (.agg [(i64 r.1), (i64 r.2)]) n0 h0) := by
  unfold sf35 at hF
  refine in_cT hd hs lw35 rfl rfl (by rfl) (fun st T hT => ?_)
  have hfl : n0 ≤ n0 := Nat.le_refl n0
  have t0 := hT 0 _ rfl
  dsimp only [L35]
  refine w_seq ?_; refine w_reg ?_; refine v_box st (fun b1 h2 n3 st => ?_); refine v_alloc st (fun b4 h5 n6 st => ?_); refine r_nil ?_; refine th_n ?_; refine w_seq ?_; refine w_reg ?_; refine v_fa ?_; refine v_ld1 (st.at (i := 0) rfl).2.2 rfl ?_; refine v_fa ?_; refine v_ld1 (st.at (i := 0) rfl).2.2 rfl ?_; refine v_build (cs := [(i64 a0_0), (i64 a0_1)]) rfl ?_; refine v_st (cs' := [(i64 a0_0), (i64 a0_1)]) st 1 rfl rfl rfl rfl hfl (fun h7 st => ?_); refine r_nil ?_; refine th_n ?_; refine w_ret ?_; obtain rfl := inj hF
  exact end_s st (Res.c gA (st.at (i := 1) rfl).2.2 (show takeN _ _ = some [(i64 a0_0), (i64 a0_1)] from rfl) Res.nil) rfl rfl
theorem ct83 (N : Nat) {a0_0 : Int} {a0_1 : Int} {a1 : Int} {a2 : Int} {r : Bool} (hF : sf83 N a0_0 a0_1 a1 a2 = some r) {fl : Nat} {h0 : Tr HBlk} {n0 : Nat} {F0 : PH} (hd : D h0 n0) (hs : F0.sub h0) : C LW fl 83 [(.agg [(i64 a0_0), (i64 a0_1)]), (i64 a1), (i64 a2)] ⟨h0, n0⟩ (KS (.bool r) n0 h0) := by
  unfold sf83 at hF
  refine in_cT hd hs lw83 rfl rfl (by rfl) (fun st T hT => ?_)
  have hfl : n0 ≤ n0 := Nat.le_refl n0
  have t0 := hT 0 _ rfl
  have t1 := hT 1 _ rfl
  have t2 := hT 2 _ rfl
  dsimp only [L83]
  refine w_seq ?_; refine w_reg ?_; refine v_box st (fun b1 h2 n3 st => ?_); refine v_move ?_; refine r_nil ?_; refine th_n ?_; refine w_seq ?_; refine w_reg ?_; refine v_move ?_; refine v_fa ?_; refine v_ld1 (st.at (i := 0) rfl).2.2 rfl ?_; refine v_leq ?_; refine v_move ?_
  rcases Bool.eq_false_or_eq_true (decide (a1 ≤ a0_0)) with hb4 | hb4
  · have hF := bif_t hb4 hF; refine g_take hb4 (v_fa ?_); refine g_take hb4 (v_ld1 (st.at (i := 0) rfl).2.2 rfl ?_); refine g_take hb4 (v_fa ?_); refine g_take hb4 (v_ld1 (st.at (i := 0) rfl).2.2 rfl ?_); refine g_take hb4 (v_leq ?_); refine v_pick hb4 ?_; refine v_move ?_
    rcases Bool.eq_false_or_eq_true (decide (a0_0 ≤ a0_1)) with hb5 | hb5
    · have hF := bif_t hb5 hF; refine g_take hb5 (v_fa ?_); refine g_take hb5 (v_ld1 (st.at (i := 0) rfl).2.2 rfl ?_); refine g_take hb5 (v_move ?_); refine g_take hb5 (v_leq ?_); refine v_pick hb5 ?_; refine v_move ?_; refine r_nil ?_; refine th_n ?_; refine w_ret ?_; obtain rfl := inj hF
      exact end_s st (Res.t gA Res.nil) rfl rfl
    · have hF := bif_f hb5 hF; refine g_skip hb5 ?_; refine g_skip hb5 ?_; refine g_skip hb5 ?_; refine g_skip hb5 ?_; refine v_pick' hb5 ?_; refine v_move ?_; refine r_nil ?_; refine th_n ?_; refine w_ret ?_; obtain rfl := inj hF
      exact end_s st (Res.t gA Res.nil) rfl rfl
  · have hF := bif_f hb4 hF; refine g_skip hb4 ?_; refine g_skip hb4 ?_; refine g_skip hb4 ?_; refine g_skip hb4 ?_; refine g_skip hb4 ?_; refine v_pick' hb4 ?_; refine v_move ?_; refine g_skip rfl ?_; refine g_skip rfl ?_; refine g_skip rfl ?_; refine g_skip rfl ?_; refine v_pick' rfl ?_; refine v_move ?_; refine r_nil ?_; refine th_n ?_; refine w_ret ?_; obtain rfl := inj hF
    exact end_s st (Res.t gA Res.nil) rfl rfl
theorem ct66 (N : Nat) {a0_0 : Int} {a0_1 : Int} {a1 : Int} {r : Bool} (hF : sf66 N a0_0 a0_1 a1 = some r) {fl : Nat} {h0 : Tr HBlk} {n0 : Nat} {F0 : PH} (hd : D h0 n0) (hs : F0.sub h0) : C LW fl 66 [(.agg [(i64 a0_0), (i64 a0_1)]), (i64 a1)] ⟨h0, n0⟩ (KS (.bool r) n0 h0) := by
  unfold sf66 at hF
  refine in_cT hd hs lw66 rfl rfl (by rfl) (fun st T hT => ?_)
  have hfl : n0 ≤ n0 := Nat.le_refl n0
  have t0 := hT 0 _ rfl
  have t1 := hT 1 _ rfl
  dsimp only [L66]
  refine w_seq ?_; refine w_reg ?_; refine v_box st (fun b1 h2 n3 st => ?_); refine v_move ?_; refine r_nil ?_; refine th_n ?_; refine w_seq ?_; refine w_reg ?_; refine v_fa ?_; refine v_ld1 (st.at (i := 0) rfl).2.2 rfl ?_; refine v_move ?_; refine v_leq ?_; refine v_move ?_
  rcases Bool.eq_false_or_eq_true (decide (a0_0 ≤ a1)) with hb4 | hb4
  · have hF := bif_t hb4 hF; refine g_take hb4 (v_move ?_); refine g_take hb4 (v_fa ?_); refine g_take hb4 (v_ld1 (st.at (i := 0) rfl).2.2 rfl ?_); refine g_take hb4 (v_leq ?_); refine v_pick hb4 ?_; refine v_move ?_; refine r_nil ?_; refine th_n ?_; refine w_ret ?_; obtain rfl := inj hF
    exact end_s st (Res.t gA Res.nil) rfl rfl
  · have hF := bif_f hb4 hF; refine g_skip hb4 ?_; refine g_skip hb4 ?_; refine g_skip hb4 ?_; refine g_skip hb4 ?_; refine v_pick' hb4 ?_; refine v_move ?_; refine r_nil ?_; refine th_n ?_; refine w_ret ?_; obtain rfl := inj hF
    exact end_s st (Res.t gA Res.nil) rfl rfl
theorem ct37 (N : Nat) {a0 : Int} {a1 : Int} {a2 : Int} {r : Bool} (hF : sf37 N a0 a1 a2 = some r) {fl : Nat} {h0 : Tr HBlk} {n0 : Nat} {F0 : PH} (hd : D h0 n0) (hs : F0.sub h0) : C LW fl 37 [(i64 a0), (i64 a1), (i64 a2)] ⟨h0, n0⟩ (KS (.bool r) n0 h0) := by
  unfold sf37 at hF
  refine in_cT hd hs lw37 rfl rfl (by rfl) (fun st T hT => ?_)
  have hfl : n0 ≤ n0 := Nat.le_refl n0
  have t0 := hT 0 _ rfl
  have t1 := hT 1 _ rfl
  have t2 := hT 2 _ rfl
  dsimp only [L37]
  refine w_seq ?_; refine w_reg ?_; refine v_move ?_; refine r_nil ?_; refine th_n ?_; refine w_seq ?_; refine w_reg ?_; refine v_move ?_; refine v_move ?_; refine v_geq ?_; refine v_move ?_
  rcases Bool.eq_false_or_eq_true (decide (a1 ≤ a0)) with hb1 | hb1
  · have hF := bif_t hb1 hF; refine g_take hb1 (v_move ?_); refine g_take hb1 (v_move ?_); refine g_take hb1 (v_leq ?_); refine v_pick hb1 ?_; refine v_move ?_; refine r_nil ?_; refine th_n ?_; refine w_ret ?_; obtain rfl := inj hF
    exact end_s st (Res.t gA Res.nil) rfl rfl
  · have hF := bif_f hb1 hF; refine g_skip hb1 ?_; refine g_skip hb1 ?_; refine g_skip hb1 ?_; refine v_pick' hb1 ?_; refine v_move ?_; refine r_nil ?_; refine th_n ?_; refine w_ret ?_; obtain rfl := inj hF
    exact end_s st (Res.t gA Res.nil) rfl rfl
theorem ct103 (N : Nat) {a0p0 : Int} {a0p1 : Int} {a0p2 : Int} {a0p3 : Int} {a0p4 : Int} {a0p5 : (Nat → Int)} {a1 : Int} {a2 : Int} {a3 : Int} {r : Bool} (hF : sf103 N a0p0 a0p1 a0p2 a0p3 a0p4 a0p5 a1 a2 a3 = some r) {fl : Nat} {h0 : Tr HBlk} {n0 : Nat} {F0 : PH} (hd : D h0 n0) (hs : F0.sub h0) {ba0 : Nat} (hba0 : F0 ba0 = some (.cells ([(i64 a0p0), (i64 a0p1), (i64 a0p2), (i64 a0p3), (i64 a0p4)] ++ (eI .i64 169 a0p5)) .exact)) : C LW fl 103 [(.ptr (some (ba0, 4))), (i64 a1), (i64 a2), (i64 a3)] ⟨h0, n0⟩ (KS (.bool r) n0 h0) := by
  unfold sf103 at hF
  refine in_cT hd hs lw103 rfl rfl (by rfl) (fun st T hT => ?_)
  have hfl : n0 ≤ n0 := Nat.le_refl n0
  have t0 := hT 0 _ rfl
  have t1 := hT 1 _ rfl
  have t2 := hT 2 _ rfl
  have t3 := hT 3 _ rfl
  dsimp only [L103]
  refine w_seq ?_; refine w_reg ?_; refine v_move ?_; refine r_nil ?_; refine th_n ?_; refine w_seq ?_; refine w_reg ?_; refine v_move ?_; refine v_move ?_; refine v_move ?_; refine v_move ?_; refine v_nc ?_; refine v_fa ?_; obtain ⟨q1, hF⟩ := ck_some hF
  refine v_ixa (j := (Int.toNat a2)) (Int.toNat_of_nonneg q1.1).symm (by omega) ?_
  obtain ⟨q2, hF⟩ := ck_some hF
  refine v_ixa (j := (Int.toNat a1)) (Int.toNat_of_nonneg q2.1).symm (by omega) ?_
  refine v_ld1 (o := ((5 + (Int.toNat a2) * 13) + (Int.toNat a1) * 1)) (st.sub _ _ hba0) (ar_get (p := 5) (ix := (((Int.toNat a2) * 13) + (Int.toNat a1))) [(i64 a0p0), (i64 a0p1), (i64 a0p2), (i64 a0p3), (i64 a0p4)] rfl (by omega) (by omega)) ?_
  obtain ⟨q3, hF⟩ := ck_some hF; refine v_add q3 ?_; refine v_geq ?_; refine v_move ?_; refine r_nil ?_; refine th_n ?_; refine w_ret ?_; obtain rfl := inj hF
  exact end_s st (Res.t gA Res.nil) rfl rfl
theorem ct77 (N : Nat) {r : Unit} (hF : sf77 N = some r) {fl : Nat} {h0 : Tr HBlk} {n0 : Nat} {F0 : PH} (hd : D h0 n0) (hs : F0.sub h0) : C LW fl 77 [] ⟨h0, n0⟩ (KS (.agg [(.via 131 "Lowest" 90), (.via 131 "Highest" 91)]) n0 h0) := by
  unfold sf77 at hF
  refine in_cT hd hs lw77 rfl rfl (by rfl) (fun st T hT => ?_)
  have hfl : n0 ≤ n0 := Nat.le_refl n0
  dsimp only [L77]
  refine w_seq ?_; refine w_reg ?_; refine v_alloc st (fun b1 h2 n3 st => ?_); refine r_nil ?_; refine th_n ?_; refine w_seq ?_; refine w_reg ?_; refine v_move ?_; refine v_move ?_; refine v_build (cs := [(.via 131 "Lowest" 90), (.via 131 "Highest" 91)]) rfl ?_; refine v_st (cs' := [(.via 131 "Lowest" 90), (.via 131 "Highest" 91)]) st 0 rfl rfl rfl rfl hfl (fun h4 st => ?_); refine r_nil ?_; refine th_n ?_; refine w_ret ?_; obtain rfl := inj hF
  exact end_s st (Res.c gA (st.at (i := 0) rfl).2.2 (show takeN _ _ = some [(.via 131 "Lowest" 90), (.via 131 "Highest" 91)] from rfl) Res.nil) rfl rfl
end Go.Hx.V

/- Functions of the program come to that. -/
namespace Go.Hx.V
open Go.Hx
set_option linter.unusedVariables false
set_option maxRecDepth 20000
set_option maxHeartbeats 4000000
attribute [local irreducible] W R C thenH inBlockH Tr.get Tr.set lo ck bnd ix iter
theorem ct90 (N : Nat) {a0p0 : Int} {a0p1 : Int} {a0p2 : Int} {a0p3 : Int} {a0p4 : Int} {a0p5 : (Nat → Int)} {a1 : Int} {r : Int} (hF : sf90 N a0p0 a0p1 a0p2 a0p3 a0p4 a0p5 a1 = some r) {fl : Nat} {h0 : Tr HBlk} {n0 : Nat} {F0 : PH} (hd : D h0 n0) (hs : F0.sub h0) {ba0 : Nat} (hba0 : F0 ba0 = some (.cells ([(i64 a0p0), (i64 a0p1), (i64 a0p2), (i64 a0p3), (i64 a0p4)] ++ (eI .i64 169 a0p5)) .exact)) : C LW fl 90 [(.ptr (some (ba0, 4))), (i64 a1)] ⟨h0, n0⟩ (KS (i64 r) n0 h0) := by
  unfold sf90 at hF
  refine in_cT hd hs lw90 rfl rfl (by rfl) (fun st T hT => ?_)
  have hfl : n0 ≤ n0 := Nat.le_refl n0
  have t0 := hT 0 _ rfl
  have t1 := hT 1 _ rfl
  dsimp only [L90]
  refine w_seq ?_; refine w_reg ?_; refine v_move ?_; refine r_nil ?_; refine th_n ?_; refine w_seq ?_; refine w_reg ?_; refine v_move ?_; refine v_move ?_; refine v_nc ?_; refine v_fa ?_; obtain ⟨q1, hF⟩ := ck_some hF
  refine v_ixa (j := (Int.toNat a1)) (Int.toNat_of_nonneg q1.1).symm (by omega) ?_
  obtain ⟨q2, hF⟩ := ck_some hF
  refine v_ixa (j := (Int.toNat (0 : Int))) (Int.toNat_of_nonneg q2.1).symm (by omega) ?_
  refine v_ld1 (o := ((5 + (Int.toNat a1) * 13) + (Int.toNat (0 : Int)) * 1)) (st.sub _ _ hba0) (ar_get (p := 5) (ix := (((Int.toNat a1) * 13) + (Int.toNat (0 : Int)))) [(i64 a0p0), (i64 a0p1), (i64 a0p2), (i64 a0p3), (i64 a0p4)] rfl (by omega) (by omega)) ?_
  obtain ⟨q3, hF⟩ := ck_some hF; refine v_neg q3 ?_; refine v_move ?_; refine r_nil ?_; refine th_n ?_; refine w_ret ?_; obtain rfl := inj hF
  exact end_s st (Res.t gA Res.nil) rfl rfl
theorem ct91 (N : Nat) {a0p0 : Int} {a0p1 : Int} {a0p2 : Int} {a0p3 : Int} {a0p4 : Int} {a0p5 : (Nat → Int)} {a1 : Int} {r : Int} (hF : sf91 N a0p0 a0p1 a0p2 a0p3 a0p4 a0p5 a1 = some r) {fl : Nat} {h0 : Tr HBlk} {n0 : Nat} {F0 : PH} (hd : D h0 n0) (hs : F0.sub h0) {ba0 : Nat} (hba0 : F0 ba0 = some (.cells ([(i64 a0p0), (i64 a0p1), (i64 a0p2), (i64 a0p3), (i64 a0p4)] ++ (eI .i64 169 a0p5)) .exact)) : C LW fl 91 [(.ptr (some (ba0, 4))), (i64 a1)] ⟨h0, n0⟩ (KS (i64 r) n0 h0) := by
  unfold sf91 at hF
  refine in_cT hd hs lw91 rfl rfl (by rfl) (fun st T hT => ?_)
  have hfl : n0 ≤ n0 := Nat.le_refl n0
  have t0 := hT 0 _ rfl
  have t1 := hT 1 _ rfl
  dsimp only [L91]
  refine w_seq ?_; refine w_reg ?_; refine v_move ?_; refine r_nil ?_; refine th_n ?_; refine w_seq ?_; refine w_reg ?_; refine v_move ?_; refine v_move ?_; refine v_nc ?_; refine v_fa ?_; obtain ⟨q1, hF⟩ := ck_some hF
  refine v_ixa (j := (Int.toNat (0 : Int))) (Int.toNat_of_nonneg q1.1).symm (by omega) ?_
  obtain ⟨q2, hF⟩ := ck_some hF
  refine v_ixa (j := (Int.toNat a1)) (Int.toNat_of_nonneg q2.1).symm (by omega) ?_
  refine v_ld1 (o := ((5 + (Int.toNat (0 : Int)) * 13) + (Int.toNat a1) * 1)) (st.sub _ _ hba0) (ar_get (p := 5) (ix := (((Int.toNat (0 : Int)) * 13) + (Int.toNat a1))) [(i64 a0p0), (i64 a0p1), (i64 a0p2), (i64 a0p3), (i64 a0p4)] rfl (by omega) (by omega)) ?_
  refine v_move ?_; refine r_nil ?_; refine th_n ?_; refine w_ret ?_; obtain rfl := inj hF
  exact end_s st (Res.t gA Res.nil) rfl rfl
theorem ct51 (N : Nat) {a0 : Int} {a1 : Int} {r : (Int × Int)} (hF : sf51 N a0 a1 = some r) {fl : Nat} {h0 : Tr HBlk} {n0 : Nat} {F0 : PH} (hd : D h0 n0) (hs : F0.sub h0) : C LW fl 51 [(i64 a0), (i64 a1)] ⟨h0, n0⟩ (KS (.agg [(i64 r.1), (i64 r.2)]) n0 h0) := by
  unfold sf51 at hF
  refine in_cT hd hs lw51 rfl rfl (by rfl) (fun st T hT => ?_)
  have hfl : n0 ≤ n0 := Nat.le_refl n0
  have t0 := hT 0 _ rfl
  have t1 := hT 1 _ rfl
  dsimp only [L51]
  refine w_seq ?_; refine w_reg ?_; refine v_alloc st (fun b1 h2 n3 st => ?_); refine r_nil ?_; refine th_n ?_; refine w_seq ?_; refine w_reg ?_; refine v_move ?_; refine v_move ?_; refine v_build (cs := [(i64 a0), (i64 a1)]) rfl ?_; refine v_st (cs' := [(i64 a0), (i64 a1)]) st 0 rfl rfl rfl rfl hfl (fun h4 st => ?_); refine r_nil ?_; refine th_n ?_; refine w_ret ?_; obtain rfl := inj hF
  exact end_s st (Res.c gA (st.at (i := 0) rfl).2.2 (show takeN _ _ = some [(i64 a0), (i64 a1)] from rfl) Res.nil) rfl rfl
end Go.Hx.V

/- Functions of the program come to that. -/
namespace Go.Hx.V
open Go.Hx
set_option linter.unusedVariables false
set_option maxRecDepth 20000
set_option maxHeartbeats 4000000
attribute [local irreducible] W R C thenH inBlockH Tr.get Tr.set lo ck bnd ix iter
theorem ct21 (N : Nat) {a0_0 : Int} {a0_1 : Int} {a0_2 : Int} {a0_3 : Int} {r : (Int × Int × Int × Int)} (hF : sf21 N a0_0 a0_1 a0_2 a0_3 = some r) {fl : Nat} {h0 : Tr HBlk} {n0 : Nat} {F0 : PH} (hd : D h0 n0) (hs : F0.sub h0) : C LW fl 21 [(.agg [(i64 a0_0), (i64 a0_1), (i64 a0_2), (i64 a0_3)])] ⟨h0, n0⟩ (KS (.agg [(i64 r.1), (i64 r.2.1), (i64 r.2.2.1), (i64 r.2.2.2)]) n0 h0) := by
  unfold sf21 at hF
  refine in_cT hd hs lw21 rfl rfl (by rfl) (fun st T hT => ?_)
  have hfl : n0 ≤ n0 := Nat.le_refl n0
  have t0 := hT 0 _ rfl
  dsimp only [L21]
  refine w_seq ?_; refine w_reg ?_; refine v_box st (fun b1 h2 n3 st => ?_); refine v_alloc st (fun b4 h5 n6 st => ?_); refine r_nil ?_; refine th_n ?_; refine w_seq ?_; refine w_drawV (Nat.le_trans hfl st.ext.le) (fun dw => ?_); refine y_pure st.d dw (fun hm vw => v_fa pr_nil) ?_; refine y_pure st.d dw (fun hm vw => v_ld1 (vw.bx (st.at (i := 0) rfl)) rfl pr_nil) ?_; refine y_pure st.d dw (fun hm vw => v_fa pr_nil) ?_; refine y_pure st.d dw (fun hm vw => v_ld1 (vw.bx (st.at (i := 0) rfl)) rfl pr_nil) ?_; refine y_pure st.d dw (fun hm vw => v_fa pr_nil) ?_; refine y_pure st.d dw (fun hm vw => v_ldn (vs := [(i64 a0_2), (i64 a0_3)]) (vw.bx (st.at (i := 0) rfl)) rfl pr_nil) ?_; obtain ⟨v7, e8, hF⟩ := bnd_some hF
  refine y_flat st.d dw (fun hm vw => u_call (ct35 N e8 vw.d (vw.sub st) ) (fun n' hn' => pf_nil hn')) (fun n9 hn' dw => ?_); refine y_end st.d dw rfl (fun h10 ex vs => ?_)
  have st := st.ext1 ex
  refine v_build (cs := [(i64 a0_0), (i64 a0_1), (i64 v7.1), (i64 v7.2)]) rfl ?_; refine v_st (cs' := [(i64 a0_0), (i64 a0_1), (i64 v7.1), (i64 v7.2)]) st 1 rfl rfl rfl rfl hfl (fun h11 st => ?_); refine r_nil ?_; refine th_n ?_; refine w_ret ?_; obtain rfl := inj hF
  exact end_s st (Res.c gA (st.at (i := 1) rfl).2.2 (show takeN _ _ = some [(i64 a0_0), (i64 a0_1), (i64 v7.1), (i64 v7.2)] from rfl) Res.nil) rfl rfl
theorem ct63 (N : Nat) {a0_0 : Int} {a0_1 : Int} {a0_2 : Int} {a0_3 : Int} {r : Bool} (hF : sf63 N a0_0 a0_1 a0_2 a0_3 = some r) {fl : Nat} {h0 : Tr HBlk} {n0 : Nat} {F0 : PH} (hd : D h0 n0) (hs : F0.sub h0) : C LW fl 63 [(.agg [(i64 a0_0), (i64 a0_1), (i64 a0_2), (i64 a0_3)])] ⟨h0, n0⟩ (KS (.bool r) n0 h0) := by
  unfold sf63 at hF
  refine in_cT hd hs lw63 rfl rfl (by rfl) (fun st T hT => ?_)
  have hfl : n0 ≤ n0 := Nat.le_refl n0
  have t0 := hT 0 _ rfl
  dsimp only [L63]
  refine w_seq ?_; refine w_reg ?_; refine v_box st (fun b1 h2 n3 st => ?_); refine v_move ?_; refine r_nil ?_; refine th_n ?_; obtain ⟨y19, hA20, hF⟩ := bnd_some hF; refine w_cutD (fun T ds25 h nx => ∃ u, y19 = (.inr u) ∧ ∃ (F25 : PH), ds25 = [] ∧ PH.le F0 F25 ∧ St n0 h0 F0 F25 h nx [.bx b1 [(i64 a0_0), (i64 a0_1), (i64 a0_2), (i64 a0_3)]] ∧ T.get 1 = some (.ptr (some (b1, 0)))) ?_ (fun T ds25 h nx hp => ?_)
  · have hK21 := hF
    have hF := hA20; obtain ⟨y31, hA32, hF⟩ := bnd_some hF; refine w_cutD (fun T ds34 h nx => ∃ (F34 : PH), ds34 = [] ∧ PH.le F0 F34 ∧ St n0 h0 F0 F34 h nx [.bx b1 [(i64 a0_0), (i64 a0_1), (i64 a0_2), (i64 a0_3)]] ∧ T.get 1 = some (.ptr (some (b1, 0))) ∧ T.get 17 = some (.bool y31)) ?_ (fun T ds34 h nx hp => ?_)
    · have hK33 := hF
      have hF := hA32; refine w_reg ?_; refine v_fa ?_; refine v_ld1 (st.at (i := 0) rfl).2.2 rfl ?_; refine v_lss ?_; refine v_move ?_
      rcases Bool.eq_false_or_eq_true (decide (a0_0 < (1 : Int))) with hb35 | hb35
      · have hF := bif_t hb35 hF; refine g_skip hb35 ?_; refine g_skip hb35 ?_; refine g_skip hb35 ?_; refine v_pick hb35 ?_; refine v_move ?_; refine g_skip rfl ?_; refine g_skip rfl ?_; refine g_skip rfl ?_; refine g_skip rfl ?_; refine v_pick rfl ?_; refine r_nil ?_; obtain rfl := inj hF; refine thn ⟨rfl, ?_⟩; dsimp only
        exact ⟨F0, rfl, (PH.le.refl _), st, gA, gA⟩
      · have hF := bif_f hb35 hF; refine g_take hb35 (v_fa ?_); refine g_take hb35 (v_ld1 (st.at (i := 0) rfl).2.2 rfl ?_); refine g_take hb35 (v_gtr ?_); refine v_pick' hb35 ?_; refine v_move ?_
        rcases Bool.eq_false_or_eq_true (decide ((10 : Int) < a0_0)) with hb36 | hb36
        · have hF := bif_t hb36 hF; refine g_skip hb36 ?_; refine g_skip hb36 ?_; refine g_skip hb36 ?_; refine g_skip hb36 ?_; refine v_pick hb36 ?_; refine r_nil ?_; obtain rfl := inj hF; refine thn ⟨rfl, ?_⟩; dsimp only
          exact ⟨F0, rfl, (PH.le.refl _), st, gA, gA⟩
        · have hF := bif_f hb36 hF; refine g_take hb36 (v_fa ?_); refine g_take hb36 (v_ldn (vs := [(i64 a0_2), (i64 a0_3)]) (st.at (i := 0) rfl).2.2 rfl ?_); obtain ⟨v37, e38, hF⟩ := bnd_some hF; refine g_take hb36 (v_call st (ct83 N e38 st.d st.sub ) (fun n39 st => ?_)); refine g_take hb36 (v_not ?_); refine v_pick' hb36 ?_; refine r_nil ?_; obtain rfl := inj hF; refine thn ⟨rfl, ?_⟩; dsimp only
          exact ⟨F0, rfl, (PH.le.refl _), st, gA, gA⟩
    · obtain ⟨F34, rfl, le34, st, t1, t17⟩ := hp; refine v_cond (fun hb40 => ?_) (fun hb40 => ?_)
      · have hF := bif_t hb40 hF; refine w_seq ?_; refine w_reg ?_; refine v_move ?_; refine r_nil ?_; refine th_n ?_; refine w_ret ?_; obtain rfl := inj hF; have hF := hK21; have hF := sel_l hF; refine th_r ?_; obtain rfl := inj hF
        exact end_s st (Res.t gA Res.nil) rfl rfl
      · have hF := bif_f hb40 hF; refine w_skip ?_; obtain rfl := inj hF; refine thn ⟨rfl, _, rfl, ?_⟩; dsimp only
        exact ⟨F34, rfl, le34, st, gA⟩
  · obtain ⟨w24, rfl, F25, rfl, le25, st, t1⟩ := hp; have hF := sel_r hF; refine w_seq ?_; refine w_reg ?_; refine v_fa ?_; refine v_ld1 (st.at (i := 0) rfl).2.2 rfl ?_; refine v_fa ?_; refine v_fa ?_; refine v_ld1 (st.at (i := 0) rfl).2.2 rfl ?_; obtain ⟨q41, hF⟩ := ck_some hF; refine v_mul q41 ?_; refine v_fa ?_; refine v_ld1 (st.at (i := 0) rfl).2.2 rfl ?_; refine v_fa ?_; refine v_fa ?_; refine v_ld1 (st.at (i := 0) rfl).2.2 rfl ?_; obtain ⟨q42, hF⟩ := ck_some hF; refine v_mul q42 ?_; refine v_build (cs := [(i64 (a0_0 * a0_2)), (i64 (a0_0 * a0_3))]) rfl ?_; refine v_alloc st (fun b43 h44 n45 st => ?_); refine v_st (cs' := [(i64 (a0_0 * a0_2)), (i64 (a0_0 * a0_3))]) st 1 rfl rfl rfl rfl hfl (fun h46 st => ?_)
    refine r_nil ?_; refine th_n ?_; refine w_seq ?_; refine w_reg ?_; refine v_fa ?_; refine v_ld1 (st.at (i := 0) rfl).2.2 rfl ?_; refine v_leq ?_; refine v_move ?_
    rcases Bool.eq_false_or_eq_true (decide (a0_1 ≤ (2000 : Int))) with hb47 | hb47
    · have hF := bif_t hb47 hF; refine g_take hb47 (v_ldn (vs := [(i64 (a0_0 * a0_2)), (i64 (a0_0 * a0_3))]) (st.at (i := 1) rfl).2.2 rfl ?_); refine g_take hb47 (v_fa ?_); refine g_take hb47 (v_ld1 (st.at (i := 0) rfl).2.2 rfl ?_); obtain ⟨v48, e49, hF⟩ := bnd_some hF; refine g_take hb47 (v_call st (ct66 N e49 st.d st.sub ) (fun n50 st => ?_)); refine v_pick hb47 ?_; refine v_move ?_; refine r_nil ?_; refine th_n ?_; refine w_ret ?_; obtain rfl := inj hF
      exact end_s st (Res.t gA Res.nil) rfl rfl
    · have hF := bif_f hb47 hF; refine g_skip hb47 ?_; refine g_skip hb47 ?_; refine g_skip hb47 ?_; refine g_skip hb47 ?_; refine v_pick' hb47 ?_; refine v_move ?_; refine r_nil ?_; refine th_n ?_; refine w_ret ?_; obtain rfl := inj hF
      exact end_s st (Res.t gA Res.nil) rfl rfl
theorem ct86 (N : Nat) {a0_0 : Int} {a0_1 : Int} {a0_2 : Int} {a0_3 : Int} {a1_0 : Int} {a1_1 : Int} {a1_2 : Int} {a1_3 : Int} {r : Bool} (hF : sf86 N a0_0 a0_1 a0_2 a0_3 a1_0 a1_1 a1_2 a1_3 = some r) {fl : Nat} {h0 : Tr HBlk} {n0 : Nat} {F0 : PH} (hd : D h0 n0) (hs : F0.sub h0) : C LW fl 86 [(.agg [(i64 a0_0), (i64 a0_1), (i64 a0_2), (i64 a0_3)]), (.agg [(i64 a1_0), (i64 a1_1), (i64 a1_2), (i64 a1_3)])] ⟨h0, n0⟩ (KS (.bool r) n0 h0) := by
  unfold sf86 at hF
  refine in_cT hd hs lw86 rfl rfl (by rfl) (fun st T hT => ?_)
  have hfl : n0 ≤ n0 := Nat.le_refl n0
  have t0 := hT 0 _ rfl
  have t1 := hT 1 _ rfl
  dsimp only [L86]
  refine w_seq ?_; refine w_reg ?_; refine v_box st (fun b1 h2 n3 st => ?_); refine v_box st (fun b4 h5 n6 st => ?_); refine v_move ?_; refine r_nil ?_; refine th_n ?_; refine w_seq ?_; refine w_reg ?_; refine v_fa ?_; refine v_ld1 (st.at (i := 1) rfl).2.2 rfl ?_; refine v_leq ?_; refine v_move ?_
  rcases Bool.eq_false_or_eq_true (decide ((0 : Int) ≤ a1_0)) with hb7 | hb7
  · have hF := bif_t hb7 hF; refine g_take hb7 (v_fa ?_); refine g_take hb7 (v_ld1 (st.at (i := 1) rfl).2.2 rfl ?_); refine g_take hb7 (v_fa ?_); refine g_take hb7 (v_ld1 (st.at (i := 0) rfl).2.2 rfl ?_); refine g_take hb7 (v_lss ?_); refine v_pick hb7 ?_; refine v_move ?_
    rcases Bool.eq_false_or_eq_true (decide (a1_0 < a0_0)) with hb8 | hb8
    · have hF := bif_t hb8 hF; refine g_take hb8 (v_fa ?_); refine g_take hb8 (v_ld1 (st.at (i := 1) rfl).2.2 rfl ?_); refine g_take hb8 (v_fa ?_); refine g_take hb8 (v_ld1 (st.at (i := 1) rfl).2.2 rfl ?_); refine g_take hb8 (v_leq ?_); refine v_pick hb8 ?_; refine v_move ?_
      rcases Bool.eq_false_or_eq_true (decide (a1_0 ≤ a1_1)) with hb9 | hb9
      · have hF := bif_t hb9 hF; refine g_take hb9 (v_fa ?_); refine g_take hb9 (v_ld1 (st.at (i := 1) rfl).2.2 rfl ?_); refine g_take hb9 (v_fa ?_); refine g_take hb9 (v_ld1 (st.at (i := 0) rfl).2.2 rfl ?_); refine g_take hb9 (v_leq ?_); refine v_pick hb9 ?_; refine v_move ?_
        rcases Bool.eq_false_or_eq_true (decide (a1_1 ≤ a0_0)) with hb10 | hb10
        · have hF := bif_t hb10 hF; refine g_take hb10 (v_fa ?_); refine g_take hb10 (v_ldn (vs := [(i64 a1_2), (i64 a1_3)]) (st.at (i := 1) rfl).2.2 rfl ?_); obtain ⟨v11, e12, hF⟩ := bnd_some hF; refine g_take hb10 (v_call st (ct83 N e12 st.d st.sub ) (fun n13 st => ?_)); refine v_pick hb10 ?_; refine v_move ?_; refine r_nil ?_; refine th_n ?_; refine w_ret ?_; obtain rfl := inj hF
          exact end_s st (Res.t gA Res.nil) rfl rfl
        · have hF := bif_f hb10 hF; refine g_skip hb10 ?_; refine g_skip hb10 ?_; refine g_skip hb10 ?_; refine v_pick' hb10 ?_; refine v_move ?_; refine r_nil ?_; refine th_n ?_; refine w_ret ?_; obtain rfl := inj hF
          exact end_s st (Res.t gA Res.nil) rfl rfl
      · have hF := bif_f hb9 hF; refine g_skip hb9 ?_; refine g_skip hb9 ?_; refine g_skip hb9 ?_; refine g_skip hb9 ?_; refine g_skip hb9 ?_; refine v_pick' hb9 ?_; refine v_move ?_; refine g_skip rfl ?_; refine g_skip rfl ?_; refine g_skip rfl ?_; refine v_pick' rfl ?_; refine v_move ?_; refine r_nil ?_; refine th_n ?_; refine w_ret ?_; obtain rfl := inj hF
        exact end_s st (Res.t gA Res.nil) rfl rfl
    · have hF := bif_f hb8 hF; refine g_skip hb8 ?_; refine g_skip hb8 ?_; refine g_skip hb8 ?_; refine g_skip hb8 ?_; refine g_skip hb8 ?_; refine v_pick' hb8 ?_; refine v_move ?_; refine g_skip rfl ?_; refine g_skip rfl ?_; refine g_skip rfl ?_; refine g_skip rfl ?_; refine g_skip rfl ?_; refine v_pick' rfl ?_; refine v_move ?_; refine g_skip rfl ?_; refine g_skip rfl ?_; refine g_skip rfl ?_; refine v_pick' rfl ?_; refine v_move ?_; refine r_nil ?_; refine th_n ?_; refine w_ret ?_; obtain rfl := inj hF
      exact end_s st (Res.t gA Res.nil) rfl rfl
  · have hF := bif_f hb7 hF; refine g_skip hb7 ?_; refine g_skip hb7 ?_; refine g_skip hb7 ?_; refine g_skip hb7 ?_; refine g_skip hb7 ?_; refine v_pick' hb7 ?_; refine v_move ?_; refine g_skip rfl ?_; refine g_skip rfl ?_; refine g_skip rfl ?_; refine g_skip rfl ?_; refine g_skip rfl ?_; refine v_pick' rfl ?_; refine v_move ?_; refine g_skip rfl ?_; refine g_skip rfl ?_; refine g_skip rfl ?_; refine g_skip rfl ?_; refine g_skip rfl ?_; refine v_pick' rfl ?_; refine v_move ?_; refine g_skip rfl ?_; refine g_skip rfl ?_; refine g_skip rfl ?_; refine v_pick' rfl ?_; refine v_move ?_; refine r_nil ?_; refine th_n ?_; refine w_ret ?_; obtain rfl := inj hF
    exact end_s st (Res.t gA Res.nil) rfl rfl
end Go.Hx.V

/- Functions of the program come to that. -/
namespace Go.Hx.V
open Go.Hx
set_option linter.unusedVariables false
set_option maxRecDepth 20000
set_option maxHeartbeats 4000000
attribute [local irreducible] W R C thenH inBlockH Tr.get Tr.set lo ck bnd ix iter
theorem ct48 (N : Nat) {a0_0 : Int} {a0_1 : Int} {a1 : Int} {a2 : Int} {r : Bool} (hF : sf48 N a0_0 a0_1 a1 a2 = some r) {fl : Nat} {h0 : Tr HBlk} {n0 : Nat} {F0 : PH} (hd : D h0 n0) (hs : F0.sub h0) : C LW fl 48 [(.agg [(i64 a0_0), (i64 a0_1)]), (i64 a1), (i64 a2)] ⟨h0, n0⟩ (KS (.bool r) n0 h0) := by
  unfold sf48 at hF
  refine in_cT hd hs lw48 rfl rfl (by rfl) (fun st T hT => ?_)
  have hfl : n0 ≤ n0 := Nat.le_refl n0
  have t0 := hT 0 _ rfl
  have t1 := hT 1 _ rfl
  have t2 := hT 2 _ rfl
  dsimp only [L48]
  refine w_seq ?_; refine w_reg ?_; refine v_box st (fun b1 h2 n3 st => ?_); refine v_move ?_; refine r_nil ?_; refine th_n ?_; refine w_seq ?_; refine w_reg ?_; refine v_fa ?_; refine v_ld1 (st.at (i := 0) rfl).2.2 rfl ?_; refine v_move ?_; refine v_fa ?_; refine v_ld1 (st.at (i := 0) rfl).2.2 rfl ?_; obtain ⟨v4, e5, hF⟩ := bnd_some hF; refine v_call st (ct37 N e5 st.d st.sub ) (fun n6 st => ?_); refine v_move ?_
  rcases Bool.eq_false_or_eq_true v4 with hb7 | hb7
  · have hF := bif_t hb7 hF; refine g_take hb7 (v_fa ?_); refine g_take hb7 (v_ld1 (st.at (i := 0) rfl).2.2 rfl ?_); refine g_take hb7 (v_move ?_); refine g_take hb7 (v_leq ?_); refine v_pick hb7 ?_; refine v_move ?_; refine r_nil ?_; refine th_n ?_; refine w_ret ?_; obtain rfl := inj hF
    exact end_s st (Res.t gA Res.nil) rfl rfl
  · have hF := bif_f hb7 hF; refine g_skip hb7 ?_; refine g_skip hb7 ?_; refine g_skip hb7 ?_; refine g_skip hb7 ?_; refine v_pick' hb7 ?_; refine v_move ?_; refine r_nil ?_; refine th_n ?_; refine w_ret ?_; obtain rfl := inj hF
    exact end_s st (Res.t gA Res.nil) rfl rfl
end Go.Hx.V

/- Functions of the program come to that. -/
namespace Go.Hx.V
open Go.Hx
set_option linter.unusedVariables false
set_option maxRecDepth 20000
set_option maxHeartbeats 4000000
attribute [local irreducible] W R C thenH inBlockH Tr.get Tr.set lo ck bnd ix iter
theorem ct97 (N : Nat) {a0_0 : Int} {a0_1 : Int} {a0_2 : Int} {a0_3 : Int} {r : (Int × Int × Int × Int × Int × (Nat → Int))} (hF : sf97 N a0_0 a0_1 a0_2 a0_3 = some r) {fl : Nat} {h0 : Tr HBlk} {n0 : Nat} {F0 : PH} (hd : D h0 n0) (hs : F0.sub h0) : C LW fl 97 [(.agg [(i64 a0_0), (i64 a0_1), (i64 a0_2), (i64 a0_3)])] ⟨h0, n0⟩ (KS (.agg ([(i64 r.1), (i64 r.2.1), (i64 r.2.2.1), (i64 r.2.2.2.1), (i64 r.2.2.2.2.1)] ++ (eI .i64 169 r.2.2.2.2.2))) n0 h0) := by
  unfold sf97 at hF
  refine in_cT hd hs lw97 rfl rfl (by rfl) (fun st T hT => ?_)
  have hfl : n0 ≤ n0 := Nat.le_refl n0
  have t0 := hT 0 _ rfl
  dsimp only [L97]
  refine w_seq ?_; refine w_reg ?_; refine v_box st (fun b1 h2 n3 st => ?_); refine v_alloc st (fun b4 h5 n6 st => ?_)
  have st := st.cells 1 rfl ([(i64 (0 : Int)), (i64 (0 : Int)), (i64 (0 : Int)), (i64 (0 : Int)), (i64 (0 : Int))] ++ (eI .i64 169 (fun _ => 0))) rfl
  refine r_nil ?_; refine th_n ?_; refine w_seq ?_; refine w_reg ?_; refine v_ldn (vs := [(i64 a0_0), (i64 a0_1), (i64 a0_2), (i64 a0_3)]) (st.at (i := 0) rfl).2.2 rfl ?_; refine v_fa ?_; refine v_ld1 (st.at (i := 0) rfl).2.2 rfl ?_; obtain ⟨q7, hF⟩ := ck_some hF; refine v_add q7 ?_; refine v_build (cs := ([(i64 (a0_0 + (1 : Int)))] ++ (eI .i64 169 (fun _ => 0)))) rfl ?_; refine v_build (cs := ([(i64 a0_0), (i64 a0_1), (i64 a0_2), (i64 a0_3), (i64 (a0_0 + (1 : Int)))] ++ (eI .i64 169 (fun _ => 0)))) rfl ?_; refine v_alloc st (fun b8 h9 n10 st => ?_)
  have st := st.cells 2 rfl ([(i64 (0 : Int)), (i64 (0 : Int)), (i64 (0 : Int)), (i64 (0 : Int)), (i64 (0 : Int))] ++ (eI .i64 169 (fun _ => 0))) rfl
  refine v_st (v := (.agg ([(i64 a0_0), (i64 a0_1), (i64 a0_2), (i64 a0_3), (i64 (a0_0 + (1 : Int)))] ++ (eI .i64 169 (fun _ => 0))))) (cs' := ([(i64 a0_0), (i64 a0_1), (i64 a0_2), (i64 a0_3), (i64 (a0_0 + (1 : Int)))] ++ (eI .i64 169 (fun _ => 0)))) st 2 rfl (ov_tail (q := ([(i64 (0 : Int)), (i64 (0 : Int)), (i64 (0 : Int)), (i64 (0 : Int)), (i64 (0 : Int))] ++ (eI .i64 169 (fun _ => 0)))) (r := ([(i64 a0_0), (i64 a0_1), (i64 a0_2), (i64 a0_3), (i64 (a0_0 + (1 : Int)))] ++ (eI .i64 169 (fun _ => 0)))) [] rfl (by simp [eI_len, eB_len])) (len_tail (E := (eI .i64 169 (fun _ => 0))) [(i64 a0_0), (i64 a0_1), (i64 a0_2), (i64 a0_3), (i64 (a0_0 + (1 : Int)))] eI_len rfl) (one_tail (E := (eI .i64 169 (fun _ => 0))) [(i64 a0_0), (i64 a0_1), (i64 a0_2), (i64 a0_3), (i64 (a0_0 + (1 : Int)))] rfl eI_one) hfl (fun h11 st => ?_)
  refine r_nil ?_; refine th_n ?_; refine w_seq ?_; refine w_seq ?_; refine w_reg ?_; refine v_move ?_; refine r_nil ?_; refine th_n ?_; refine w_block ?_; obtain ⟨y126, hy, hF⟩ := bnd_some hF; refine v_loopD (sf97_L2 N a0_0 a0_2 a0_3) (fun x69 T ds70 h nx => ∃ (F70 : PH), ds70 = [] ∧ PH.le F0 F70 ∧ St n0 h0 F0 F70 h nx [.bx b1 [(i64 a0_0), (i64 a0_1), (i64 a0_2), (i64 a0_3)], .bx b4 ([(i64 (0 : Int)), (i64 (0 : Int)), (i64 (0 : Int)), (i64 (0 : Int)), (i64 (0 : Int))] ++ (eI .i64 169 (fun _ => 0))), .bx b8 ([(i64 a0_0), (i64 a0_1), (i64 a0_2), (i64 a0_3), (i64 (a0_0 + (1 : Int)))] ++ (eI .i64 169 x69.2))] ∧ T.get 1 = some (.ptr (some (b1, 0))) ∧ T.get 2 = some (.ptr (some (b4, 0))) ∧ T.get 3 = some (.ptr (some (b8, 0))) ∧ T.get 4 = some (i64 x69.1)) (fun y e a σ => e = .exit 0 ∧ a.nt = 65 ∧ ∃ (F127 : PH), a.defers = [] ∧ PH.le F0 F127 ∧ St n0 h0 F0 F127 σ.h σ.nx [.bx b1 [(i64 a0_0), (i64 a0_1), (i64 a0_2), (i64 a0_3)], .bx b4 ([(i64 (0 : Int)), (i64 (0 : Int)), (i64 (0 : Int)), (i64 (0 : Int)), (i64 (0 : Int))] ++ (eI .i64 169 (fun _ => 0))), .bx b8 ([(i64 a0_0), (i64 a0_1), (i64 a0_2), (i64 a0_3), (i64 (a0_0 + (1 : Int)))] ++ (eI .i64 169 y))] ∧ a.tmps.get 1 = some (.ptr (some (b1, 0))) ∧ a.tmps.get 2 = some (.ptr (some (b4, 0))) ∧ a.tmps.get 3 = some (.ptr (some (b8, 0)))) (fun x69 T ds70 h nx s hp hF => ?_) N _ y126 _ _ _ _ hy ⟨F0, rfl, (PH.le.refl _), st, gA, gA, gA, gA⟩ (fun e a σ hne hq => ?_)
  · obtain ⟨F70, rfl, le70, st, t1, t2, t3, t4⟩ := hp; unfold sf97_L2 at hF; unfold L97w1; refine w_seq ?_; refine w_seq ?_; refine w_reg ?_; refine v_move ?_; refine v_fa ?_; refine v_ld1 (st.at (i := 0) rfl).2.2 rfl ?_; refine v_leq ?_; refine r_nil ?_; refine th_n ?_; refine v_cond (fun hb128 => ?_) (fun hb128 => ?_)
    · have hF := bif_t hb128 hF; refine w_skip ?_; refine th_n ?_; refine w_seq ?_; refine w_block ?_; refine w_seq ?_; refine w_reg ?_; refine v_move ?_; refine v_move ?_; refine r_nil ?_; refine th_n ?_; refine w_block ?_; obtain ⟨y163, hy, hF⟩ := bnd_some hF; refine v_loopD (sf97_L1 a0_0 a0_2 a0_3 x69) (fun x146 T ds147 h nx => ∃ (F147 : PH), ds147 = [] ∧ PH.le F70 F147 ∧ St n0 h0 F0 F147 h nx [.bx b1 [(i64 a0_0), (i64 a0_1), (i64 a0_2), (i64 a0_3)], .bx b4 ([(i64 (0 : Int)), (i64 (0 : Int)), (i64 (0 : Int)), (i64 (0 : Int)), (i64 (0 : Int))] ++ (eI .i64 169 (fun _ => 0))), .bx b8 ([(i64 a0_0), (i64 a0_1), (i64 a0_2), (i64 a0_3), (i64 (a0_0 + (1 : Int)))] ++ (eI .i64 169 x146.2))] ∧ T.get 1 = some (.ptr (some (b1, 0))) ∧ T.get 2 = some (.ptr (some (b4, 0))) ∧ T.get 3 = some (.ptr (some (b8, 0))) ∧ T.get 4 = some (i64 x69.1) ∧ T.get 5 = some (i64 x146.1)) (fun y e a σ => e = .exit 2 ∧ a.nt = 65 ∧ ∃ (F164 : PH), a.defers = [] ∧ PH.le F70 F164 ∧ St n0 h0 F0 F164 σ.h σ.nx [.bx b1 [(i64 a0_0), (i64 a0_1), (i64 a0_2), (i64 a0_3)], .bx b4 ([(i64 (0 : Int)), (i64 (0 : Int)), (i64 (0 : Int)), (i64 (0 : Int)), (i64 (0 : Int))] ++ (eI .i64 169 (fun _ => 0))), .bx b8 ([(i64 a0_0), (i64 a0_1), (i64 a0_2), (i64 a0_3), (i64 (a0_0 + (1 : Int)))] ++ (eI .i64 169 y))] ∧ a.tmps.get 1 = some (.ptr (some (b1, 0))) ∧ a.tmps.get 2 = some (.ptr (some (b4, 0))) ∧ a.tmps.get 3 = some (.ptr (some (b8, 0))) ∧ a.tmps.get 4 = some (i64 x69.1)) (fun x146 T ds147 h nx s hp hF => ?_) N _ y163 _ _ _ _ hy ⟨F70, rfl, (PH.le.refl _), st, gA, gA, gA, gA, gA⟩ (fun e a σ hne hq => ?_)
      · obtain ⟨F147, rfl, le147, st, t1, t2, t3, t4, t5⟩ := hp
        have le148 := PH.le.trans le70 le147
        unfold sf97_L1 at hF; unfold L97w0; refine w_seq ?_; refine w_seq ?_; refine w_reg ?_; refine v_move ?_; refine v_fa ?_; refine v_ld1 (st.at (i := 0) rfl).2.2 rfl ?_; refine v_leq ?_; refine r_nil ?_; refine th_n ?_; refine v_cond (fun hb165 => ?_) (fun hb165 => ?_)
        · have hF := bif_t hb165 hF; refine w_skip ?_; refine th_n ?_; refine w_seq ?_; refine w_block ?_; refine w_seq ?_; refine w_drawV (Nat.le_trans hfl st.ext.le) (fun dw => ?_); refine y_end st.d dw rfl (fun h166 ex vs => ?_)
          have st := st.ext1 ex
          refine v_move ?_; refine v_move ?_; refine v_move ?_; refine v_move ?_; obtain ⟨q167, hF⟩ := ck_some hF; refine v_sub q167 ?_; refine v_fa ?_; refine v_fa ?_; refine v_ld1 (st.at (i := 0) rfl).2.2 rfl ?_; obtain ⟨q168, hF⟩ := ck_some hF; refine v_mul q168 ?_; refine v_fa ?_; refine v_fa ?_; obtain ⟨q169, hF⟩ := ck_some hF
          refine v_ixa (j := (Int.toNat x69.1)) (Int.toNat_of_nonneg q169.1).symm (by omega) ?_
          obtain ⟨q170, hF⟩ := ck_some hF
          refine v_ixa (j := (Int.toNat x146.1)) (Int.toNat_of_nonneg q170.1).symm (by omega) ?_
          refine v_st (o := ((5 + (Int.toNat x69.1) * 13) + (Int.toNat x146.1) * 1)) (v := (i64 ((x146.1 - x69.1) * a0_3))) (cs' := ([(i64 a0_0), (i64 a0_1), (i64 a0_2), (i64 a0_3), (i64 (a0_0 + (1 : Int)))] ++ (eI .i64 169 (ups x146.2 (((Int.toNat x69.1) * 13) + (Int.toNat x146.1)) ((x146.1 - x69.1) * a0_3))))) st 2 rfl (ar_set (p := 5) (ix := (((Int.toNat x69.1) * 13) + (Int.toNat x146.1))) [(i64 a0_0), (i64 a0_1), (i64 a0_2), (i64 a0_3), (i64 (a0_0 + (1 : Int)))] rfl (by omega) (by omega)) rfl rfl hfl (fun h171 st => ?_)
          refine r_nil ?_; refine th_n ?_; refine w_drawV (Nat.le_trans hfl st.ext.le) (fun dw => ?_); refine y_end st.d dw rfl (fun h172 ex vs => ?_)
          have st := st.ext1 ex
          refine v_move ?_; refine v_move ?_; refine v_move ?_; refine v_move ?_; obtain ⟨q173, hF⟩ := ck_some hF; refine v_sub q173 ?_; refine v_fa ?_; refine v_fa ?_; refine v_ld1 (st.at (i := 0) rfl).2.2 rfl ?_; obtain ⟨q174, hF⟩ := ck_some hF; refine v_mul q174 ?_; refine v_fa ?_; refine v_fa ?_; obtain ⟨q175, hF⟩ := ck_some hF
          refine v_ixa (j := (Int.toNat x146.1)) (Int.toNat_of_nonneg q175.1).symm (by omega) ?_
          obtain ⟨q176, hF⟩ := ck_some hF
          refine v_ixa (j := (Int.toNat x69.1)) (Int.toNat_of_nonneg q176.1).symm (by omega) ?_
          refine v_st (o := ((5 + (Int.toNat x146.1) * 13) + (Int.toNat x69.1) * 1)) (v := (i64 ((x69.1 - x146.1) * a0_2))) (cs' := ([(i64 a0_0), (i64 a0_1), (i64 a0_2), (i64 a0_3), (i64 (a0_0 + (1 : Int)))] ++ (eI .i64 169 (ups (ups x146.2 (((Int.toNat x69.1) * 13) + (Int.toNat x146.1)) ((x146.1 - x69.1) * a0_3)) (((Int.toNat x146.1) * 13) + (Int.toNat x69.1)) ((x69.1 - x146.1) * a0_2))))) st 2 rfl (ar_set (p := 5) (ix := (((Int.toNat x146.1) * 13) + (Int.toNat x69.1))) [(i64 a0_0), (i64 a0_1), (i64 a0_2), (i64 a0_3), (i64 (a0_0 + (1 : Int)))] rfl (by omega) (by omega)) rfl rfl hfl (fun h177 st => ?_)
          refine r_nil ?_; refine ib_n ?_; refine th_n ?_; refine w_reg ?_; refine v_move ?_; obtain ⟨q178, hF⟩ := ck_some hF; refine v_add q178 ?_; refine v_move ?_; refine r_nil ?_; refine thn ⟨_, (inj hF).symm, rfl, ?_⟩; dsimp only
          exact ⟨F147, rfl, le147, st, gA, gA, gA, gA, gA⟩
        · have hF := bif_f hb165 hF; refine w_exit ?_; refine th_e ?_; refine th_e ?_; refine ⟨_, (inj hF).symm, rfl, rfl, ?_⟩; dsimp only
          exact ⟨F147, rfl, le147, st, gA, gA, gA, gA⟩
      · obtain ⟨N9, T, ds164⟩ := a; obtain ⟨h180, n181⟩ := σ; obtain ⟨rfl, e1, F164, e2, le164, st, t1, t2, t3, t4⟩ := hq
        dsimp only at e1 e2
        subst e1
        subst e2
        dsimp only at st t1 t2 t3 t4
        have le179 := PH.le.trans le70 le164
        refine ib_e ?_; refine ib_n ?_; refine th_n ?_; refine w_reg ?_; refine v_move ?_; obtain ⟨q182, hF⟩ := ck_some hF; refine v_add q182 ?_; refine v_move ?_; refine r_nil ?_; refine thn ⟨_, (inj hF).symm, rfl, ?_⟩; dsimp only
        exact ⟨F164, rfl, le179, st, gA, gA, gA, gA⟩
    · have hF := bif_f hb128 hF; refine w_exit ?_; refine th_e ?_; refine th_e ?_; refine ⟨_, (inj hF).symm, rfl, rfl, ?_⟩; dsimp only
      exact ⟨F70, rfl, le70, st, gA, gA, gA⟩
  · obtain ⟨N9, T, ds127⟩ := a; obtain ⟨h183, n184⟩ := σ; obtain ⟨rfl, e1, F127, e2, le127, st, t1, t2, t3⟩ := hq
    dsimp only at e1 e2
    subst e1
    subst e2
    dsimp only at st t1 t2 t3
    refine ib_e ?_; refine th_n ?_; refine w_seq ?_; refine w_reg ?_; refine v_fa ?_; refine v_fa ?_; refine v_ld1 (st.at (i := 0) rfl).2.2 rfl ?_; refine v_fa ?_; refine v_ld1 (st.at (i := 0) rfl).2.2 rfl ?_; refine v_inl lw100 rfl rfl (fun T hT => ?_)
    have t0 := hT 0 _ rfl
    have t1 := hT 1 _ rfl
    have t2 := hT 2 _ rfl
    have t3 := hT 3 _ rfl
    dsimp only [L100]
    refine w_seq ?_; refine w_reg ?_; refine v_move ?_; refine r_nil ?_; refine th_n ?_; refine w_seq ?_; refine w_seq ?_; refine w_reg ?_; refine v_move ?_; refine v_move ?_; refine v_move ?_; refine v_move ?_; obtain ⟨v186, e187, hF⟩ := bnd_some hF; refine v_call st (ct103 N e187 st.d (all_sub _)  (st.at (i := 2) rfl).2.2) (fun n188 st => ?_); refine v_not ?_; refine r_nil ?_; refine th_n ?_; refine v_cond (fun hb189 => ?_) (fun hb189 => ?_)
    · have hF := bif_t hb189 hF; refine w_seq ?_; refine w_reg ?_; refine v_move ?_; refine r_nil ?_; refine th_n ?_; refine w_ret ?_; refine th_r ?_; refine inl_end (v := (.bool false)) (Res.t gA Res.nil) rfl (.inl rfl) (ik ?_); refine r_nil ?_; refine th_n ?_; refine w_seq ?_; refine w_reg ?_; refine v_fa ?_; refine v_fa ?_; refine v_ld1 (st.at (i := 0) rfl).2.2 rfl ?_; refine v_fa ?_; refine v_ld1 (st.at (i := 0) rfl).2.2 rfl ?_; obtain ⟨q190, hF⟩ := ck_some hF; refine v_neg q190 ?_; refine v_inl lw100 rfl rfl (fun T hT => ?_)
      have t0 := hT 0 _ rfl
      have t1 := hT 1 _ rfl
      have t2 := hT 2 _ rfl
      have t3 := hT 3 _ rfl
      dsimp only [L100]
      refine w_seq ?_; refine w_reg ?_; refine v_move ?_; refine r_nil ?_; refine th_n ?_; refine w_seq ?_; refine w_seq ?_; refine w_reg ?_; refine v_move ?_; refine v_move ?_; refine v_move ?_; refine v_move ?_; obtain ⟨v192, e193, hF⟩ := bnd_some hF; refine v_call st (ct103 N e193 st.d (all_sub _)  (st.at (i := 2) rfl).2.2) (fun n194 st => ?_); refine v_not ?_; refine r_nil ?_; refine th_n ?_; refine v_cond (fun hb195 => ?_) (fun hb195 => ?_)
      · have hF := bif_t hb195 hF; refine w_seq ?_; refine w_reg ?_; refine v_move ?_; refine r_nil ?_; refine th_n ?_; refine w_ret ?_; refine th_r ?_; refine inl_end (v := (.bool false)) (Res.t gA Res.nil) rfl (.inl rfl) (ik ?_); refine r_nil ?_; refine th_n ?_; refine w_seq ?_; refine w_reg ?_; refine v_ldn (vs := ([(i64 a0_0), (i64 a0_1), (i64 a0_2), (i64 a0_3), (i64 (a0_0 + (1 : Int)))] ++ (eI .i64 169 y126))) (st.at (i := 2) rfl).2.2 (tk_tail (E := (eI .i64 169 y126)) [] [(i64 a0_0), (i64 a0_1), (i64 a0_2), (i64 a0_3), (i64 (a0_0 + (1 : Int)))] rfl eI_len rfl) ?_
        refine v_st (v := (.agg ([(i64 a0_0), (i64 a0_1), (i64 a0_2), (i64 a0_3), (i64 (a0_0 + (1 : Int)))] ++ (eI .i64 169 y126)))) (cs' := ([(i64 a0_0), (i64 a0_1), (i64 a0_2), (i64 a0_3), (i64 (a0_0 + (1 : Int)))] ++ (eI .i64 169 y126))) st 1 rfl (ov_tail (q := ([(i64 (0 : Int)), (i64 (0 : Int)), (i64 (0 : Int)), (i64 (0 : Int)), (i64 (0 : Int))] ++ (eI .i64 169 (fun _ => 0)))) (r := ([(i64 a0_0), (i64 a0_1), (i64 a0_2), (i64 a0_3), (i64 (a0_0 + (1 : Int)))] ++ (eI .i64 169 y126))) [] rfl (by simp [eI_len, eB_len])) (len_tail (E := (eI .i64 169 y126)) [(i64 a0_0), (i64 a0_1), (i64 a0_2), (i64 a0_3), (i64 (a0_0 + (1 : Int)))] eI_len rfl) (one_tail (E := (eI .i64 169 y126)) [(i64 a0_0), (i64 a0_1), (i64 a0_2), (i64 a0_3), (i64 (a0_0 + (1 : Int)))] rfl eI_one) hfl (fun h196 st => ?_)
        refine r_nil ?_; refine th_n ?_; refine w_ret ?_; obtain rfl := inj hF
        exact end_s st (Res.c gA (st.at (i := 1) rfl).2.2 (show takeN _ _ = some ([(i64 a0_0), (i64 a0_1), (i64 a0_2), (i64 a0_3), (i64 (a0_0 + (1 : Int)))] ++ (eI .i64 169 y126)) from (tk_tail (E := (eI .i64 169 y126)) [] [(i64 a0_0), (i64 a0_1), (i64 a0_2), (i64 a0_3), (i64 (a0_0 + (1 : Int)))] rfl eI_len rfl)) Res.nil) rfl rfl
      · have hF := bif_f hb195 hF; refine w_skip ?_; refine th_n ?_; refine w_seq ?_; refine w_seq ?_; refine w_reg ?_; refine v_move ?_; refine v_nc ?_; refine v_fa ?_; refine v_ld1 (st.at (i := 2) rfl).2.2 rfl ?_; refine v_move ?_; refine r_nil ?_; refine th_n ?_; refine w_block ?_; obtain ⟨y321, hy, hF⟩ := bnd_some hF; refine v_loopD (sf97_L4 N a0_0 a0_1) (fun x259 T ds260 h nx => ∃ (F260 : PH), ds260 = [] ∧ PH.le F127 F260 ∧ St n0 h0 F0 F260 h nx [.bx b1 [(i64 a0_0), (i64 a0_1), (i64 a0_2), (i64 a0_3)], .bx b4 ([(i64 (0 : Int)), (i64 (0 : Int)), (i64 (0 : Int)), (i64 (0 : Int)), (i64 (0 : Int))] ++ (eI .i64 169 (fun _ => 0))), .bx b8 ([(i64 a0_0), (i64 a0_1), (i64 a0_2), (i64 a0_3), (i64 (a0_0 + (1 : Int)))] ++ (eI .i64 169 x259.2))] ∧ T.get 0 = some (.ptr (some (b8, 4))) ∧ T.get 1 = some (i64 a0_0) ∧ T.get 2 = some (i64 (0 : Int)) ∧ T.get 3 = some (i64 (-a0_1)) ∧ T.get 22 = some (i64 (a0_0 + (1 : Int))) ∧ T.get 23 = some (i64 x259.1)) (fun y e a σ => e = .exit 0 ∧ a.nt = 83 ∧ ∃ (F322 : PH), a.defers = [] ∧ PH.le F127 F322 ∧ St n0 h0 F0 F322 σ.h σ.nx [.bx b1 [(i64 a0_0), (i64 a0_1), (i64 a0_2), (i64 a0_3)], .bx b4 ([(i64 (0 : Int)), (i64 (0 : Int)), (i64 (0 : Int)), (i64 (0 : Int)), (i64 (0 : Int))] ++ (eI .i64 169 (fun _ => 0))), .bx b8 ([(i64 a0_0), (i64 a0_1), (i64 a0_2), (i64 a0_3), (i64 (a0_0 + (1 : Int)))] ++ (eI .i64 169 y))]) (fun x259 T ds260 h nx s hp hF => ?_) N _ y321 _ _ _ _ hy ⟨F127, rfl, (PH.le.refl _), st, gA, gA, gA, gA, gA, gA⟩ (fun e a σ hne hq => ?_)
        · obtain ⟨F260, rfl, le260, st, t0, t1, t2, t3, t22, t23⟩ := hp
          have le261 := PH.le.trans le127 le260
          unfold sf97_L4 at hF; unfold L100w1; refine w_seq ?_; refine w_reg ?_; refine v_lss ?_; refine r_nil ?_; refine th_n ?_; refine w_seq ?_; refine v_cond (fun hb323 => ?_) (fun hb323 => ?_)
          · have hF := bif_t hb323 hF; refine w_skip ?_; refine th_n ?_; refine w_seq ?_; refine w_block ?_; refine w_seq ?_; refine w_reg ?_; refine v_move ?_; refine v_move ?_; refine r_nil ?_; refine th_n ?_; refine w_seq ?_; refine w_reg ?_; refine v_move ?_; refine v_move ?_; refine v_move ?_; refine v_nc ?_; refine v_fa ?_; obtain ⟨q324, hF⟩ := ck_some hF
            refine v_ixa (j := (Int.toNat x259.1)) (Int.toNat_of_nonneg q324.1).symm (by omega) ?_
            obtain ⟨q325, hF⟩ := ck_some hF
            refine v_ixa (j := (Int.toNat a0_0)) (Int.toNat_of_nonneg q325.1).symm (by omega) ?_
            refine v_ld1 (o := ((5 + (Int.toNat x259.1) * 13) + (Int.toNat a0_0) * 1)) (st.at (i := 2) rfl).2.2 (ar_get (p := 5) (ix := (((Int.toNat x259.1) * 13) + (Int.toNat a0_0))) [(i64 a0_0), (i64 a0_1), (i64 a0_2), (i64 a0_3), (i64 (a0_0 + (1 : Int)))] rfl (by omega) (by omega)) ?_
            refine v_move ?_; obtain ⟨q326, hF⟩ := ck_some hF; refine v_add q326 ?_; refine v_move ?_; refine r_nil ?_; refine th_n ?_; refine w_seq ?_; refine w_seq ?_; refine w_reg ?_; refine v_move ?_; refine v_move ?_; refine v_move ?_; refine v_move ?_; refine v_nc ?_; refine v_fa ?_; obtain ⟨q327, hF⟩ := ck_some hF
            refine v_ixa (j := (Int.toNat x259.1)) (Int.toNat_of_nonneg q327.1).symm (by omega) ?_
            obtain ⟨q328, hF⟩ := ck_some hF
            refine v_ixa (j := (Int.toNat (0 : Int))) (Int.toNat_of_nonneg q328.1).symm (by omega) ?_
            refine v_ld1 (o := ((5 + (Int.toNat x259.1) * 13) + (Int.toNat (0 : Int)) * 1)) (st.at (i := 2) rfl).2.2 (ar_get (p := 5) (ix := (((Int.toNat x259.1) * 13) + (Int.toNat (0 : Int)))) [(i64 a0_0), (i64 a0_1), (i64 a0_2), (i64 a0_3), (i64 (a0_0 + (1 : Int)))] rfl (by omega) (by omega)) ?_
            refine v_geq ?_; refine r_nil ?_; refine th_n ?_; refine v_cond (fun hb329 => ?_) (fun hb329 => ?_)
            · have hF := bif_t hb329 hF; refine w_exit ?_; refine th_e ?_; refine ib_e ?_; refine th_n ?_; refine w_reg ?_; obtain ⟨q330, hF⟩ := ck_some hF; refine v_add q330 ?_; refine v_move ?_; refine r_nil ?_; refine thn ⟨_, (inj hF).symm, rfl, ?_⟩; dsimp only
              exact ⟨F260, rfl, le260, st, gA, gA, gA, gA, gA, gA⟩
            · have hF := bif_f hb329 hF; refine w_skip ?_; refine th_n ?_; refine w_seq ?_; refine w_reg ?_; refine v_move ?_; refine v_nc ?_; refine v_fa ?_; refine v_ld1 (st.at (i := 2) rfl).2.2 rfl ?_; refine v_move ?_; refine r_nil ?_; refine th_n ?_; refine w_block ?_; obtain ⟨y363, hy, hF⟩ := bnd_some hF; refine v_loopD (sf97_L3 a0_0 a0_1 x259) (fun x347 T ds348 h nx => ∃ (F348 : PH), ds348 = [] ∧ PH.le F260 F348 ∧ St n0 h0 F0 F348 h nx [.bx b1 [(i64 a0_0), (i64 a0_1), (i64 a0_2), (i64 a0_3)], .bx b4 ([(i64 (0 : Int)), (i64 (0 : Int)), (i64 (0 : Int)), (i64 (0 : Int)), (i64 (0 : Int))] ++ (eI .i64 169 (fun _ => 0))), .bx b8 ([(i64 a0_0), (i64 a0_1), (i64 a0_2), (i64 a0_3), (i64 (a0_0 + (1 : Int)))] ++ (eI .i64 169 x347.2))] ∧ T.get 0 = some (.ptr (some (b8, 4))) ∧ T.get 1 = some (i64 a0_0) ∧ T.get 2 = some (i64 (0 : Int)) ∧ T.get 3 = some (i64 (-a0_1)) ∧ T.get 9 = some (i64 x259.1) ∧ T.get 10 = some (i64 ((x259.2 (((Int.toNat x259.1) * 13) + (Int.toNat a0_0))) + (-a0_1))) ∧ T.get 22 = some (i64 (a0_0 + (1 : Int))) ∧ T.get 23 = some (i64 x259.1) ∧ T.get 49 = some (i64 (a0_0 + (1 : Int))) ∧ T.get 50 = some (i64 x347.1)) (fun y e a σ => e = .exit 2 ∧ a.nt = 83 ∧ ∃ (F364 : PH), a.defers = [] ∧ PH.le F260 F364 ∧ St n0 h0 F0 F364 σ.h σ.nx [.bx b1 [(i64 a0_0), (i64 a0_1), (i64 a0_2), (i64 a0_3)], .bx b4 ([(i64 (0 : Int)), (i64 (0 : Int)), (i64 (0 : Int)), (i64 (0 : Int)), (i64 (0 : Int))] ++ (eI .i64 169 (fun _ => 0))), .bx b8 ([(i64 a0_0), (i64 a0_1), (i64 a0_2), (i64 a0_3), (i64 (a0_0 + (1 : Int)))] ++ (eI .i64 169 y))] ∧ a.tmps.get 0 = some (.ptr (some (b8, 4))) ∧ a.tmps.get 1 = some (i64 a0_0) ∧ a.tmps.get 2 = some (i64 (0 : Int)) ∧ a.tmps.get 3 = some (i64 (-a0_1)) ∧ a.tmps.get 22 = some (i64 (a0_0 + (1 : Int))) ∧ a.tmps.get 23 = some (i64 x259.1)) (fun x347 T ds348 h nx s hp hF => ?_) N _ y363 _ _ _ _ hy ⟨F260, rfl, (PH.le.refl _), st, gA, gA, gA, gA, gA, gA, gA, gA, gA, gA⟩ (fun e a σ hne hq => ?_)
              · obtain ⟨F348, rfl, le348, st, t0, t1, t2, t3, t9, t10, t22, t23, t49, t50⟩ := hp
                have le349 := PH.le.trans le261 le348
                have le350 := PH.le.trans le260 le348
                unfold sf97_L3 at hF; unfold L100w0; refine w_seq ?_; refine w_reg ?_; refine v_lss ?_; refine r_nil ?_; refine th_n ?_; refine w_seq ?_; refine v_cond (fun hb365 => ?_) (fun hb365 => ?_)
                · have hF := bif_t hb365 hF; refine w_skip ?_; refine th_n ?_; refine w_seq ?_; refine w_block ?_; refine w_seq ?_; refine w_reg ?_; refine v_move ?_; refine v_move ?_; refine r_nil ?_; refine th_n ?_; refine w_seq ?_; refine w_reg ?_; refine v_move ?_; refine v_move ?_; refine v_move ?_; refine v_move ?_; refine v_nc ?_; refine v_fa ?_; obtain ⟨q366, hF⟩ := ck_some hF
                  refine v_ixa (j := (Int.toNat (0 : Int))) (Int.toNat_of_nonneg q366.1).symm (by omega) ?_
                  obtain ⟨q367, hF⟩ := ck_some hF
                  refine v_ixa (j := (Int.toNat x347.1)) (Int.toNat_of_nonneg q367.1).symm (by omega) ?_
                  refine v_ld1 (o := ((5 + (Int.toNat (0 : Int)) * 13) + (Int.toNat x347.1) * 1)) (st.at (i := 2) rfl).2.2 (ar_get (p := 5) (ix := (((Int.toNat (0 : Int)) * 13) + (Int.toNat x347.1))) [(i64 a0_0), (i64 a0_1), (i64 a0_2), (i64 a0_3), (i64 (a0_0 + (1 : Int)))] rfl (by omega) (by omega)) ?_
                  obtain ⟨q368, hF⟩ := ck_some hF; refine v_add q368 ?_; refine v_move ?_; refine r_nil ?_; refine th_n ?_; refine w_seq ?_; refine w_reg ?_; refine v_move ?_; refine v_move ?_; refine v_move ?_; refine v_move ?_; refine v_nc ?_; refine v_fa ?_; obtain ⟨q369, hF⟩ := ck_some hF
                  refine v_ixa (j := (Int.toNat x259.1)) (Int.toNat_of_nonneg q369.1).symm (by omega) ?_
                  obtain ⟨q370, hF⟩ := ck_some hF
                  refine v_ixa (j := (Int.toNat x347.1)) (Int.toNat_of_nonneg q370.1).symm (by omega) ?_
                  refine v_ld1 (o := ((5 + (Int.toNat x259.1) * 13) + (Int.toNat x347.1) * 1)) (st.at (i := 2) rfl).2.2 (ar_get (p := 5) (ix := (((Int.toNat x259.1) * 13) + (Int.toNat x347.1))) [(i64 a0_0), (i64 a0_1), (i64 a0_2), (i64 a0_3), (i64 (a0_0 + (1 : Int)))] rfl (by omega) (by omega)) ?_
                  refine v_lss ?_; refine r_nil ?_; refine th_n ?_; refine v_cond (fun hb371 => ?_) (fun hb371 => ?_)
                  · have hF := bif_t hb371 hF; refine w_reg ?_; refine v_move ?_; refine v_move ?_; refine v_move ?_; refine v_move ?_; refine v_nc ?_; refine v_fa ?_; obtain ⟨q372, hF⟩ := ck_some hF
                    refine v_ixa (j := (Int.toNat x259.1)) (Int.toNat_of_nonneg q372.1).symm (by omega) ?_
                    obtain ⟨q373, hF⟩ := ck_some hF
                    refine v_ixa (j := (Int.toNat x347.1)) (Int.toNat_of_nonneg q373.1).symm (by omega) ?_
                    refine v_st (o := ((5 + (Int.toNat x259.1) * 13) + (Int.toNat x347.1) * 1)) (v := (i64 (((x259.2 (((Int.toNat x259.1) * 13) + (Int.toNat a0_0))) + (-a0_1)) + (x347.2 (((Int.toNat (0 : Int)) * 13) + (Int.toNat x347.1)))))) (cs' := ([(i64 a0_0), (i64 a0_1), (i64 a0_2), (i64 a0_3), (i64 (a0_0 + (1 : Int)))] ++ (eI .i64 169 (ups x347.2 (((Int.toNat x259.1) * 13) + (Int.toNat x347.1)) (((x259.2 (((Int.toNat x259.1) * 13) + (Int.toNat a0_0))) + (-a0_1)) + (x347.2 (((Int.toNat (0 : Int)) * 13) + (Int.toNat x347.1)))))))) st 2 rfl (ar_set (p := 5) (ix := (((Int.toNat x259.1) * 13) + (Int.toNat x347.1))) [(i64 a0_0), (i64 a0_1), (i64 a0_2), (i64 a0_3), (i64 (a0_0 + (1 : Int)))] rfl (by omega) (by omega)) rfl rfl hfl (fun h374 st => ?_)
                    refine r_nil ?_; refine ib_n ?_; refine th_n ?_; refine w_reg ?_; obtain ⟨q375, hF⟩ := ck_some hF; refine v_add q375 ?_; refine v_move ?_; refine r_nil ?_; refine thn ⟨_, (inj hF).symm, rfl, ?_⟩; dsimp only
                    exact ⟨F348, rfl, le348, st, gA, gA, gA, gA, gA, gA, gA, gA, gA, gA⟩
                  · have hF := bif_f hb371 hF; refine w_skip ?_; refine ib_n ?_; refine th_n ?_; refine w_reg ?_; obtain ⟨q376, hF⟩ := ck_some hF; refine v_add q376 ?_; refine v_move ?_; refine r_nil ?_; refine thn ⟨_, (inj hF).symm, rfl, ?_⟩; dsimp only
                    exact ⟨F348, rfl, le348, st, gA, gA, gA, gA, gA, gA, gA, gA, gA, gA⟩
                · have hF := bif_f hb365 hF; refine w_exit ?_; refine th_e ?_; refine th_e ?_; refine ⟨_, (inj hF).symm, rfl, rfl, ?_⟩; dsimp only
                  exact ⟨F348, rfl, le348, st, gA, gA, gA, gA, gA, gA⟩
              · obtain ⟨N9, T, ds364⟩ := a; obtain ⟨h379, n380⟩ := σ; obtain ⟨rfl, e1, F364, e2, le364, st, t0, t1, t2, t3, t22, t23⟩ := hq
                dsimp only at e1 e2
                subst e1
                subst e2
                dsimp only at st t0 t1 t2 t3 t22 t23
                have le377 := PH.le.trans le261 le364
                have le378 := PH.le.trans le260 le364
                refine ib_e ?_; refine ib_n ?_; refine th_n ?_; refine w_reg ?_; obtain ⟨q381, hF⟩ := ck_some hF; refine v_add q381 ?_; refine v_move ?_; refine r_nil ?_; refine thn ⟨_, (inj hF).symm, rfl, ?_⟩; dsimp only
                exact ⟨F364, rfl, le378, st, gA, gA, gA, gA, gA, gA⟩
          · have hF := bif_f hb323 hF; refine w_exit ?_; refine th_e ?_; refine th_e ?_; refine ⟨_, (inj hF).symm, rfl, rfl, ?_⟩; dsimp only
            exact ⟨F260, rfl, le260, st⟩
        · obtain ⟨N9, T, ds322⟩ := a; obtain ⟨h383, n384⟩ := σ; obtain ⟨rfl, e1, F322, e2, le322, st⟩ := hq
          dsimp only at e1 e2
          subst e1
          subst e2
          dsimp only at st
          have le382 := PH.le.trans le127 le322
          refine ib_e ?_; refine th_n ?_; refine w_seq ?_; refine w_reg ?_; refine v_move ?_; refine r_nil ?_; refine th_n ?_; refine w_ret ?_; refine inl_end (v := (.bool true)) (Res.t gA Res.nil) rfl (.inl rfl) (ik ?_); refine r_nil ?_; refine th_n ?_; refine w_seq ?_; refine w_reg ?_; refine v_ldn (vs := ([(i64 a0_0), (i64 a0_1), (i64 a0_2), (i64 a0_3), (i64 (a0_0 + (1 : Int)))] ++ (eI .i64 169 y321))) (st.at (i := 2) rfl).2.2 (tk_tail (E := (eI .i64 169 y321)) [] [(i64 a0_0), (i64 a0_1), (i64 a0_2), (i64 a0_3), (i64 (a0_0 + (1 : Int)))] rfl eI_len rfl) ?_
          refine v_st (v := (.agg ([(i64 a0_0), (i64 a0_1), (i64 a0_2), (i64 a0_3), (i64 (a0_0 + (1 : Int)))] ++ (eI .i64 169 y321)))) (cs' := ([(i64 a0_0), (i64 a0_1), (i64 a0_2), (i64 a0_3), (i64 (a0_0 + (1 : Int)))] ++ (eI .i64 169 y321))) st 1 rfl (ov_tail (q := ([(i64 (0 : Int)), (i64 (0 : Int)), (i64 (0 : Int)), (i64 (0 : Int)), (i64 (0 : Int))] ++ (eI .i64 169 (fun _ => 0)))) (r := ([(i64 a0_0), (i64 a0_1), (i64 a0_2), (i64 a0_3), (i64 (a0_0 + (1 : Int)))] ++ (eI .i64 169 y321))) [] rfl (by simp [eI_len, eB_len])) (len_tail (E := (eI .i64 169 y321)) [(i64 a0_0), (i64 a0_1), (i64 a0_2), (i64 a0_3), (i64 (a0_0 + (1 : Int)))] eI_len rfl) (one_tail (E := (eI .i64 169 y321)) [(i64 a0_0), (i64 a0_1), (i64 a0_2), (i64 a0_3), (i64 (a0_0 + (1 : Int)))] rfl eI_one) hfl (fun h385 st => ?_)
          refine r_nil ?_; refine th_n ?_; refine w_ret ?_; obtain rfl := inj hF
          exact end_s st (Res.c gA (st.at (i := 1) rfl).2.2 (show takeN _ _ = some ([(i64 a0_0), (i64 a0_1), (i64 a0_2), (i64 a0_3), (i64 (a0_0 + (1 : Int)))] ++ (eI .i64 169 y321)) from (tk_tail (E := (eI .i64 169 y321)) [] [(i64 a0_0), (i64 a0_1), (i64 a0_2), (i64 a0_3), (i64 (a0_0 + (1 : Int)))] rfl eI_len rfl)) Res.nil) rfl rfl
    · have hF := bif_f hb189 hF; refine w_skip ?_; refine th_n ?_; refine w_seq ?_; refine w_seq ?_; refine w_reg ?_; refine v_move ?_; refine v_nc ?_; refine v_fa ?_; refine v_ld1 (st.at (i := 2) rfl).2.2 rfl ?_; refine v_move ?_; refine r_nil ?_; refine th_n ?_; refine w_block ?_; obtain ⟨y510, hy, hF⟩ := bnd_some hF; refine v_loopD (sf97_L6 N a0_0 a0_1) (fun x448 T ds449 h nx => ∃ (F449 : PH), ds449 = [] ∧ PH.le F127 F449 ∧ St n0 h0 F0 F449 h nx [.bx b1 [(i64 a0_0), (i64 a0_1), (i64 a0_2), (i64 a0_3)], .bx b4 ([(i64 (0 : Int)), (i64 (0 : Int)), (i64 (0 : Int)), (i64 (0 : Int)), (i64 (0 : Int))] ++ (eI .i64 169 (fun _ => 0))), .bx b8 ([(i64 a0_0), (i64 a0_1), (i64 a0_2), (i64 a0_3), (i64 (a0_0 + (1 : Int)))] ++ (eI .i64 169 x448.2))] ∧ T.get 0 = some (.ptr (some (b8, 4))) ∧ T.get 1 = some (i64 (0 : Int)) ∧ T.get 2 = some (i64 a0_0) ∧ T.get 3 = some (i64 a0_1) ∧ T.get 22 = some (i64 (a0_0 + (1 : Int))) ∧ T.get 23 = some (i64 x448.1)) (fun y e a σ => e = .exit 0 ∧ a.nt = 83 ∧ ∃ (F511 : PH), a.defers = [] ∧ PH.le F127 F511 ∧ St n0 h0 F0 F511 σ.h σ.nx [.bx b1 [(i64 a0_0), (i64 a0_1), (i64 a0_2), (i64 a0_3)], .bx b4 ([(i64 (0 : Int)), (i64 (0 : Int)), (i64 (0 : Int)), (i64 (0 : Int)), (i64 (0 : Int))] ++ (eI .i64 169 (fun _ => 0))), .bx b8 ([(i64 a0_0), (i64 a0_1), (i64 a0_2), (i64 a0_3), (i64 (a0_0 + (1 : Int)))] ++ (eI .i64 169 y))]) (fun x448 T ds449 h nx s hp hF => ?_) N _ y510 _ _ _ _ hy ⟨F127, rfl, (PH.le.refl _), st, gA, gA, gA, gA, gA, gA⟩ (fun e a σ hne hq => ?_)
      · obtain ⟨F449, rfl, le449, st, t0, t1, t2, t3, t22, t23⟩ := hp
        have le450 := PH.le.trans le127 le449
        unfold sf97_L6 at hF; unfold L100w1; refine w_seq ?_; refine w_reg ?_; refine v_lss ?_; refine r_nil ?_; refine th_n ?_; refine w_seq ?_; refine v_cond (fun hb512 => ?_) (fun hb512 => ?_)
        · have hF := bif_t hb512 hF; refine w_skip ?_; refine th_n ?_; refine w_seq ?_; refine w_block ?_; refine w_seq ?_; refine w_reg ?_; refine v_move ?_; refine v_move ?_; refine r_nil ?_; refine th_n ?_; refine w_seq ?_; refine w_reg ?_; refine v_move ?_; refine v_move ?_; refine v_move ?_; refine v_nc ?_; refine v_fa ?_; obtain ⟨q513, hF⟩ := ck_some hF
          refine v_ixa (j := (Int.toNat x448.1)) (Int.toNat_of_nonneg q513.1).symm (by omega) ?_
          obtain ⟨q514, hF⟩ := ck_some hF
          refine v_ixa (j := (Int.toNat (0 : Int))) (Int.toNat_of_nonneg q514.1).symm (by omega) ?_
          refine v_ld1 (o := ((5 + (Int.toNat x448.1) * 13) + (Int.toNat (0 : Int)) * 1)) (st.at (i := 2) rfl).2.2 (ar_get (p := 5) (ix := (((Int.toNat x448.1) * 13) + (Int.toNat (0 : Int)))) [(i64 a0_0), (i64 a0_1), (i64 a0_2), (i64 a0_3), (i64 (a0_0 + (1 : Int)))] rfl (by omega) (by omega)) ?_
          refine v_move ?_; obtain ⟨q515, hF⟩ := ck_some hF; refine v_add q515 ?_; refine v_move ?_; refine r_nil ?_; refine th_n ?_; refine w_seq ?_; refine w_seq ?_; refine w_reg ?_; refine v_move ?_; refine v_move ?_; refine v_move ?_; refine v_move ?_; refine v_nc ?_; refine v_fa ?_; obtain ⟨q516, hF⟩ := ck_some hF
          refine v_ixa (j := (Int.toNat x448.1)) (Int.toNat_of_nonneg q516.1).symm (by omega) ?_
          obtain ⟨q517, hF⟩ := ck_some hF
          refine v_ixa (j := (Int.toNat a0_0)) (Int.toNat_of_nonneg q517.1).symm (by omega) ?_
          refine v_ld1 (o := ((5 + (Int.toNat x448.1) * 13) + (Int.toNat a0_0) * 1)) (st.at (i := 2) rfl).2.2 (ar_get (p := 5) (ix := (((Int.toNat x448.1) * 13) + (Int.toNat a0_0))) [(i64 a0_0), (i64 a0_1), (i64 a0_2), (i64 a0_3), (i64 (a0_0 + (1 : Int)))] rfl (by omega) (by omega)) ?_
          refine v_geq ?_; refine r_nil ?_; refine th_n ?_; refine v_cond (fun hb518 => ?_) (fun hb518 => ?_)
          · have hF := bif_t hb518 hF; refine w_exit ?_; refine th_e ?_; refine ib_e ?_; refine th_n ?_; refine w_reg ?_; obtain ⟨q519, hF⟩ := ck_some hF; refine v_add q519 ?_; refine v_move ?_; refine r_nil ?_; refine thn ⟨_, (inj hF).symm, rfl, ?_⟩; dsimp only
            exact ⟨F449, rfl, le449, st, gA, gA, gA, gA, gA, gA⟩
          · have hF := bif_f hb518 hF; refine w_skip ?_; refine th_n ?_; refine w_seq ?_; refine w_reg ?_; refine v_move ?_; refine v_nc ?_; refine v_fa ?_; refine v_ld1 (st.at (i := 2) rfl).2.2 rfl ?_; refine v_move ?_; refine r_nil ?_; refine th_n ?_; refine w_block ?_; obtain ⟨y552, hy, hF⟩ := bnd_some hF; refine v_loopD (sf97_L5 a0_0 a0_1 x448) (fun x536 T ds537 h nx => ∃ (F537 : PH), ds537 = [] ∧ PH.le F449 F537 ∧ St n0 h0 F0 F537 h nx [.bx b1 [(i64 a0_0), (i64 a0_1), (i64 a0_2), (i64 a0_3)], .bx b4 ([(i64 (0 : Int)), (i64 (0 : Int)), (i64 (0 : Int)), (i64 (0 : Int)), (i64 (0 : Int))] ++ (eI .i64 169 (fun _ => 0))), .bx b8 ([(i64 a0_0), (i64 a0_1), (i64 a0_2), (i64 a0_3), (i64 (a0_0 + (1 : Int)))] ++ (eI .i64 169 x536.2))] ∧ T.get 0 = some (.ptr (some (b8, 4))) ∧ T.get 1 = some (i64 (0 : Int)) ∧ T.get 2 = some (i64 a0_0) ∧ T.get 3 = some (i64 a0_1) ∧ T.get 9 = some (i64 x448.1) ∧ T.get 10 = some (i64 ((x448.2 (((Int.toNat x448.1) * 13) + (Int.toNat (0 : Int)))) + a0_1)) ∧ T.get 22 = some (i64 (a0_0 + (1 : Int))) ∧ T.get 23 = some (i64 x448.1) ∧ T.get 49 = some (i64 (a0_0 + (1 : Int))) ∧ T.get 50 = some (i64 x536.1)) (fun y e a σ => e = .exit 2 ∧ a.nt = 83 ∧ ∃ (F553 : PH), a.defers = [] ∧ PH.le F449 F553 ∧ St n0 h0 F0 F553 σ.h σ.nx [.bx b1 [(i64 a0_0), (i64 a0_1), (i64 a0_2), (i64 a0_3)], .bx b4 ([(i64 (0 : Int)), (i64 (0 : Int)), (i64 (0 : Int)), (i64 (0 : Int)), (i64 (0 : Int))] ++ (eI .i64 169 (fun _ => 0))), .bx b8 ([(i64 a0_0), (i64 a0_1), (i64 a0_2), (i64 a0_3), (i64 (a0_0 + (1 : Int)))] ++ (eI .i64 169 y))] ∧ a.tmps.get 0 = some (.ptr (some (b8, 4))) ∧ a.tmps.get 1 = some (i64 (0 : Int)) ∧ a.tmps.get 2 = some (i64 a0_0) ∧ a.tmps.get 3 = some (i64 a0_1) ∧ a.tmps.get 22 = some (i64 (a0_0 + (1 : Int))) ∧ a.tmps.get 23 = some (i64 x448.1)) (fun x536 T ds537 h nx s hp hF => ?_) N _ y552 _ _ _ _ hy ⟨F449, rfl, (PH.le.refl _), st, gA, gA, gA, gA, gA, gA, gA, gA, gA, gA⟩ (fun e a σ hne hq => ?_)
            · obtain ⟨F537, rfl, le537, st, t0, t1, t2, t3, t9, t10, t22, t23, t49, t50⟩ := hp
              have le538 := PH.le.trans le450 le537
              have le539 := PH.le.trans le449 le537
              unfold sf97_L5 at hF; unfold L100w0; refine w_seq ?_; refine w_reg ?_; refine v_lss ?_; refine r_nil ?_; refine th_n ?_; refine w_seq ?_; refine v_cond (fun hb554 => ?_) (fun hb554 => ?_)
              · have hF := bif_t hb554 hF; refine w_skip ?_; refine th_n ?_; refine w_seq ?_; refine w_block ?_; refine w_seq ?_; refine w_reg ?_; refine v_move ?_; refine v_move ?_; refine r_nil ?_; refine th_n ?_; refine w_seq ?_; refine w_reg ?_; refine v_move ?_; refine v_move ?_; refine v_move ?_; refine v_move ?_; refine v_nc ?_; refine v_fa ?_; obtain ⟨q555, hF⟩ := ck_some hF
                refine v_ixa (j := (Int.toNat a0_0)) (Int.toNat_of_nonneg q555.1).symm (by omega) ?_
                obtain ⟨q556, hF⟩ := ck_some hF
                refine v_ixa (j := (Int.toNat x536.1)) (Int.toNat_of_nonneg q556.1).symm (by omega) ?_
                refine v_ld1 (o := ((5 + (Int.toNat a0_0) * 13) + (Int.toNat x536.1) * 1)) (st.at (i := 2) rfl).2.2 (ar_get (p := 5) (ix := (((Int.toNat a0_0) * 13) + (Int.toNat x536.1))) [(i64 a0_0), (i64 a0_1), (i64 a0_2), (i64 a0_3), (i64 (a0_0 + (1 : Int)))] rfl (by omega) (by omega)) ?_
                obtain ⟨q557, hF⟩ := ck_some hF; refine v_add q557 ?_; refine v_move ?_; refine r_nil ?_; refine th_n ?_; refine w_seq ?_; refine w_reg ?_; refine v_move ?_; refine v_move ?_; refine v_move ?_; refine v_move ?_; refine v_nc ?_; refine v_fa ?_; obtain ⟨q558, hF⟩ := ck_some hF
                refine v_ixa (j := (Int.toNat x448.1)) (Int.toNat_of_nonneg q558.1).symm (by omega) ?_
                obtain ⟨q559, hF⟩ := ck_some hF
                refine v_ixa (j := (Int.toNat x536.1)) (Int.toNat_of_nonneg q559.1).symm (by omega) ?_
                refine v_ld1 (o := ((5 + (Int.toNat x448.1) * 13) + (Int.toNat x536.1) * 1)) (st.at (i := 2) rfl).2.2 (ar_get (p := 5) (ix := (((Int.toNat x448.1) * 13) + (Int.toNat x536.1))) [(i64 a0_0), (i64 a0_1), (i64 a0_2), (i64 a0_3), (i64 (a0_0 + (1 : Int)))] rfl (by omega) (by omega)) ?_
                refine v_lss ?_; refine r_nil ?_; refine th_n ?_; refine v_cond (fun hb560 => ?_) (fun hb560 => ?_)
                · have hF := bif_t hb560 hF; refine w_reg ?_; refine v_move ?_; refine v_move ?_; refine v_move ?_; refine v_move ?_; refine v_nc ?_; refine v_fa ?_; obtain ⟨q561, hF⟩ := ck_some hF
                  refine v_ixa (j := (Int.toNat x448.1)) (Int.toNat_of_nonneg q561.1).symm (by omega) ?_
                  obtain ⟨q562, hF⟩ := ck_some hF
                  refine v_ixa (j := (Int.toNat x536.1)) (Int.toNat_of_nonneg q562.1).symm (by omega) ?_
                  refine v_st (o := ((5 + (Int.toNat x448.1) * 13) + (Int.toNat x536.1) * 1)) (v := (i64 (((x448.2 (((Int.toNat x448.1) * 13) + (Int.toNat (0 : Int)))) + a0_1) + (x536.2 (((Int.toNat a0_0) * 13) + (Int.toNat x536.1)))))) (cs' := ([(i64 a0_0), (i64 a0_1), (i64 a0_2), (i64 a0_3), (i64 (a0_0 + (1 : Int)))] ++ (eI .i64 169 (ups x536.2 (((Int.toNat x448.1) * 13) + (Int.toNat x536.1)) (((x448.2 (((Int.toNat x448.1) * 13) + (Int.toNat (0 : Int)))) + a0_1) + (x536.2 (((Int.toNat a0_0) * 13) + (Int.toNat x536.1)))))))) st 2 rfl (ar_set (p := 5) (ix := (((Int.toNat x448.1) * 13) + (Int.toNat x536.1))) [(i64 a0_0), (i64 a0_1), (i64 a0_2), (i64 a0_3), (i64 (a0_0 + (1 : Int)))] rfl (by omega) (by omega)) rfl rfl hfl (fun h563 st => ?_)
                  refine r_nil ?_; refine ib_n ?_; refine th_n ?_; refine w_reg ?_; obtain ⟨q564, hF⟩ := ck_some hF; refine v_add q564 ?_; refine v_move ?_; refine r_nil ?_; refine thn ⟨_, (inj hF).symm, rfl, ?_⟩; dsimp only
                  exact ⟨F537, rfl, le537, st, gA, gA, gA, gA, gA, gA, gA, gA, gA, gA⟩
                · have hF := bif_f hb560 hF; refine w_skip ?_; refine ib_n ?_; refine th_n ?_; refine w_reg ?_; obtain ⟨q565, hF⟩ := ck_some hF; refine v_add q565 ?_; refine v_move ?_; refine r_nil ?_; refine thn ⟨_, (inj hF).symm, rfl, ?_⟩; dsimp only
                  exact ⟨F537, rfl, le537, st, gA, gA, gA, gA, gA, gA, gA, gA, gA, gA⟩
              · have hF := bif_f hb554 hF; refine w_exit ?_; refine th_e ?_; refine th_e ?_; refine ⟨_, (inj hF).symm, rfl, rfl, ?_⟩; dsimp only
                exact ⟨F537, rfl, le537, st, gA, gA, gA, gA, gA, gA⟩
            · obtain ⟨N9, T, ds553⟩ := a; obtain ⟨h568, n569⟩ := σ; obtain ⟨rfl, e1, F553, e2, le553, st, t0, t1, t2, t3, t22, t23⟩ := hq
              dsimp only at e1 e2
              subst e1
              subst e2
              dsimp only at st t0 t1 t2 t3 t22 t23
              have le566 := PH.le.trans le450 le553
              have le567 := PH.le.trans le449 le553
              refine ib_e ?_; refine ib_n ?_; refine th_n ?_; refine w_reg ?_; obtain ⟨q570, hF⟩ := ck_some hF; refine v_add q570 ?_; refine v_move ?_; refine r_nil ?_; refine thn ⟨_, (inj hF).symm, rfl, ?_⟩; dsimp only
              exact ⟨F553, rfl, le567, st, gA, gA, gA, gA, gA, gA⟩
        · have hF := bif_f hb512 hF; refine w_exit ?_; refine th_e ?_; refine th_e ?_; refine ⟨_, (inj hF).symm, rfl, rfl, ?_⟩; dsimp only
          exact ⟨F449, rfl, le449, st⟩
      · obtain ⟨N9, T, ds511⟩ := a; obtain ⟨h572, n573⟩ := σ; obtain ⟨rfl, e1, F511, e2, le511, st⟩ := hq
        dsimp only at e1 e2
        subst e1
        subst e2
        dsimp only at st
        have le571 := PH.le.trans le127 le511
        refine ib_e ?_; refine th_n ?_; refine w_seq ?_; refine w_reg ?_; refine v_move ?_; refine r_nil ?_; refine th_n ?_; refine w_ret ?_; refine inl_end (v := (.bool true)) (Res.t gA Res.nil) rfl (.inl rfl) (ik ?_); refine r_nil ?_; refine th_n ?_; refine w_seq ?_; refine w_reg ?_; refine v_fa ?_; refine v_fa ?_; refine v_ld1 (st.at (i := 0) rfl).2.2 rfl ?_; refine v_fa ?_; refine v_ld1 (st.at (i := 0) rfl).2.2 rfl ?_; obtain ⟨q574, hF⟩ := ck_some hF; refine v_neg q574 ?_; refine v_inl lw100 rfl rfl (fun T hT => ?_)
        have t0 := hT 0 _ rfl
        have t1 := hT 1 _ rfl
        have t2 := hT 2 _ rfl
        have t3 := hT 3 _ rfl
        dsimp only [L100]
        refine w_seq ?_; refine w_reg ?_; refine v_move ?_; refine r_nil ?_; refine th_n ?_; refine w_seq ?_; refine w_seq ?_; refine w_reg ?_; refine v_move ?_; refine v_move ?_; refine v_move ?_; refine v_move ?_; obtain ⟨v576, e577, hF⟩ := bnd_some hF; refine v_call st (ct103 N e577 st.d (all_sub _)  (st.at (i := 2) rfl).2.2) (fun n578 st => ?_); refine v_not ?_; refine r_nil ?_; refine th_n ?_; refine v_cond (fun hb579 => ?_) (fun hb579 => ?_)
        · have hF := bif_t hb579 hF; refine w_seq ?_; refine w_reg ?_; refine v_move ?_; refine r_nil ?_; refine th_n ?_; refine w_ret ?_; refine th_r ?_; refine inl_end (v := (.bool false)) (Res.t gA Res.nil) rfl (.inl rfl) (ik ?_); refine r_nil ?_; refine th_n ?_; refine w_seq ?_; refine w_reg ?_; refine v_ldn (vs := ([(i64 a0_0), (i64 a0_1), (i64 a0_2), (i64 a0_3), (i64 (a0_0 + (1 : Int)))] ++ (eI .i64 169 y510))) (st.at (i := 2) rfl).2.2 (tk_tail (E := (eI .i64 169 y510)) [] [(i64 a0_0), (i64 a0_1), (i64 a0_2), (i64 a0_3), (i64 (a0_0 + (1 : Int)))] rfl eI_len rfl) ?_
          refine v_st (v := (.agg ([(i64 a0_0), (i64 a0_1), (i64 a0_2), (i64 a0_3), (i64 (a0_0 + (1 : Int)))] ++ (eI .i64 169 y510)))) (cs' := ([(i64 a0_0), (i64 a0_1), (i64 a0_2), (i64 a0_3), (i64 (a0_0 + (1 : Int)))] ++ (eI .i64 169 y510))) st 1 rfl (ov_tail (q := ([(i64 (0 : Int)), (i64 (0 : Int)), (i64 (0 : Int)), (i64 (0 : Int)), (i64 (0 : Int))] ++ (eI .i64 169 (fun _ => 0)))) (r := ([(i64 a0_0), (i64 a0_1), (i64 a0_2), (i64 a0_3), (i64 (a0_0 + (1 : Int)))] ++ (eI .i64 169 y510))) [] rfl (by simp [eI_len, eB_len])) (len_tail (E := (eI .i64 169 y510)) [(i64 a0_0), (i64 a0_1), (i64 a0_2), (i64 a0_3), (i64 (a0_0 + (1 : Int)))] eI_len rfl) (one_tail (E := (eI .i64 169 y510)) [(i64 a0_0), (i64 a0_1), (i64 a0_2), (i64 a0_3), (i64 (a0_0 + (1 : Int)))] rfl eI_one) hfl (fun h580 st => ?_)
          refine r_nil ?_; refine th_n ?_; refine w_ret ?_; obtain rfl := inj hF
          exact end_s st (Res.c gA (st.at (i := 1) rfl).2.2 (show takeN _ _ = some ([(i64 a0_0), (i64 a0_1), (i64 a0_2), (i64 a0_3), (i64 (a0_0 + (1 : Int)))] ++ (eI .i64 169 y510)) from (tk_tail (E := (eI .i64 169 y510)) [] [(i64 a0_0), (i64 a0_1), (i64 a0_2), (i64 a0_3), (i64 (a0_0 + (1 : Int)))] rfl eI_len rfl)) Res.nil) rfl rfl
        · have hF := bif_f hb579 hF; refine w_skip ?_; refine th_n ?_; refine w_seq ?_; refine w_seq ?_; refine w_reg ?_; refine v_move ?_; refine v_nc ?_; refine v_fa ?_; refine v_ld1 (st.at (i := 2) rfl).2.2 rfl ?_; refine v_move ?_; refine r_nil ?_; refine th_n ?_; refine w_block ?_; obtain ⟨y713, hy, hF⟩ := bnd_some hF; refine v_loopD (sf97_L8 N a0_0 a0_1) (fun x647 T ds648 h nx => ∃ (F648 : PH), ds648 = [] ∧ PH.le F511 F648 ∧ St n0 h0 F0 F648 h nx [.bx b1 [(i64 a0_0), (i64 a0_1), (i64 a0_2), (i64 a0_3)], .bx b4 ([(i64 (0 : Int)), (i64 (0 : Int)), (i64 (0 : Int)), (i64 (0 : Int)), (i64 (0 : Int))] ++ (eI .i64 169 (fun _ => 0))), .bx b8 ([(i64 a0_0), (i64 a0_1), (i64 a0_2), (i64 a0_3), (i64 (a0_0 + (1 : Int)))] ++ (eI .i64 169 x647.2))] ∧ T.get 0 = some (.ptr (some (b8, 4))) ∧ T.get 1 = some (i64 a0_0) ∧ T.get 2 = some (i64 (0 : Int)) ∧ T.get 3 = some (i64 (-a0_1)) ∧ T.get 22 = some (i64 (a0_0 + (1 : Int))) ∧ T.get 23 = some (i64 x647.1)) (fun y e a σ => e = .exit 0 ∧ a.nt = 83 ∧ ∃ (F714 : PH), a.defers = [] ∧ PH.le F511 F714 ∧ St n0 h0 F0 F714 σ.h σ.nx [.bx b1 [(i64 a0_0), (i64 a0_1), (i64 a0_2), (i64 a0_3)], .bx b4 ([(i64 (0 : Int)), (i64 (0 : Int)), (i64 (0 : Int)), (i64 (0 : Int)), (i64 (0 : Int))] ++ (eI .i64 169 (fun _ => 0))), .bx b8 ([(i64 a0_0), (i64 a0_1), (i64 a0_2), (i64 a0_3), (i64 (a0_0 + (1 : Int)))] ++ (eI .i64 169 y))]) (fun x647 T ds648 h nx s hp hF => ?_) N _ y713 _ _ _ _ hy ⟨F511, rfl, (PH.le.refl _), st, gA, gA, gA, gA, gA, gA⟩ (fun e a σ hne hq => ?_)
          · obtain ⟨F648, rfl, le648, st, t0, t1, t2, t3, t22, t23⟩ := hp
            have le649 := PH.le.trans le571 le648
            have le650 := PH.le.trans le511 le648
            unfold sf97_L8 at hF; unfold L100w1; refine w_seq ?_; refine w_reg ?_; refine v_lss ?_; refine r_nil ?_; refine th_n ?_; refine w_seq ?_; refine v_cond (fun hb715 => ?_) (fun hb715 => ?_)
            · have hF := bif_t hb715 hF; refine w_skip ?_; refine th_n ?_; refine w_seq ?_; refine w_block ?_; refine w_seq ?_; refine w_reg ?_; refine v_move ?_; refine v_move ?_; refine r_nil ?_; refine th_n ?_; refine w_seq ?_; refine w_reg ?_; refine v_move ?_; refine v_move ?_; refine v_move ?_; refine v_nc ?_; refine v_fa ?_; obtain ⟨q716, hF⟩ := ck_some hF
              refine v_ixa (j := (Int.toNat x647.1)) (Int.toNat_of_nonneg q716.1).symm (by omega) ?_
              obtain ⟨q717, hF⟩ := ck_some hF
              refine v_ixa (j := (Int.toNat a0_0)) (Int.toNat_of_nonneg q717.1).symm (by omega) ?_
              refine v_ld1 (o := ((5 + (Int.toNat x647.1) * 13) + (Int.toNat a0_0) * 1)) (st.at (i := 2) rfl).2.2 (ar_get (p := 5) (ix := (((Int.toNat x647.1) * 13) + (Int.toNat a0_0))) [(i64 a0_0), (i64 a0_1), (i64 a0_2), (i64 a0_3), (i64 (a0_0 + (1 : Int)))] rfl (by omega) (by omega)) ?_
              refine v_move ?_; obtain ⟨q718, hF⟩ := ck_some hF; refine v_add q718 ?_; refine v_move ?_; refine r_nil ?_; refine th_n ?_; refine w_seq ?_; refine w_seq ?_; refine w_reg ?_; refine v_move ?_; refine v_move ?_; refine v_move ?_; refine v_move ?_; refine v_nc ?_; refine v_fa ?_; obtain ⟨q719, hF⟩ := ck_some hF
              refine v_ixa (j := (Int.toNat x647.1)) (Int.toNat_of_nonneg q719.1).symm (by omega) ?_
              obtain ⟨q720, hF⟩ := ck_some hF
              refine v_ixa (j := (Int.toNat (0 : Int))) (Int.toNat_of_nonneg q720.1).symm (by omega) ?_
              refine v_ld1 (o := ((5 + (Int.toNat x647.1) * 13) + (Int.toNat (0 : Int)) * 1)) (st.at (i := 2) rfl).2.2 (ar_get (p := 5) (ix := (((Int.toNat x647.1) * 13) + (Int.toNat (0 : Int)))) [(i64 a0_0), (i64 a0_1), (i64 a0_2), (i64 a0_3), (i64 (a0_0 + (1 : Int)))] rfl (by omega) (by omega)) ?_
              refine v_geq ?_; refine r_nil ?_; refine th_n ?_; refine v_cond (fun hb721 => ?_) (fun hb721 => ?_)
              · have hF := bif_t hb721 hF; refine w_exit ?_; refine th_e ?_; refine ib_e ?_; refine th_n ?_; refine w_reg ?_; obtain ⟨q722, hF⟩ := ck_some hF; refine v_add q722 ?_; refine v_move ?_; refine r_nil ?_; refine thn ⟨_, (inj hF).symm, rfl, ?_⟩; dsimp only
                exact ⟨F648, rfl, le648, st, gA, gA, gA, gA, gA, gA⟩
              · have hF := bif_f hb721 hF; refine w_skip ?_; refine th_n ?_; refine w_seq ?_; refine w_reg ?_; refine v_move ?_; refine v_nc ?_; refine v_fa ?_; refine v_ld1 (st.at (i := 2) rfl).2.2 rfl ?_; refine v_move ?_; refine r_nil ?_; refine th_n ?_; refine w_block ?_; obtain ⟨y757, hy, hF⟩ := bnd_some hF; refine v_loopD (sf97_L7 a0_0 a0_1 x647) (fun x740 T ds741 h nx => ∃ (F741 : PH), ds741 = [] ∧ PH.le F648 F741 ∧ St n0 h0 F0 F741 h nx [.bx b1 [(i64 a0_0), (i64 a0_1), (i64 a0_2), (i64 a0_3)], .bx b4 ([(i64 (0 : Int)), (i64 (0 : Int)), (i64 (0 : Int)), (i64 (0 : Int)), (i64 (0 : Int))] ++ (eI .i64 169 (fun _ => 0))), .bx b8 ([(i64 a0_0), (i64 a0_1), (i64 a0_2), (i64 a0_3), (i64 (a0_0 + (1 : Int)))] ++ (eI .i64 169 x740.2))] ∧ T.get 0 = some (.ptr (some (b8, 4))) ∧ T.get 1 = some (i64 a0_0) ∧ T.get 2 = some (i64 (0 : Int)) ∧ T.get 3 = some (i64 (-a0_1)) ∧ T.get 9 = some (i64 x647.1) ∧ T.get 10 = some (i64 ((x647.2 (((Int.toNat x647.1) * 13) + (Int.toNat a0_0))) + (-a0_1))) ∧ T.get 22 = some (i64 (a0_0 + (1 : Int))) ∧ T.get 23 = some (i64 x647.1) ∧ T.get 49 = some (i64 (a0_0 + (1 : Int))) ∧ T.get 50 = some (i64 x740.1)) (fun y e a σ => e = .exit 2 ∧ a.nt = 83 ∧ ∃ (F758 : PH), a.defers = [] ∧ PH.le F648 F758 ∧ St n0 h0 F0 F758 σ.h σ.nx [.bx b1 [(i64 a0_0), (i64 a0_1), (i64 a0_2), (i64 a0_3)], .bx b4 ([(i64 (0 : Int)), (i64 (0 : Int)), (i64 (0 : Int)), (i64 (0 : Int)), (i64 (0 : Int))] ++ (eI .i64 169 (fun _ => 0))), .bx b8 ([(i64 a0_0), (i64 a0_1), (i64 a0_2), (i64 a0_3), (i64 (a0_0 + (1 : Int)))] ++ (eI .i64 169 y))] ∧ a.tmps.get 0 = some (.ptr (some (b8, 4))) ∧ a.tmps.get 1 = some (i64 a0_0) ∧ a.tmps.get 2 = some (i64 (0 : Int)) ∧ a.tmps.get 3 = some (i64 (-a0_1)) ∧ a.tmps.get 22 = some (i64 (a0_0 + (1 : Int))) ∧ a.tmps.get 23 = some (i64 x647.1)) (fun x740 T ds741 h nx s hp hF => ?_) N _ y757 _ _ _ _ hy ⟨F648, rfl, (PH.le.refl _), st, gA, gA, gA, gA, gA, gA, gA, gA, gA, gA⟩ (fun e a σ hne hq => ?_)
                · obtain ⟨F741, rfl, le741, st, t0, t1, t2, t3, t9, t10, t22, t23, t49, t50⟩ := hp
                  have le742 := PH.le.trans le649 le741
                  have le743 := PH.le.trans le650 le741
                  have le744 := PH.le.trans le648 le741
                  unfold sf97_L7 at hF; unfold L100w0; refine w_seq ?_; refine w_reg ?_; refine v_lss ?_; refine r_nil ?_; refine th_n ?_; refine w_seq ?_; refine v_cond (fun hb759 => ?_) (fun hb759 => ?_)
                  · have hF := bif_t hb759 hF; refine w_skip ?_; refine th_n ?_; refine w_seq ?_; refine w_block ?_; refine w_seq ?_; refine w_reg ?_; refine v_move ?_; refine v_move ?_; refine r_nil ?_; refine th_n ?_; refine w_seq ?_; refine w_reg ?_; refine v_move ?_; refine v_move ?_; refine v_move ?_; refine v_move ?_; refine v_nc ?_; refine v_fa ?_; obtain ⟨q760, hF⟩ := ck_some hF
                    refine v_ixa (j := (Int.toNat (0 : Int))) (Int.toNat_of_nonneg q760.1).symm (by omega) ?_
                    obtain ⟨q761, hF⟩ := ck_some hF
                    refine v_ixa (j := (Int.toNat x740.1)) (Int.toNat_of_nonneg q761.1).symm (by omega) ?_
                    refine v_ld1 (o := ((5 + (Int.toNat (0 : Int)) * 13) + (Int.toNat x740.1) * 1)) (st.at (i := 2) rfl).2.2 (ar_get (p := 5) (ix := (((Int.toNat (0 : Int)) * 13) + (Int.toNat x740.1))) [(i64 a0_0), (i64 a0_1), (i64 a0_2), (i64 a0_3), (i64 (a0_0 + (1 : Int)))] rfl (by omega) (by omega)) ?_
                    obtain ⟨q762, hF⟩ := ck_some hF; refine v_add q762 ?_; refine v_move ?_; refine r_nil ?_; refine th_n ?_; refine w_seq ?_; refine w_reg ?_; refine v_move ?_; refine v_move ?_; refine v_move ?_; refine v_move ?_; refine v_nc ?_; refine v_fa ?_; obtain ⟨q763, hF⟩ := ck_some hF
                    refine v_ixa (j := (Int.toNat x647.1)) (Int.toNat_of_nonneg q763.1).symm (by omega) ?_
                    obtain ⟨q764, hF⟩ := ck_some hF
                    refine v_ixa (j := (Int.toNat x740.1)) (Int.toNat_of_nonneg q764.1).symm (by omega) ?_
                    refine v_ld1 (o := ((5 + (Int.toNat x647.1) * 13) + (Int.toNat x740.1) * 1)) (st.at (i := 2) rfl).2.2 (ar_get (p := 5) (ix := (((Int.toNat x647.1) * 13) + (Int.toNat x740.1))) [(i64 a0_0), (i64 a0_1), (i64 a0_2), (i64 a0_3), (i64 (a0_0 + (1 : Int)))] rfl (by omega) (by omega)) ?_
                    refine v_lss ?_; refine r_nil ?_; refine th_n ?_; refine v_cond (fun hb765 => ?_) (fun hb765 => ?_)
                    · have hF := bif_t hb765 hF; refine w_reg ?_; refine v_move ?_; refine v_move ?_; refine v_move ?_; refine v_move ?_; refine v_nc ?_; refine v_fa ?_; obtain ⟨q766, hF⟩ := ck_some hF
                      refine v_ixa (j := (Int.toNat x647.1)) (Int.toNat_of_nonneg q766.1).symm (by omega) ?_
                      obtain ⟨q767, hF⟩ := ck_some hF
                      refine v_ixa (j := (Int.toNat x740.1)) (Int.toNat_of_nonneg q767.1).symm (by omega) ?_
                      refine v_st (o := ((5 + (Int.toNat x647.1) * 13) + (Int.toNat x740.1) * 1)) (v := (i64 (((x647.2 (((Int.toNat x647.1) * 13) + (Int.toNat a0_0))) + (-a0_1)) + (x740.2 (((Int.toNat (0 : Int)) * 13) + (Int.toNat x740.1)))))) (cs' := ([(i64 a0_0), (i64 a0_1), (i64 a0_2), (i64 a0_3), (i64 (a0_0 + (1 : Int)))] ++ (eI .i64 169 (ups x740.2 (((Int.toNat x647.1) * 13) + (Int.toNat x740.1)) (((x647.2 (((Int.toNat x647.1) * 13) + (Int.toNat a0_0))) + (-a0_1)) + (x740.2 (((Int.toNat (0 : Int)) * 13) + (Int.toNat x740.1)))))))) st 2 rfl (ar_set (p := 5) (ix := (((Int.toNat x647.1) * 13) + (Int.toNat x740.1))) [(i64 a0_0), (i64 a0_1), (i64 a0_2), (i64 a0_3), (i64 (a0_0 + (1 : Int)))] rfl (by omega) (by omega)) rfl rfl hfl (fun h768 st => ?_)
                      refine r_nil ?_; refine ib_n ?_; refine th_n ?_; refine w_reg ?_; obtain ⟨q769, hF⟩ := ck_some hF; refine v_add q769 ?_; refine v_move ?_; refine r_nil ?_; refine thn ⟨_, (inj hF).symm, rfl, ?_⟩; dsimp only
                      exact ⟨F741, rfl, le741, st, gA, gA, gA, gA, gA, gA, gA, gA, gA, gA⟩
                    · have hF := bif_f hb765 hF; refine w_skip ?_; refine ib_n ?_; refine th_n ?_; refine w_reg ?_; obtain ⟨q770, hF⟩ := ck_some hF; refine v_add q770 ?_; refine v_move ?_; refine r_nil ?_; refine thn ⟨_, (inj hF).symm, rfl, ?_⟩; dsimp only
                      exact ⟨F741, rfl, le741, st, gA, gA, gA, gA, gA, gA, gA, gA, gA, gA⟩
                  · have hF := bif_f hb759 hF; refine w_exit ?_; refine th_e ?_; refine th_e ?_; refine ⟨_, (inj hF).symm, rfl, rfl, ?_⟩; dsimp only
                    exact ⟨F741, rfl, le741, st, gA, gA, gA, gA, gA, gA⟩
                · obtain ⟨N9, T, ds758⟩ := a; obtain ⟨h774, n775⟩ := σ; obtain ⟨rfl, e1, F758, e2, le758, st, t0, t1, t2, t3, t22, t23⟩ := hq
                  dsimp only at e1 e2
                  subst e1
                  subst e2
                  dsimp only at st t0 t1 t2 t3 t22 t23
                  have le771 := PH.le.trans le649 le758
                  have le772 := PH.le.trans le650 le758
                  have le773 := PH.le.trans le648 le758
                  refine ib_e ?_; refine ib_n ?_; refine th_n ?_; refine w_reg ?_; obtain ⟨q776, hF⟩ := ck_some hF; refine v_add q776 ?_; refine v_move ?_; refine r_nil ?_; refine thn ⟨_, (inj hF).symm, rfl, ?_⟩; dsimp only
                  exact ⟨F758, rfl, le773, st, gA, gA, gA, gA, gA, gA⟩
            · have hF := bif_f hb715 hF; refine w_exit ?_; refine th_e ?_; refine th_e ?_; refine ⟨_, (inj hF).symm, rfl, rfl, ?_⟩; dsimp only
              exact ⟨F648, rfl, le648, st⟩
          · obtain ⟨N9, T, ds714⟩ := a; obtain ⟨h779, n780⟩ := σ; obtain ⟨rfl, e1, F714, e2, le714, st⟩ := hq
            dsimp only at e1 e2
            subst e1
            subst e2
            dsimp only at st
            have le777 := PH.le.trans le571 le714
            have le778 := PH.le.trans le511 le714
            refine ib_e ?_; refine th_n ?_; refine w_seq ?_; refine w_reg ?_; refine v_move ?_; refine r_nil ?_; refine th_n ?_; refine w_ret ?_; refine inl_end (v := (.bool true)) (Res.t gA Res.nil) rfl (.inl rfl) (ik ?_); refine r_nil ?_; refine th_n ?_; refine w_seq ?_; refine w_reg ?_; refine v_ldn (vs := ([(i64 a0_0), (i64 a0_1), (i64 a0_2), (i64 a0_3), (i64 (a0_0 + (1 : Int)))] ++ (eI .i64 169 y713))) (st.at (i := 2) rfl).2.2 (tk_tail (E := (eI .i64 169 y713)) [] [(i64 a0_0), (i64 a0_1), (i64 a0_2), (i64 a0_3), (i64 (a0_0 + (1 : Int)))] rfl eI_len rfl) ?_
            refine v_st (v := (.agg ([(i64 a0_0), (i64 a0_1), (i64 a0_2), (i64 a0_3), (i64 (a0_0 + (1 : Int)))] ++ (eI .i64 169 y713)))) (cs' := ([(i64 a0_0), (i64 a0_1), (i64 a0_2), (i64 a0_3), (i64 (a0_0 + (1 : Int)))] ++ (eI .i64 169 y713))) st 1 rfl (ov_tail (q := ([(i64 (0 : Int)), (i64 (0 : Int)), (i64 (0 : Int)), (i64 (0 : Int)), (i64 (0 : Int))] ++ (eI .i64 169 (fun _ => 0)))) (r := ([(i64 a0_0), (i64 a0_1), (i64 a0_2), (i64 a0_3), (i64 (a0_0 + (1 : Int)))] ++ (eI .i64 169 y713))) [] rfl (by simp [eI_len, eB_len])) (len_tail (E := (eI .i64 169 y713)) [(i64 a0_0), (i64 a0_1), (i64 a0_2), (i64 a0_3), (i64 (a0_0 + (1 : Int)))] eI_len rfl) (one_tail (E := (eI .i64 169 y713)) [(i64 a0_0), (i64 a0_1), (i64 a0_2), (i64 a0_3), (i64 (a0_0 + (1 : Int)))] rfl eI_one) hfl (fun h781 st => ?_)
            refine r_nil ?_; refine th_n ?_; refine w_ret ?_; obtain rfl := inj hF
            exact end_s st (Res.c gA (st.at (i := 1) rfl).2.2 (show takeN _ _ = some ([(i64 a0_0), (i64 a0_1), (i64 a0_2), (i64 a0_3), (i64 (a0_0 + (1 : Int)))] ++ (eI .i64 169 y713)) from (tk_tail (E := (eI .i64 169 y713)) [] [(i64 a0_0), (i64 a0_1), (i64 a0_2), (i64 a0_3), (i64 (a0_0 + (1 : Int)))] rfl eI_len rfl)) Res.nil) rfl rfl
end Go.Hx.V

/- Functions of the program come to that. -/
namespace Go.Hx.V
open Go.Hx
set_option linter.unusedVariables false
set_option maxRecDepth 20000
set_option maxHeartbeats 4000000
attribute [local irreducible] W R C thenH inBlockH Tr.get Tr.set lo ck bnd ix iter
theorem ct96 (N : Nat) {a0_0 : Int} {a0_1 : Int} {a0_2 : Int} {a0_3 : Int} {a0_4 : Int} {a0_5 : (Nat → Int)} {a1_0 : Int} {a1_1 : Int} {a1_2 : Int} {a1_3 : Int} {r : (Int × Int × Int × Int × Int × (Nat → Int) × Bool)} (hF : sf96 N a0_0 a0_1 a0_2 a0_3 a0_4 a0_5 a1_0 a1_1 a1_2 a1_3 = some r) {fl : Nat} {h0 : Tr HBlk} {n0 : Nat} {F0 : PH} (hd : D h0 n0) (hs : F0.sub h0) : C LW fl 96 [(.agg ([(i64 a0_0), (i64 a0_1), (i64 a0_2), (i64 a0_3), (i64 a0_4)] ++ (eI .i64 169 a0_5))), (.agg [(i64 a1_0), (i64 a1_1), (i64 a1_2), (i64 a1_3)])] ⟨h0, n0⟩ (KS (.tuple [(.agg ([(i64 r.1), (i64 r.2.1), (i64 r.2.2.1), (i64 r.2.2.2.1), (i64 r.2.2.2.2.1)] ++ (eI .i64 169 r.2.2.2.2.2.1))), (.bool r.2.2.2.2.2.2)]) n0 h0) := by
  unfold sf96 at hF
  refine in_cT hd hs lw96 rfl rfl (by rfl) (fun st T hT => ?_)
  have hfl : n0 ≤ n0 := Nat.le_refl n0
  have t0 := hT 0 _ rfl
  have t1 := hT 1 _ rfl
  dsimp only [L96]
  refine w_seq ?_; refine w_reg ?_; refine v_box st (fun b1 h2 n3 st => ?_); refine v_box st (fun b4 h5 n6 st => ?_); refine v_alloc st (fun b7 h8 n9 st => ?_)
  have st := st.cells 2 rfl ([(i64 (0 : Int)), (i64 (0 : Int)), (i64 (0 : Int)), (i64 (0 : Int)), (i64 (0 : Int))] ++ (eI .i64 169 (fun _ => 0))) rfl
  refine v_move ?_; refine r_nil ?_; refine th_n ?_; refine w_seq ?_; refine w_seq ?_; refine w_reg ?_; refine v_fa ?_; refine v_fa ?_; refine v_ld1 (st.at (i := 1) rfl).2.2 rfl ?_; refine v_fa ?_; refine v_ld1 (st.at (i := 1) rfl).2.2 rfl ?_; refine v_fa ?_; refine v_fa ?_; refine v_ld1 (st.at (i := 1) rfl).2.2 rfl ?_; refine v_inl lw100 rfl rfl (fun T hT => ?_)
  have t0 := hT 0 _ rfl
  have t1 := hT 1 _ rfl
  have t2 := hT 2 _ rfl
  have t3 := hT 3 _ rfl
  dsimp only [L100]
  refine w_seq ?_; refine w_reg ?_; refine v_move ?_; refine r_nil ?_; refine th_n ?_; refine w_seq ?_; refine w_seq ?_; refine w_reg ?_; refine v_move ?_; refine v_move ?_; refine v_move ?_; refine v_move ?_; obtain ⟨v11, e12, hF⟩ := bnd_some hF; refine v_call st (ct103 N e12 st.d (all_sub _)  (st.at (i := 0) rfl).2.2) (fun n13 st => ?_); refine v_not ?_; refine r_nil ?_; refine th_n ?_; refine v_cond (fun hb14 => ?_) (fun hb14 => ?_)
  · have hF := bif_t hb14 hF; refine w_seq ?_; refine w_reg ?_; refine v_move ?_; refine r_nil ?_; refine th_n ?_; refine w_ret ?_; refine th_r ?_; refine inl_end (v := (.bool false)) (Res.t gA Res.nil) rfl (.inl rfl) (ik ?_); refine v_not ?_; refine r_nil ?_; refine th_n ?_; refine v_cond (fun hq15 => ?_) (fun hq15 => ?_)
    · refine w_seq ?_; refine w_reg ?_; refine v_build (cs := ([(i64 (0 : Int)), (i64 (0 : Int)), (i64 (0 : Int)), (i64 (0 : Int)), (i64 (0 : Int))] ++ (eI .i64 169 (fun _ => 0)))) rfl ?_
      refine v_st (v := (.agg ([(i64 (0 : Int)), (i64 (0 : Int)), (i64 (0 : Int)), (i64 (0 : Int)), (i64 (0 : Int))] ++ (eI .i64 169 (fun _ => 0))))) (cs' := ([(i64 (0 : Int)), (i64 (0 : Int)), (i64 (0 : Int)), (i64 (0 : Int)), (i64 (0 : Int))] ++ (eI .i64 169 (fun _ => 0)))) st 2 rfl (ov_tail (q := ([(i64 (0 : Int)), (i64 (0 : Int)), (i64 (0 : Int)), (i64 (0 : Int)), (i64 (0 : Int))] ++ (eI .i64 169 (fun _ => 0)))) (r := ([(i64 (0 : Int)), (i64 (0 : Int)), (i64 (0 : Int)), (i64 (0 : Int)), (i64 (0 : Int))] ++ (eI .i64 169 (fun _ => 0)))) [] rfl (by simp [eI_len, eB_len])) (len_tail (E := (eI .i64 169 (fun _ => 0))) [(i64 (0 : Int)), (i64 (0 : Int)), (i64 (0 : Int)), (i64 (0 : Int)), (i64 (0 : Int))] eI_len rfl) (one_tail (E := (eI .i64 169 (fun _ => 0))) [(i64 (0 : Int)), (i64 (0 : Int)), (i64 (0 : Int)), (i64 (0 : Int)), (i64 (0 : Int))] rfl eI_one) hfl (fun h16 st => ?_)
      refine v_move ?_; refine r_nil ?_; refine th_n ?_; refine w_ret ?_; refine th_r ?_; obtain rfl := inj hF
      exact end_s st (Res.c gA (st.at (i := 2) rfl).2.2 (show takeN _ _ = some ([(i64 (0 : Int)), (i64 (0 : Int)), (i64 (0 : Int)), (i64 (0 : Int)), (i64 (0 : Int))] ++ (eI .i64 169 (fun _ => 0))) from (tk_tail (E := (eI .i64 169 (fun _ => 0))) [] [(i64 (0 : Int)), (i64 (0 : Int)), (i64 (0 : Int)), (i64 (0 : Int)), (i64 (0 : Int))] rfl eI_len rfl)) (Res.t gA Res.nil)) rfl rfl
    · exact absurd hq15 (by rw [(congrArg (!·) rfl)]; decide)
  · have hF := bif_f hb14 hF; refine w_skip ?_; refine th_n ?_; refine w_seq ?_; refine w_seq ?_; refine w_reg ?_; refine v_move ?_; refine v_nc ?_; refine v_fa ?_; refine v_ld1 (st.at (i := 0) rfl).2.2 rfl ?_; refine v_move ?_; refine r_nil ?_; refine th_n ?_; refine w_block ?_; obtain ⟨y133, hy, hF⟩ := bnd_some hF; refine v_loopD (sf96_L2 N a0_4 a1_0 a1_1 a1_3) (fun x75 T ds76 h nx => ∃ (F76 : PH), ds76 = [] ∧ PH.le F0 F76 ∧ St n0 h0 F0 F76 h nx [.bx b1 ([(i64 a0_0), (i64 a0_1), (i64 a0_2), (i64 a0_3), (i64 a0_4)] ++ (eI .i64 169 x75.2)), .bx b4 [(i64 a1_0), (i64 a1_1), (i64 a1_2), (i64 a1_3)], .bx b7 ([(i64 (0 : Int)), (i64 (0 : Int)), (i64 (0 : Int)), (i64 (0 : Int)), (i64 (0 : Int))] ++ (eI .i64 169 (fun _ => 0)))] ∧ T.get 0 = some (.ptr (some (b1, 4))) ∧ T.get 1 = some (i64 a1_0) ∧ T.get 2 = some (i64 a1_1) ∧ T.get 3 = some (i64 a1_3) ∧ T.get 22 = some (i64 a0_4) ∧ T.get 23 = some (i64 x75.1)) (fun y e a σ => e = .exit 0 ∧ a.nt = 83 ∧ ∃ (F134 : PH), a.defers = [] ∧ PH.le F0 F134 ∧ St n0 h0 F0 F134 σ.h σ.nx [.bx b1 ([(i64 a0_0), (i64 a0_1), (i64 a0_2), (i64 a0_3), (i64 a0_4)] ++ (eI .i64 169 y)), .bx b4 [(i64 a1_0), (i64 a1_1), (i64 a1_2), (i64 a1_3)], .bx b7 ([(i64 (0 : Int)), (i64 (0 : Int)), (i64 (0 : Int)), (i64 (0 : Int)), (i64 (0 : Int))] ++ (eI .i64 169 (fun _ => 0)))]) (fun x75 T ds76 h nx s hp hF => ?_) N _ y133 _ _ _ _ hy ⟨F0, rfl, (PH.le.refl _), st, gA, gA, gA, gA, gA, gA⟩ (fun e a σ hne hq => ?_)
    · obtain ⟨F76, rfl, le76, st, t0, t1, t2, t3, t22, t23⟩ := hp; unfold sf96_L2 at hF; unfold L100w1; refine w_seq ?_; refine w_reg ?_; refine v_lss ?_; refine r_nil ?_; refine th_n ?_; refine w_seq ?_; refine v_cond (fun hb135 => ?_) (fun hb135 => ?_)
      · have hF := bif_t hb135 hF; refine w_skip ?_; refine th_n ?_; refine w_seq ?_; refine w_block ?_; refine w_seq ?_; refine w_reg ?_; refine v_move ?_; refine v_move ?_; refine r_nil ?_; refine th_n ?_; refine w_seq ?_; refine w_reg ?_; refine v_move ?_; refine v_move ?_; refine v_move ?_; refine v_nc ?_; refine v_fa ?_; obtain ⟨q136, hF⟩ := ck_some hF
        refine v_ixa (j := (Int.toNat x75.1)) (Int.toNat_of_nonneg q136.1).symm (by omega) ?_
        obtain ⟨q137, hF⟩ := ck_some hF
        refine v_ixa (j := (Int.toNat a1_0)) (Int.toNat_of_nonneg q137.1).symm (by omega) ?_
        refine v_ld1 (o := ((5 + (Int.toNat x75.1) * 13) + (Int.toNat a1_0) * 1)) (st.at (i := 0) rfl).2.2 (ar_get (p := 5) (ix := (((Int.toNat x75.1) * 13) + (Int.toNat a1_0))) [(i64 a0_0), (i64 a0_1), (i64 a0_2), (i64 a0_3), (i64 a0_4)] rfl (by omega) (by omega)) ?_
        refine v_move ?_; obtain ⟨q138, hF⟩ := ck_some hF; refine v_add q138 ?_; refine v_move ?_; refine r_nil ?_; refine th_n ?_; refine w_seq ?_; refine w_seq ?_; refine w_reg ?_; refine v_move ?_; refine v_move ?_; refine v_move ?_; refine v_move ?_; refine v_nc ?_; refine v_fa ?_; obtain ⟨q139, hF⟩ := ck_some hF
        refine v_ixa (j := (Int.toNat x75.1)) (Int.toNat_of_nonneg q139.1).symm (by omega) ?_
        obtain ⟨q140, hF⟩ := ck_some hF
        refine v_ixa (j := (Int.toNat a1_1)) (Int.toNat_of_nonneg q140.1).symm (by omega) ?_
        refine v_ld1 (o := ((5 + (Int.toNat x75.1) * 13) + (Int.toNat a1_1) * 1)) (st.at (i := 0) rfl).2.2 (ar_get (p := 5) (ix := (((Int.toNat x75.1) * 13) + (Int.toNat a1_1))) [(i64 a0_0), (i64 a0_1), (i64 a0_2), (i64 a0_3), (i64 a0_4)] rfl (by omega) (by omega)) ?_
        refine v_geq ?_; refine r_nil ?_; refine th_n ?_; refine v_cond (fun hb141 => ?_) (fun hb141 => ?_)
        · have hF := bif_t hb141 hF; refine w_exit ?_; refine th_e ?_; refine ib_e ?_; refine th_n ?_; refine w_reg ?_; obtain ⟨q142, hF⟩ := ck_some hF; refine v_add q142 ?_; refine v_move ?_; refine r_nil ?_; refine thn ⟨_, (inj hF).symm, rfl, ?_⟩; dsimp only
          exact ⟨F76, rfl, le76, st, gA, gA, gA, gA, gA, gA⟩
        · have hF := bif_f hb141 hF; refine w_skip ?_; refine th_n ?_; refine w_seq ?_; refine w_reg ?_; refine v_move ?_; refine v_nc ?_; refine v_fa ?_; refine v_ld1 (st.at (i := 0) rfl).2.2 rfl ?_; refine v_move ?_; refine r_nil ?_; refine th_n ?_; refine w_block ?_; obtain ⟨y173, hy, hF⟩ := bnd_some hF; refine v_loopD (sf96_L1 a0_4 a1_0 a1_1 a1_3 x75) (fun x158 T ds159 h nx => ∃ (F159 : PH), ds159 = [] ∧ PH.le F76 F159 ∧ St n0 h0 F0 F159 h nx [.bx b1 ([(i64 a0_0), (i64 a0_1), (i64 a0_2), (i64 a0_3), (i64 a0_4)] ++ (eI .i64 169 x158.2)), .bx b4 [(i64 a1_0), (i64 a1_1), (i64 a1_2), (i64 a1_3)], .bx b7 ([(i64 (0 : Int)), (i64 (0 : Int)), (i64 (0 : Int)), (i64 (0 : Int)), (i64 (0 : Int))] ++ (eI .i64 169 (fun _ => 0)))] ∧ T.get 0 = some (.ptr (some (b1, 4))) ∧ T.get 1 = some (i64 a1_0) ∧ T.get 2 = some (i64 a1_1) ∧ T.get 3 = some (i64 a1_3) ∧ T.get 9 = some (i64 x75.1) ∧ T.get 10 = some (i64 ((x75.2 (((Int.toNat x75.1) * 13) + (Int.toNat a1_0))) + a1_3)) ∧ T.get 22 = some (i64 a0_4) ∧ T.get 23 = some (i64 x75.1) ∧ T.get 49 = some (i64 a0_4) ∧ T.get 50 = some (i64 x158.1)) (fun y e a σ => e = .exit 2 ∧ a.nt = 83 ∧ ∃ (F174 : PH), a.defers = [] ∧ PH.le F76 F174 ∧ St n0 h0 F0 F174 σ.h σ.nx [.bx b1 ([(i64 a0_0), (i64 a0_1), (i64 a0_2), (i64 a0_3), (i64 a0_4)] ++ (eI .i64 169 y)), .bx b4 [(i64 a1_0), (i64 a1_1), (i64 a1_2), (i64 a1_3)], .bx b7 ([(i64 (0 : Int)), (i64 (0 : Int)), (i64 (0 : Int)), (i64 (0 : Int)), (i64 (0 : Int))] ++ (eI .i64 169 (fun _ => 0)))] ∧ a.tmps.get 0 = some (.ptr (some (b1, 4))) ∧ a.tmps.get 1 = some (i64 a1_0) ∧ a.tmps.get 2 = some (i64 a1_1) ∧ a.tmps.get 3 = some (i64 a1_3) ∧ a.tmps.get 22 = some (i64 a0_4) ∧ a.tmps.get 23 = some (i64 x75.1)) (fun x158 T ds159 h nx s hp hF => ?_) N _ y173 _ _ _ _ hy ⟨F76, rfl, (PH.le.refl _), st, gA, gA, gA, gA, gA, gA, gA, gA, gA, gA⟩ (fun e a σ hne hq => ?_)
          · obtain ⟨F159, rfl, le159, st, t0, t1, t2, t3, t9, t10, t22, t23, t49, t50⟩ := hp
            have le160 := PH.le.trans le76 le159
            unfold sf96_L1 at hF; unfold L100w0; refine w_seq ?_; refine w_reg ?_; refine v_lss ?_; refine r_nil ?_; refine th_n ?_; refine w_seq ?_; refine v_cond (fun hb175 => ?_) (fun hb175 => ?_)
            · have hF := bif_t hb175 hF; refine w_skip ?_; refine th_n ?_; refine w_seq ?_; refine w_block ?_; refine w_seq ?_; refine w_reg ?_; refine v_move ?_; refine v_move ?_; refine r_nil ?_; refine th_n ?_; refine w_seq ?_; refine w_reg ?_; refine v_move ?_; refine v_move ?_; refine v_move ?_; refine v_move ?_; refine v_nc ?_; refine v_fa ?_; obtain ⟨q176, hF⟩ := ck_some hF
              refine v_ixa (j := (Int.toNat a1_1)) (Int.toNat_of_nonneg q176.1).symm (by omega) ?_
              obtain ⟨q177, hF⟩ := ck_some hF
              refine v_ixa (j := (Int.toNat x158.1)) (Int.toNat_of_nonneg q177.1).symm (by omega) ?_
              refine v_ld1 (o := ((5 + (Int.toNat a1_1) * 13) + (Int.toNat x158.1) * 1)) (st.at (i := 0) rfl).2.2 (ar_get (p := 5) (ix := (((Int.toNat a1_1) * 13) + (Int.toNat x158.1))) [(i64 a0_0), (i64 a0_1), (i64 a0_2), (i64 a0_3), (i64 a0_4)] rfl (by omega) (by omega)) ?_
              obtain ⟨q178, hF⟩ := ck_some hF; refine v_add q178 ?_; refine v_move ?_; refine r_nil ?_; refine th_n ?_; refine w_seq ?_; refine w_reg ?_; refine v_move ?_; refine v_move ?_; refine v_move ?_; refine v_move ?_; refine v_nc ?_; refine v_fa ?_; obtain ⟨q179, hF⟩ := ck_some hF
              refine v_ixa (j := (Int.toNat x75.1)) (Int.toNat_of_nonneg q179.1).symm (by omega) ?_
              obtain ⟨q180, hF⟩ := ck_some hF
              refine v_ixa (j := (Int.toNat x158.1)) (Int.toNat_of_nonneg q180.1).symm (by omega) ?_
              refine v_ld1 (o := ((5 + (Int.toNat x75.1) * 13) + (Int.toNat x158.1) * 1)) (st.at (i := 0) rfl).2.2 (ar_get (p := 5) (ix := (((Int.toNat x75.1) * 13) + (Int.toNat x158.1))) [(i64 a0_0), (i64 a0_1), (i64 a0_2), (i64 a0_3), (i64 a0_4)] rfl (by omega) (by omega)) ?_
              refine v_lss ?_; refine r_nil ?_; refine th_n ?_; refine v_cond (fun hb181 => ?_) (fun hb181 => ?_)
              · have hF := bif_t hb181 hF; refine w_reg ?_; refine v_move ?_; refine v_move ?_; refine v_move ?_; refine v_move ?_; refine v_nc ?_; refine v_fa ?_; obtain ⟨q182, hF⟩ := ck_some hF
                refine v_ixa (j := (Int.toNat x75.1)) (Int.toNat_of_nonneg q182.1).symm (by omega) ?_
                obtain ⟨q183, hF⟩ := ck_some hF
                refine v_ixa (j := (Int.toNat x158.1)) (Int.toNat_of_nonneg q183.1).symm (by omega) ?_
                refine v_st (o := ((5 + (Int.toNat x75.1) * 13) + (Int.toNat x158.1) * 1)) (v := (i64 (((x75.2 (((Int.toNat x75.1) * 13) + (Int.toNat a1_0))) + a1_3) + (x158.2 (((Int.toNat a1_1) * 13) + (Int.toNat x158.1)))))) (cs' := ([(i64 a0_0), (i64 a0_1), (i64 a0_2), (i64 a0_3), (i64 a0_4)] ++ (eI .i64 169 (ups x158.2 (((Int.toNat x75.1) * 13) + (Int.toNat x158.1)) (((x75.2 (((Int.toNat x75.1) * 13) + (Int.toNat a1_0))) + a1_3) + (x158.2 (((Int.toNat a1_1) * 13) + (Int.toNat x158.1)))))))) st 0 rfl (ar_set (p := 5) (ix := (((Int.toNat x75.1) * 13) + (Int.toNat x158.1))) [(i64 a0_0), (i64 a0_1), (i64 a0_2), (i64 a0_3), (i64 a0_4)] rfl (by omega) (by omega)) rfl rfl hfl (fun h184 st => ?_)
                refine r_nil ?_; refine ib_n ?_; refine th_n ?_; refine w_reg ?_; obtain ⟨q185, hF⟩ := ck_some hF; refine v_add q185 ?_; refine v_move ?_; refine r_nil ?_; refine thn ⟨_, (inj hF).symm, rfl, ?_⟩; dsimp only
                exact ⟨F159, rfl, le159, st, gA, gA, gA, gA, gA, gA, gA, gA, gA, gA⟩
              · have hF := bif_f hb181 hF; refine w_skip ?_; refine ib_n ?_; refine th_n ?_; refine w_reg ?_; obtain ⟨q186, hF⟩ := ck_some hF; refine v_add q186 ?_; refine v_move ?_; refine r_nil ?_; refine thn ⟨_, (inj hF).symm, rfl, ?_⟩; dsimp only
                exact ⟨F159, rfl, le159, st, gA, gA, gA, gA, gA, gA, gA, gA, gA, gA⟩
            · have hF := bif_f hb175 hF; refine w_exit ?_; refine th_e ?_; refine th_e ?_; refine ⟨_, (inj hF).symm, rfl, rfl, ?_⟩; dsimp only
              exact ⟨F159, rfl, le159, st, gA, gA, gA, gA, gA, gA⟩
          · obtain ⟨N9, T, ds174⟩ := a; obtain ⟨h188, n189⟩ := σ; obtain ⟨rfl, e1, F174, e2, le174, st, t0, t1, t2, t3, t22, t23⟩ := hq
            dsimp only at e1 e2
            subst e1
            subst e2
            dsimp only at st t0 t1 t2 t3 t22 t23
            have le187 := PH.le.trans le76 le174
            refine ib_e ?_; refine ib_n ?_; refine th_n ?_; refine w_reg ?_; obtain ⟨q190, hF⟩ := ck_some hF; refine v_add q190 ?_; refine v_move ?_; refine r_nil ?_; refine thn ⟨_, (inj hF).symm, rfl, ?_⟩; dsimp only
            exact ⟨F174, rfl, le187, st, gA, gA, gA, gA, gA, gA⟩
      · have hF := bif_f hb135 hF; refine w_exit ?_; refine th_e ?_; refine th_e ?_; refine ⟨_, (inj hF).symm, rfl, rfl, ?_⟩; dsimp only
        exact ⟨F76, rfl, le76, st⟩
    · obtain ⟨N9, T, ds134⟩ := a; obtain ⟨h191, n192⟩ := σ; obtain ⟨rfl, e1, F134, e2, le134, st⟩ := hq
      dsimp only at e1 e2
      subst e1
      subst e2
      dsimp only at st
      refine ib_e ?_; refine th_n ?_; refine w_seq ?_; refine w_reg ?_; refine v_move ?_; refine r_nil ?_; refine th_n ?_; refine w_ret ?_; refine inl_end (v := (.bool true)) (Res.t gA Res.nil) rfl (.inl rfl) (ik ?_); refine v_not ?_; refine r_nil ?_; refine th_n ?_; refine v_cond (fun hq193 => ?_) (fun hq193 => ?_)
      · exact absurd hq193 (by rw [(congrArg (!·) rfl)]; decide)
      · refine w_skip ?_; refine th_n ?_; refine w_seq ?_; obtain ⟨y391, hA392, hF⟩ := bnd_some hF; refine w_cutD (fun T ds394 h nx => ∃ (F394 : PH), ds394 = [] ∧ PH.le F134 F394 ∧ St n0 h0 F0 F394 h nx [.bx b1 ([(i64 a0_0), (i64 a0_1), (i64 a0_2), (i64 a0_3), (i64 a0_4)] ++ (eI .i64 169 y391.2)), .bx b4 [(i64 a1_0), (i64 a1_1), (i64 a1_2), (i64 a1_3)], .bx b7 ([(i64 (0 : Int)), (i64 (0 : Int)), (i64 (0 : Int)), (i64 (0 : Int)), (i64 (0 : Int))] ++ (eI .i64 169 (fun _ => 0)))] ∧ T.get 2 = some (.ptr (some (b1, 0))) ∧ T.get 4 = some (.ptr (some (b7, 0))) ∧ T.get 37 = some (.bool y391.1)) ?_ (fun T ds394 h nx hp => ?_)
        · have hK393 := hF
          have hF := hA392; refine w_reg ?_; refine v_fa ?_; refine v_ld1 (st.at (i := 1) rfl).2.2 rfl ?_; refine v_fa ?_; refine v_fa ?_; refine v_ld1 (st.at (i := 0) rfl).2.2 rfl ?_; refine v_lss ?_; refine v_move ?_
          rcases Bool.eq_false_or_eq_true (decide (a1_1 < a0_0)) with hb395 | hb395
          · have hF := bif_t hb395 hF; refine g_take hb395 (v_fa ?_); refine g_take hb395 (v_fa ?_); refine g_take hb395 (v_ld1 (st.at (i := 1) rfl).2.2 rfl ?_); obtain ⟨q396, hF⟩ := ck_some hF; refine g_take hb395 (v_add q396 ?_); refine g_take hb395 (v_fa ?_); refine g_take hb395 (v_ld1 (st.at (i := 1) rfl).2.2 rfl ?_); refine g_take hb395 (v_fa ?_); refine g_take hb395 (v_fa ?_); refine g_take hb395 (v_ld1 (st.at (i := 1) rfl).2.2 rfl ?_); obtain ⟨q397, hF⟩ := ck_some hF; refine g_take hb395 (v_neg q397 ?_); obtain ⟨q398, hF⟩ := ck_some hF; refine g_take hb395 (v_sub q398 ?_); refine g_take hb395 (v_inl lw100 rfl rfl (fun T hT => ?_))
            have t0 := hT 0 _ rfl
            have t1 := hT 1 _ rfl
            have t2 := hT 2 _ rfl
            have t3 := hT 3 _ rfl
            dsimp only [L100]
            refine w_seq ?_; refine w_reg ?_; refine v_move ?_; refine r_nil ?_; refine th_n ?_; refine w_seq ?_; refine w_seq ?_; refine w_reg ?_; refine v_move ?_; refine v_move ?_; refine v_move ?_; refine v_move ?_; obtain ⟨v400, e401, hF⟩ := bnd_some hF; refine v_call st (ct103 N e401 st.d (all_sub _)  (st.at (i := 0) rfl).2.2) (fun n402 st => ?_); refine v_not ?_; refine r_nil ?_; refine th_n ?_; refine v_cond (fun hb403 => ?_) (fun hb403 => ?_)
            · have hF := bif_t hb403 hF; refine w_seq ?_; refine w_reg ?_; refine v_move ?_; refine r_nil ?_; refine th_n ?_; refine w_ret ?_; refine th_r ?_; refine inl_end (v := (.bool false)) (Res.t gA Res.nil) rfl (.inl rfl) (ik ?_); refine g_take hb395 (v_not ?_); refine v_pick hb395 ?_; refine r_nil ?_; obtain rfl := inj hF; refine thn ⟨rfl, ?_⟩; dsimp only
              exact ⟨F134, rfl, (PH.le.refl _), st, gA, gA, gA⟩
            · have hF := bif_f hb403 hF; refine w_skip ?_; refine th_n ?_; refine w_seq ?_; refine w_seq ?_; refine w_reg ?_; refine v_move ?_; refine v_nc ?_; refine v_fa ?_; refine v_ld1 (st.at (i := 0) rfl).2.2 rfl ?_; refine v_move ?_; refine r_nil ?_; refine th_n ?_; refine w_block ?_; obtain ⟨y528, hy, hF⟩ := bnd_some hF; refine v_loopD (sf96_L4 N a0_4 a1_0 a1_1 a1_2) (fun x466 T ds467 h nx => ∃ (F467 : PH), ds467 = [] ∧ PH.le F134 F467 ∧ St n0 h0 F0 F467 h nx [.bx b1 ([(i64 a0_0), (i64 a0_1), (i64 a0_2), (i64 a0_3), (i64 a0_4)] ++ (eI .i64 169 x466.2)), .bx b4 [(i64 a1_0), (i64 a1_1), (i64 a1_2), (i64 a1_3)], .bx b7 ([(i64 (0 : Int)), (i64 (0 : Int)), (i64 (0 : Int)), (i64 (0 : Int)), (i64 (0 : Int))] ++ (eI .i64 169 (fun _ => 0)))] ∧ T.get 0 = some (.ptr (some (b1, 4))) ∧ T.get 1 = some (i64 (a1_1 + (1 : Int))) ∧ T.get 2 = some (i64 a1_0) ∧ T.get 3 = some (i64 ((-a1_2) - (1 : Int))) ∧ T.get 22 = some (i64 a0_4) ∧ T.get 23 = some (i64 x466.1)) (fun y e a σ => e = .exit 0 ∧ a.nt = 83 ∧ ∃ (F529 : PH), a.defers = [] ∧ PH.le F134 F529 ∧ St n0 h0 F0 F529 σ.h σ.nx [.bx b1 ([(i64 a0_0), (i64 a0_1), (i64 a0_2), (i64 a0_3), (i64 a0_4)] ++ (eI .i64 169 y)), .bx b4 [(i64 a1_0), (i64 a1_1), (i64 a1_2), (i64 a1_3)], .bx b7 ([(i64 (0 : Int)), (i64 (0 : Int)), (i64 (0 : Int)), (i64 (0 : Int)), (i64 (0 : Int))] ++ (eI .i64 169 (fun _ => 0)))]) (fun x466 T ds467 h nx s hp hF => ?_) N _ y528 _ _ _ _ hy ⟨F134, rfl, (PH.le.refl _), st, gA, gA, gA, gA, gA, gA⟩ (fun e a σ hne hq => ?_)
              · obtain ⟨F467, rfl, le467, st, t0, t1, t2, t3, t22, t23⟩ := hp
                have le468 := PH.le.trans le134 le467
                unfold sf96_L4 at hF; unfold L100w1; refine w_seq ?_; refine w_reg ?_; refine v_lss ?_; refine r_nil ?_; refine th_n ?_; refine w_seq ?_; refine v_cond (fun hb530 => ?_) (fun hb530 => ?_)
                · have hF := bif_t hb530 hF; refine w_skip ?_; refine th_n ?_; refine w_seq ?_; refine w_block ?_; refine w_seq ?_; refine w_reg ?_; refine v_move ?_; refine v_move ?_; refine r_nil ?_; refine th_n ?_; refine w_seq ?_; refine w_reg ?_; refine v_move ?_; refine v_move ?_; refine v_move ?_; refine v_nc ?_; refine v_fa ?_; obtain ⟨q531, hF⟩ := ck_some hF
                  refine v_ixa (j := (Int.toNat x466.1)) (Int.toNat_of_nonneg q531.1).symm (by omega) ?_
                  obtain ⟨q532, hF⟩ := ck_some hF
                  refine v_ixa (j := (Int.toNat (a1_1 + (1 : Int)))) (Int.toNat_of_nonneg q532.1).symm (by omega) ?_
                  refine v_ld1 (o := ((5 + (Int.toNat x466.1) * 13) + (Int.toNat (a1_1 + (1 : Int))) * 1)) (st.at (i := 0) rfl).2.2 (ar_get (p := 5) (ix := (((Int.toNat x466.1) * 13) + (Int.toNat (a1_1 + (1 : Int))))) [(i64 a0_0), (i64 a0_1), (i64 a0_2), (i64 a0_3), (i64 a0_4)] rfl (by omega) (by omega)) ?_
                  refine v_move ?_; obtain ⟨q533, hF⟩ := ck_some hF; refine v_add q533 ?_; refine v_move ?_; refine r_nil ?_; refine th_n ?_; refine w_seq ?_; refine w_seq ?_; refine w_reg ?_; refine v_move ?_; refine v_move ?_; refine v_move ?_; refine v_move ?_; refine v_nc ?_; refine v_fa ?_; obtain ⟨q534, hF⟩ := ck_some hF
                  refine v_ixa (j := (Int.toNat x466.1)) (Int.toNat_of_nonneg q534.1).symm (by omega) ?_
                  obtain ⟨q535, hF⟩ := ck_some hF
                  refine v_ixa (j := (Int.toNat a1_0)) (Int.toNat_of_nonneg q535.1).symm (by omega) ?_
                  refine v_ld1 (o := ((5 + (Int.toNat x466.1) * 13) + (Int.toNat a1_0) * 1)) (st.at (i := 0) rfl).2.2 (ar_get (p := 5) (ix := (((Int.toNat x466.1) * 13) + (Int.toNat a1_0))) [(i64 a0_0), (i64 a0_1), (i64 a0_2), (i64 a0_3), (i64 a0_4)] rfl (by omega) (by omega)) ?_
                  refine v_geq ?_; refine r_nil ?_; refine th_n ?_; refine v_cond (fun hb536 => ?_) (fun hb536 => ?_)
                  · have hF := bif_t hb536 hF; refine w_exit ?_; refine th_e ?_; refine ib_e ?_; refine th_n ?_; refine w_reg ?_; obtain ⟨q537, hF⟩ := ck_some hF; refine v_add q537 ?_; refine v_move ?_; refine r_nil ?_; refine thn ⟨_, (inj hF).symm, rfl, ?_⟩; dsimp only
                    exact ⟨F467, rfl, le467, st, gA, gA, gA, gA, gA, gA⟩
                  · have hF := bif_f hb536 hF; refine w_skip ?_; refine th_n ?_; refine w_seq ?_; refine w_reg ?_; refine v_move ?_; refine v_nc ?_; refine v_fa ?_; refine v_ld1 (st.at (i := 0) rfl).2.2 rfl ?_; refine v_move ?_; refine r_nil ?_; refine th_n ?_; refine w_block ?_; obtain ⟨y570, hy, hF⟩ := bnd_some hF; refine v_loopD (sf96_L3 a0_4 a1_0 a1_1 a1_2 x466) (fun x554 T ds555 h nx => ∃ (F555 : PH), ds555 = [] ∧ PH.le F467 F555 ∧ St n0 h0 F0 F555 h nx [.bx b1 ([(i64 a0_0), (i64 a0_1), (i64 a0_2), (i64 a0_3), (i64 a0_4)] ++ (eI .i64 169 x554.2)), .bx b4 [(i64 a1_0), (i64 a1_1), (i64 a1_2), (i64 a1_3)], .bx b7 ([(i64 (0 : Int)), (i64 (0 : Int)), (i64 (0 : Int)), (i64 (0 : Int)), (i64 (0 : Int))] ++ (eI .i64 169 (fun _ => 0)))] ∧ T.get 0 = some (.ptr (some (b1, 4))) ∧ T.get 1 = some (i64 (a1_1 + (1 : Int))) ∧ T.get 2 = some (i64 a1_0) ∧ T.get 3 = some (i64 ((-a1_2) - (1 : Int))) ∧ T.get 9 = some (i64 x466.1) ∧ T.get 10 = some (i64 ((x466.2 (((Int.toNat x466.1) * 13) + (Int.toNat (a1_1 + (1 : Int))))) + ((-a1_2) - (1 : Int)))) ∧ T.get 22 = some (i64 a0_4) ∧ T.get 23 = some (i64 x466.1) ∧ T.get 49 = some (i64 a0_4) ∧ T.get 50 = some (i64 x554.1)) (fun y e a σ => e = .exit 2 ∧ a.nt = 83 ∧ ∃ (F571 : PH), a.defers = [] ∧ PH.le F467 F571 ∧ St n0 h0 F0 F571 σ.h σ.nx [.bx b1 ([(i64 a0_0), (i64 a0_1), (i64 a0_2), (i64 a0_3), (i64 a0_4)] ++ (eI .i64 169 y)), .bx b4 [(i64 a1_0), (i64 a1_1), (i64 a1_2), (i64 a1_3)], .bx b7 ([(i64 (0 : Int)), (i64 (0 : Int)), (i64 (0 : Int)), (i64 (0 : Int)), (i64 (0 : Int))] ++ (eI .i64 169 (fun _ => 0)))] ∧ a.tmps.get 0 = some (.ptr (some (b1, 4))) ∧ a.tmps.get 1 = some (i64 (a1_1 + (1 : Int))) ∧ a.tmps.get 2 = some (i64 a1_0) ∧ a.tmps.get 3 = some (i64 ((-a1_2) - (1 : Int))) ∧ a.tmps.get 22 = some (i64 a0_4) ∧ a.tmps.get 23 = some (i64 x466.1)) (fun x554 T ds555 h nx s hp hF => ?_) N _ y570 _ _ _ _ hy ⟨F467, rfl, (PH.le.refl _), st, gA, gA, gA, gA, gA, gA, gA, gA, gA, gA⟩ (fun e a σ hne hq => ?_)
                    · obtain ⟨F555, rfl, le555, st, t0, t1, t2, t3, t9, t10, t22, t23, t49, t50⟩ := hp
                      have le556 := PH.le.trans le468 le555
                      have le557 := PH.le.trans le467 le555
                      unfold sf96_L3 at hF; unfold L100w0; refine w_seq ?_; refine w_reg ?_; refine v_lss ?_; refine r_nil ?_; refine th_n ?_; refine w_seq ?_; refine v_cond (fun hb572 => ?_) (fun hb572 => ?_)
                      · have hF := bif_t hb572 hF; refine w_skip ?_; refine th_n ?_; refine w_seq ?_; refine w_block ?_; refine w_seq ?_; refine w_reg ?_; refine v_move ?_; refine v_move ?_; refine r_nil ?_; refine th_n ?_; refine w_seq ?_; refine w_reg ?_; refine v_move ?_; refine v_move ?_; refine v_move ?_; refine v_move ?_; refine v_nc ?_; refine v_fa ?_; obtain ⟨q573, hF⟩ := ck_some hF
                        refine v_ixa (j := (Int.toNat a1_0)) (Int.toNat_of_nonneg q573.1).symm (by omega) ?_
                        obtain ⟨q574, hF⟩ := ck_some hF
                        refine v_ixa (j := (Int.toNat x554.1)) (Int.toNat_of_nonneg q574.1).symm (by omega) ?_
                        refine v_ld1 (o := ((5 + (Int.toNat a1_0) * 13) + (Int.toNat x554.1) * 1)) (st.at (i := 0) rfl).2.2 (ar_get (p := 5) (ix := (((Int.toNat a1_0) * 13) + (Int.toNat x554.1))) [(i64 a0_0), (i64 a0_1), (i64 a0_2), (i64 a0_3), (i64 a0_4)] rfl (by omega) (by omega)) ?_
                        obtain ⟨q575, hF⟩ := ck_some hF; refine v_add q575 ?_; refine v_move ?_; refine r_nil ?_; refine th_n ?_; refine w_seq ?_; refine w_reg ?_; refine v_move ?_; refine v_move ?_; refine v_move ?_; refine v_move ?_; refine v_nc ?_; refine v_fa ?_; obtain ⟨q576, hF⟩ := ck_some hF
                        refine v_ixa (j := (Int.toNat x466.1)) (Int.toNat_of_nonneg q576.1).symm (by omega) ?_
                        obtain ⟨q577, hF⟩ := ck_some hF
                        refine v_ixa (j := (Int.toNat x554.1)) (Int.toNat_of_nonneg q577.1).symm (by omega) ?_
                        refine v_ld1 (o := ((5 + (Int.toNat x466.1) * 13) + (Int.toNat x554.1) * 1)) (st.at (i := 0) rfl).2.2 (ar_get (p := 5) (ix := (((Int.toNat x466.1) * 13) + (Int.toNat x554.1))) [(i64 a0_0), (i64 a0_1), (i64 a0_2), (i64 a0_3), (i64 a0_4)] rfl (by omega) (by omega)) ?_
                        refine v_lss ?_; refine r_nil ?_; refine th_n ?_; refine v_cond (fun hb578 => ?_) (fun hb578 => ?_)
                        · have hF := bif_t hb578 hF; refine w_reg ?_; refine v_move ?_; refine v_move ?_; refine v_move ?_; refine v_move ?_; refine v_nc ?_; refine v_fa ?_; obtain ⟨q579, hF⟩ := ck_some hF
                          refine v_ixa (j := (Int.toNat x466.1)) (Int.toNat_of_nonneg q579.1).symm (by omega) ?_
                          obtain ⟨q580, hF⟩ := ck_some hF
                          refine v_ixa (j := (Int.toNat x554.1)) (Int.toNat_of_nonneg q580.1).symm (by omega) ?_
                          refine v_st (o := ((5 + (Int.toNat x466.1) * 13) + (Int.toNat x554.1) * 1)) (v := (i64 (((x466.2 (((Int.toNat x466.1) * 13) + (Int.toNat (a1_1 + (1 : Int))))) + ((-a1_2) - (1 : Int))) + (x554.2 (((Int.toNat a1_0) * 13) + (Int.toNat x554.1)))))) (cs' := ([(i64 a0_0), (i64 a0_1), (i64 a0_2), (i64 a0_3), (i64 a0_4)] ++ (eI .i64 169 (ups x554.2 (((Int.toNat x466.1) * 13) + (Int.toNat x554.1)) (((x466.2 (((Int.toNat x466.1) * 13) + (Int.toNat (a1_1 + (1 : Int))))) + ((-a1_2) - (1 : Int))) + (x554.2 (((Int.toNat a1_0) * 13) + (Int.toNat x554.1)))))))) st 0 rfl (ar_set (p := 5) (ix := (((Int.toNat x466.1) * 13) + (Int.toNat x554.1))) [(i64 a0_0), (i64 a0_1), (i64 a0_2), (i64 a0_3), (i64 a0_4)] rfl (by omega) (by omega)) rfl rfl hfl (fun h581 st => ?_)
                          refine r_nil ?_; refine ib_n ?_; refine th_n ?_; refine w_reg ?_; obtain ⟨q582, hF⟩ := ck_some hF; refine v_add q582 ?_; refine v_move ?_; refine r_nil ?_; refine thn ⟨_, (inj hF).symm, rfl, ?_⟩; dsimp only
                          exact ⟨F555, rfl, le555, st, gA, gA, gA, gA, gA, gA, gA, gA, gA, gA⟩
                        · have hF := bif_f hb578 hF; refine w_skip ?_; refine ib_n ?_; refine th_n ?_; refine w_reg ?_; obtain ⟨q583, hF⟩ := ck_some hF; refine v_add q583 ?_; refine v_move ?_; refine r_nil ?_; refine thn ⟨_, (inj hF).symm, rfl, ?_⟩; dsimp only
                          exact ⟨F555, rfl, le555, st, gA, gA, gA, gA, gA, gA, gA, gA, gA, gA⟩
                      · have hF := bif_f hb572 hF; refine w_exit ?_; refine th_e ?_; refine th_e ?_; refine ⟨_, (inj hF).symm, rfl, rfl, ?_⟩; dsimp only
                        exact ⟨F555, rfl, le555, st, gA, gA, gA, gA, gA, gA⟩
                    · obtain ⟨N9, T, ds571⟩ := a; obtain ⟨h586, n587⟩ := σ; obtain ⟨rfl, e1, F571, e2, le571, st, t0, t1, t2, t3, t22, t23⟩ := hq
                      dsimp only at e1 e2
                      subst e1
                      subst e2
                      dsimp only at st t0 t1 t2 t3 t22 t23
                      have le584 := PH.le.trans le468 le571
                      have le585 := PH.le.trans le467 le571
                      refine ib_e ?_; refine ib_n ?_; refine th_n ?_; refine w_reg ?_; obtain ⟨q588, hF⟩ := ck_some hF; refine v_add q588 ?_; refine v_move ?_; refine r_nil ?_; refine thn ⟨_, (inj hF).symm, rfl, ?_⟩; dsimp only
                      exact ⟨F571, rfl, le585, st, gA, gA, gA, gA, gA, gA⟩
                · have hF := bif_f hb530 hF; refine w_exit ?_; refine th_e ?_; refine th_e ?_; refine ⟨_, (inj hF).symm, rfl, rfl, ?_⟩; dsimp only
                  exact ⟨F467, rfl, le467, st⟩
              · obtain ⟨N9, T, ds529⟩ := a; obtain ⟨h590, n591⟩ := σ; obtain ⟨rfl, e1, F529, e2, le529, st⟩ := hq
                dsimp only at e1 e2
                subst e1
                subst e2
                dsimp only at st
                have le589 := PH.le.trans le134 le529
                refine ib_e ?_; refine th_n ?_; refine w_seq ?_; refine w_reg ?_; refine v_move ?_; refine r_nil ?_; refine th_n ?_; refine w_ret ?_; refine inl_end (v := (.bool true)) (Res.t gA Res.nil) rfl (.inl rfl) (ik ?_); refine g_take hb395 (v_not ?_); refine v_pick hb395 ?_; refine r_nil ?_; obtain rfl := inj hF; refine thn ⟨rfl, ?_⟩; dsimp only
                exact ⟨F529, rfl, le529, st, gA, gA, gA⟩
          · have hF := bif_f hb395 hF; refine g_skip hb395 ?_; refine g_skip hb395 ?_; refine g_skip hb395 ?_; refine g_skip hb395 ?_; refine g_skip hb395 ?_; refine g_skip hb395 ?_; refine g_skip hb395 ?_; refine g_skip hb395 ?_; refine g_skip hb395 ?_; refine g_skip hb395 ?_; refine g_skip hb395 ?_; refine g_skip hb395 ?_; refine g_skip hb395 ?_; refine v_pick' hb395 ?_; refine r_nil ?_; obtain rfl := inj hF; refine thn ⟨rfl, ?_⟩; dsimp only
            exact ⟨F134, rfl, (PH.le.refl _), st, gA, gA, gA⟩
        · obtain ⟨F394, rfl, le394, st, t2, t4, t37⟩ := hp
          have le592 := PH.le.trans le134 le394
          refine v_cond (fun hb593 => ?_) (fun hb593 => ?_)
          · have hF := bif_t hb593 hF; refine w_seq ?_; refine w_reg ?_; refine v_build (cs := ([(i64 (0 : Int)), (i64 (0 : Int)), (i64 (0 : Int)), (i64 (0 : Int)), (i64 (0 : Int))] ++ (eI .i64 169 (fun _ => 0)))) rfl ?_
            refine v_st (v := (.agg ([(i64 (0 : Int)), (i64 (0 : Int)), (i64 (0 : Int)), (i64 (0 : Int)), (i64 (0 : Int))] ++ (eI .i64 169 (fun _ => 0))))) (cs' := ([(i64 (0 : Int)), (i64 (0 : Int)), (i64 (0 : Int)), (i64 (0 : Int)), (i64 (0 : Int))] ++ (eI .i64 169 (fun _ => 0)))) st 2 rfl (ov_tail (q := ([(i64 (0 : Int)), (i64 (0 : Int)), (i64 (0 : Int)), (i64 (0 : Int)), (i64 (0 : Int))] ++ (eI .i64 169 (fun _ => 0)))) (r := ([(i64 (0 : Int)), (i64 (0 : Int)), (i64 (0 : Int)), (i64 (0 : Int)), (i64 (0 : Int))] ++ (eI .i64 169 (fun _ => 0)))) [] rfl (by simp [eI_len, eB_len])) (len_tail (E := (eI .i64 169 (fun _ => 0))) [(i64 (0 : Int)), (i64 (0 : Int)), (i64 (0 : Int)), (i64 (0 : Int)), (i64 (0 : Int))] eI_len rfl) (one_tail (E := (eI .i64 169 (fun _ => 0))) [(i64 (0 : Int)), (i64 (0 : Int)), (i64 (0 : Int)), (i64 (0 : Int)), (i64 (0 : Int))] rfl eI_one) hfl (fun h594 st => ?_)
            refine v_move ?_; refine r_nil ?_; refine th_n ?_; refine w_ret ?_; refine th_r ?_; obtain rfl := inj hF
            exact end_s st (Res.c gA (st.at (i := 2) rfl).2.2 (show takeN _ _ = some ([(i64 (0 : Int)), (i64 (0 : Int)), (i64 (0 : Int)), (i64 (0 : Int)), (i64 (0 : Int))] ++ (eI .i64 169 (fun _ => 0))) from (tk_tail (E := (eI .i64 169 (fun _ => 0))) [] [(i64 (0 : Int)), (i64 (0 : Int)), (i64 (0 : Int)), (i64 (0 : Int)), (i64 (0 : Int))] rfl eI_len rfl)) (Res.t gA Res.nil)) rfl rfl
          · have hF := bif_f hb593 hF; refine w_skip ?_; refine th_n ?_; refine w_seq ?_; refine w_reg ?_; refine v_ldn (vs := ([(i64 a0_0), (i64 a0_1), (i64 a0_2), (i64 a0_3), (i64 a0_4)] ++ (eI .i64 169 y391.2))) (st.at (i := 0) rfl).2.2 (tk_tail (E := (eI .i64 169 y391.2)) [] [(i64 a0_0), (i64 a0_1), (i64 a0_2), (i64 a0_3), (i64 a0_4)] rfl eI_len rfl) ?_
            refine v_st (v := (.agg ([(i64 a0_0), (i64 a0_1), (i64 a0_2), (i64 a0_3), (i64 a0_4)] ++ (eI .i64 169 y391.2)))) (cs' := ([(i64 a0_0), (i64 a0_1), (i64 a0_2), (i64 a0_3), (i64 a0_4)] ++ (eI .i64 169 y391.2))) st 2 rfl (ov_tail (q := ([(i64 (0 : Int)), (i64 (0 : Int)), (i64 (0 : Int)), (i64 (0 : Int)), (i64 (0 : Int))] ++ (eI .i64 169 (fun _ => 0)))) (r := ([(i64 a0_0), (i64 a0_1), (i64 a0_2), (i64 a0_3), (i64 a0_4)] ++ (eI .i64 169 y391.2))) [] rfl (by simp [eI_len, eB_len])) (len_tail (E := (eI .i64 169 y391.2)) [(i64 a0_0), (i64 a0_1), (i64 a0_2), (i64 a0_3), (i64 a0_4)] eI_len rfl) (one_tail (E := (eI .i64 169 y391.2)) [(i64 a0_0), (i64 a0_1), (i64 a0_2), (i64 a0_3), (i64 a0_4)] rfl eI_one) hfl (fun h595 st => ?_)
            refine v_move ?_; refine r_nil ?_; refine th_n ?_; refine w_ret ?_; obtain rfl := inj hF
            exact end_s st (Res.c gA (st.at (i := 2) rfl).2.2 (show takeN _ _ = some ([(i64 a0_0), (i64 a0_1), (i64 a0_2), (i64 a0_3), (i64 a0_4)] ++ (eI .i64 169 y391.2)) from (tk_tail (E := (eI .i64 169 y391.2)) [] [(i64 a0_0), (i64 a0_1), (i64 a0_2), (i64 a0_3), (i64 a0_4)] rfl eI_len rfl)) (Res.t gA Res.nil)) rfl rfl
end Go.Hx.V

