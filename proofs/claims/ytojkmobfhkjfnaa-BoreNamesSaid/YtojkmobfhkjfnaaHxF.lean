/- The plain machine and Go's: addresses, loads, stores, plain arithmetic, parts. -/
import Derived.Test.YtojkmobfhkjfnaaHxE
set_option linter.all false
namespace Go.Hx
variable {P : Program} {base fl : Nat} {a : HAct} {σ σ' : HS} {v : HV} {ρ : Rho} {A : Act} {W : World} {o : Oper}

theorem vr_ptr {ρ : Rho} {b q : Nat} {V : Value} (h : VR ρ (.ptr (some (b, q))) V) : ∃ r, ρ b = some r ∧ V = .pointer (some ⟨r.blk, r.off + q, none⟩) := by
  cases h with
  | ptr h => exact ⟨_, h, rfl⟩
theorem vr_int {ρ : Rho} {k : IntKind} {n : Int} {V : Value} (h : VR ρ (.int k n) V) : V = .int k n := by cases h; rfl
theorem vr_bool {ρ : Rho} {b : Bool} {V : Value} (h : VR ρ (.bool b) V) : V = .bool b := by cases h; rfl
theorem vr_slice {ρ : Rho} {b q l c : Nat} {V : Value} (h : VR ρ (.slice (some (b, q)) l c) V) : ∃ r, ρ b = some r ∧ V = .slice (some ⟨r.blk, r.off + q, none⟩) l (c + r.extra) := by
  cases h with
  | slice h => exact ⟨_, h, rfl⟩
theorem vr_nilslice {ρ : Rho} {l c : Nat} {V : Value} (h : VR ρ (.slice none l c) V) : V = .slice none 0 0 ∧ l = 0 ∧ c = 0 := by
  cases h; exact ⟨rfl, rfl, rfl⟩
theorem vr_map {ρ : Rho} {b : Nat} {V : Value} (h : VR ρ (.map (some b)) V) : ∃ r, ρ b = some r ∧ V = .map (some r.blk) := by
  cases h with
  | map h => exact ⟨_, h, rfl⟩
theorem nat_of {ρ : Rho} {x : HV} {n : Nat} {V : Value} (h : VR ρ x V) (hn : natOf x = some n) : ∃ k, V = .int k (n : Int) := by
  unfold natOf at hn
  split at hn
  · rename_i k m
    cases hn
    rw [vr_int h]
    exact ⟨k, rfl⟩
  · cases hn
theorem blt_lt {a b : Nat} (h : Nat.blt a b = true) : a < b := by rwa [Nat.blt_eq] at h

theorem keep_some {σ σ' : HS} {r : Option HV} {v : HV} (h : keep σ r = some (v, σ')) : r = some v ∧ σ' = σ := by
  unfold keep at h
  split at h
  · cases h; exact ⟨rfl, rfl⟩
  · cases h

theorem op_load {t : TypeId} {x : Operand} {y : Lo} {g : Bool} {n n0 : Nat} (ho : o.op = .load t x) (hg : aggOf P t = some g) (hz : szOf P t = some n0) (hn : n = if g then n0 else 1) (hx : lowX x = some y) (h : oLoad g n y a σ = some (v, σ'))
    (hs : Sim P base σ.h.get ρ W) (ha : AR ρ a A) : HF fl σ.nx σ'.nx σ.h.get σ'.h.get ∧ Does P base fl σ σ' ρ W (execOp A.eval o) v := by
  have h1 := ev_ok ha hx
  obtain ⟨i, hi, hi2⟩ := info_size hz
  unfold oLoad at h
  split at h
  · rename_i p hp
    obtain ⟨b, q⟩ := p
    rw [hp] at h1
    obtain ⟨r, hr, hV⟩ := vr_ptr h1
    split at h
    · rename_i cs hc
      obtain ⟨hw, rfl⟩ := keep_some h
      obtain ⟨r', U, hr', hU, hl, hl', hcell⟩ := sim_read hs hc
      rw [hr] at hr'; cases hr'
      refine ⟨HF.refl _ _ _, ?_⟩
      cases g with
      | true =>
        have hw : v = .agg cs := by simpa [whole] using hw.symm
        subst hw
        have hn : n = n0 := hn
        subst hn
        refine does_value hs (V := .agg U.toArray) ?_ (VR.aggL hU)
        simp [execOp, ho, hV, Instr.loadAt, Instr.sureAddr, loadVar, run_agg hg, run_size hi, hi2, run_loadCells_of hl hcell]
      | false =>
        have hw : ∃ w, cs = [w] ∧ w = v := by
          rcases cs with _ | ⟨w, _ | ⟨w2, rest⟩⟩
          · simp [whole] at hw
          · exact ⟨w, rfl, by simpa [whole] using hw⟩
          · simp [whole] at hw
        obtain ⟨w, rfl, rfl⟩ := hw
        obtain ⟨u, U', rfl, hv, hU'⟩ := LR.inv hU
        have := hcell 0 u rfl
        refine does_value hs (V := u) ?_ hv
        simp [execOp, ho, hV, Instr.loadAt, Instr.sureAddr, loadVar, run_agg hg, show W.cell? ⟨r.blk, r.off + q, none⟩ = some u from this]
    · cases h
  · cases h
theorem op_store {t : TypeId} {x w : Operand} {y z : Lo} {n : Nat} (ho : o.op = .store t x w) (hn : szOf P t = some n) (hx : lowX x = some y) (hw : lowX w = some z) (h : oStore fl n y z a σ = some (v, σ'))
    (hs : Sim P base σ.h.get ρ W) (ha : AR ρ a A) (hj : ∀ b x, σ.h.get b = some x → b < σ.nx) : HF fl σ.nx σ'.nx σ.h.get σ'.h.get ∧ Does P base fl σ σ' ρ W (execOp A.eval o) v := by
  have h1 := ev_ok ha hx
  have h2 := ev_ok ha hw
  obtain ⟨i, hi, hi2⟩ := info_size hn
  unfold oStore at h
  split at h
  · rename_i p hp
    obtain ⟨b, q⟩ := p
    rw [hp] at h1
    obtain ⟨r, hr, hV⟩ := vr_ptr h1
    rw [cond_beq] at h
    split at h
    · rename_i hlen
      split at h
      · rename_i σ1 hwr
        cases h
        obtain ⟨e1, r', W', hr', hrun, hpost⟩ := sim_write hs hwr h2.cells
        rw [hr] at hr'; cases hr'
        have hup : ∃ y, σ'.h.get = fun j => if j = b then y else σ.h.get j := by
          unfold HS.write at hwr
          split at hwr
          · cases hwr
          · cases hc : (Nat.ble fl b && (a.ev z).cells.all HV.one) with
            | false => rw [hc] at hwr; cases hwr
            | true =>
              rw [hc] at hwr
              simp only [cond_true, Option.map_eq_some_iff] at hwr
              obtain ⟨cs', _, rfl⟩ := hwr
              exact ⟨_, funext fun j => HS.get_upd σ _ _ j⟩
          · cases hwr
        refine ⟨?_, Go.undef, W', ρ, .inr ⟨?_, rfl⟩, VR.undef ρ, by rw [e1]; exact hpost⟩
        · obtain ⟨y, hy⟩ := hup
          rw [hy, e1]
          have hb : fl ≤ b ∧ b < σ.nx := by
            unfold HS.write at hwr
            split at hwr
            · cases hwr
            · rename_i hb
              cases hc : (Nat.ble fl b && (a.ev z).cells.all HV.one) with
              | false => rw [hc] at hwr; cases hwr
              | true => simp at hc; exact ⟨hc.1, hj _ _ hb⟩
            · cases hwr
          exact hf_upd hb.1 hb.2 (fun _ => rfl)
        · have hsz : (A.eval w).cells.size = i.size := by
            have := h2.cells.1
            simp at this
            omega
          simp [execOp, ho, hV, Instr.storeAt, Instr.sureAddr, storeVar, run_size hi, hsz, hrun]
      · cases h
    · cases h
  · cases h
theorem op_fieldAddr {t : TypeId} {x : Operand} {y : Lo} {f m : Nat} {fs : Array Field} {fd : Field} (ho : o.op = .fieldAddr t x f) (hu : P.underlying t = some (.struct fs)) (hf : fs[f]? = some fd) (hz : szOf P fd.type = some (m + 1)) (hx : lowX x = some y)
    (h : oFieldAddr fd.offset y a σ = some (v, σ')) (hs : Sim P base σ.h.get ρ W) (ha : AR ρ a A) : HF fl σ.nx σ'.nx σ.h.get σ'.h.get ∧ Does P base fl σ σ' ρ W (execOp A.eval o) v := by
  have h1 := ev_ok ha hx
  obtain ⟨i, hi, hi2⟩ := info_size hz
  unfold oFieldAddr at h
  split at h
  · rename_i b q hp
    cases h
    rw [hp] at h1
    obtain ⟨r, hr, hV⟩ := vr_ptr h1
    refine ⟨HF.refl _ _ _, does_value hs (V := .pointer (some ⟨r.blk, r.off + (q + fd.offset), none⟩)) ?_ (.ptr hr)⟩
    simp [execOp, ho, hV, Instr.fieldAt, run_under hu, hf, Instr.sureAddr, fieldPlace, run_size hi, hi2, add_none, Nat.add_assoc]
  · cases h
theorem step_to {b q size len : Nat} {i : Option Nat} (h : stepTo b q size len i σ = some (v, σ')) : ∃ n, i = some n ∧ n < len ∧ v = .ptr (some (b, q + n * size)) ∧ σ' = σ := by
  unfold stepTo at h
  split at h
  · rename_i n
    cases hc : Nat.blt n len with
    | false => rw [hc] at h; cases h
    | true => rw [hc] at h; cases h; exact ⟨n, rfl, blt_lt hc, rfl, rfl⟩
  · cases h
theorem op_indexAddrS {t e : TypeId} {x z : Operand} {y w : Lo} {s : Nat} (ho : o.op = .indexAddr t x z) (hu : P.underlying t = some (.slice e)) (hz : szOf P e = some s) (hx : lowX x = some y) (hw : lowX z = some w)
    (h : oIndexAddrS s y w a σ = some (v, σ')) (hs : Sim P base σ.h.get ρ W) (ha : AR ρ a A) : HF fl σ.nx σ'.nx σ.h.get σ'.h.get ∧ Does P base fl σ σ' ρ W (execOp A.eval o) v := by
  have h1 := ev_ok ha hx
  have h2 := ev_ok ha hw
  obtain ⟨i, hi, hi2⟩ := info_size hz
  unfold oIndexAddrS at h
  split at h
  · rename_i b q len c hp
    obtain ⟨n, hn, hlt, rfl, rfl⟩ := step_to h
    rw [hp] at h1
    obtain ⟨r, hr, hV⟩ := vr_slice h1
    obtain ⟨k, hk⟩ := nat_of h2 hn
    refine ⟨HF.refl _ _ _, does_value hs (V := .pointer (some ⟨r.blk, r.off + (q + n * s), none⟩)) ?_ (.ptr hr)⟩
    simp [hlt, execOp, ho, hV, hk, Instr.indexAt, asIntOf, run_under hu, run_size hi, hi2, add_none, Nat.add_assoc]
  · cases h
theorem op_indexAddrA {t e : TypeId} {x z : Operand} {y w : Lo} {s len : Nat} (ho : o.op = .indexAddr t x z) (hu : P.underlying t = some (.array len e)) (hz : szOf P e = some s) (hx : lowX x = some y) (hw : lowX z = some w)
    (h : oIndexAddrA len s y w a σ = some (v, σ')) (hs : Sim P base σ.h.get ρ W) (ha : AR ρ a A) : HF fl σ.nx σ'.nx σ.h.get σ'.h.get ∧ Does P base fl σ σ' ρ W (execOp A.eval o) v := by
  have h1 := ev_ok ha hx
  have h2 := ev_ok ha hw
  obtain ⟨i, hi, hi2⟩ := info_size hz
  unfold oIndexAddrA at h
  split at h
  · rename_i b q hp
    obtain ⟨n, hn, hlt, rfl, rfl⟩ := step_to h
    rw [hp] at h1
    obtain ⟨r, hr, hV⟩ := vr_ptr h1
    obtain ⟨k, hk⟩ := nat_of h2 hn
    refine ⟨HF.refl _ _ _, does_value hs (V := .pointer (some ⟨r.blk, r.off + (q + n * s), none⟩)) ?_ (.ptr hr)⟩
    simp [hlt, execOp, ho, hV, hk, Instr.indexAt, Instr.sureAddr, asIntOf, run_under hu, run_size hi, hi2, add_none, Nat.add_assoc]
  · cases h
theorem part_ok {t : TypeId} {g : Bool} {n off : Nat} {cs : List HV} {C : List Value} (hg : aggOf P t = some g) (hz : szOf P t = some n) (h : partH g n off cs = some v) (hc : LR ρ cs C) :
    ∃ V, (part t C.toArray off).run P W = .ok V W ∧ VR ρ v V := by
  obtain ⟨i, hi, hi2⟩ := info_size hz
  unfold partH at h
  cases g with
  | true =>
    simp only [cond_true, Option.map_eq_some_iff] at h
    obtain ⟨ds, hd, rfl⟩ := h
    obtain ⟨e1, e2⟩ := takeN_some hd
    refine ⟨.agg (C.toArray.extract off (off + n)), by simp [part, run_agg hg, run_size hi, hi2], ?_⟩
    refine .agg ?_ fun j w u hw hu => ?_
    · have h1 := hc.1
      have h2 : ds.length ≤ (cs.drop off).length := by rw [e1]; simp; omega
      simp at h2 ⊢
      omega
    · rw [e1, List.getElem?_take] at hw
      split at hw
      · rw [List.getElem?_drop] at hw
        have : C[off + j]? = some u := by
          rw [Array.getElem?_extract] at hu
          split at hu
          · simpa using hu
          · cases hu
        exact hc.2 _ _ _ hw this
      · cases hw
  | false =>
    simp only [cond_false] at h
    have hlt : off < C.length := by rw [← hc.1]; exact (List.getElem?_eq_some_iff.1 h).1
    exact ⟨C[off], by simp [part, run_agg hg, hlt], hc.2 _ _ _ h (List.getElem?_eq_getElem hlt)⟩
theorem op_field {t : TypeId} {x : Operand} {y : Lo} {f n : Nat} {g : Bool} {fs : Array Field} {fd : Field} (ho : o.op = .field t x f) (hu : P.underlying t = some (.struct fs)) (hf : fs[f]? = some fd) (hg : aggOf P fd.type = some g) (hz : szOf P fd.type = some n) (hx : lowX x = some y)
    (h : oField g n fd.offset y a σ = some (v, σ')) (hs : Sim P base σ.h.get ρ W) (ha : AR ρ a A) : HF fl σ.nx σ'.nx σ.h.get σ'.h.get ∧ Does P base fl σ σ' ρ W (execOp A.eval o) v := by
  have h1 := ev_ok ha hx
  unfold oField at h
  split at h
  · rename_i cs hp
    obtain ⟨hw, rfl⟩ := keep_some h
    rw [hp] at h1
    obtain ⟨C, hV, hc⟩ := VR.inv_agg h1
    obtain ⟨V, hr, hv⟩ := part_ok (W := W) hg hz hw hc
    refine ⟨HF.refl _ _ _, does_value hs (V := V) ?_ hv⟩
    simp [execOp, ho, hV, Instr.field, run_under hu, hf, asAgg, hr]
  · cases h
theorem op_indexA {t e : TypeId} {x z : Operand} {y w : Lo} {s len : Nat} {g : Bool} (ho : o.op = .index t x z) (hu : P.underlying t = some (.array len e)) (hz : szOf P e = some s) (hg : aggOf P e = some g) (hx : lowX x = some y) (hw : lowX z = some w)
    (h : oIndexA len s g y w a σ = some (v, σ')) (hs : Sim P base σ.h.get ρ W) (ha : AR ρ a A) : HF fl σ.nx σ'.nx σ.h.get σ'.h.get ∧ Does P base fl σ σ' ρ W (execOp A.eval o) v := by
  have h1 := ev_ok ha hx
  have h2 := ev_ok ha hw
  obtain ⟨i, hi, hi2⟩ := info_size hz
  unfold oIndexA at h
  split at h
  · rename_i cs n hp hn
    cases hc : Nat.blt n len with
    | false => rw [hc] at h; cases h
    | true =>
      rw [hc] at h
      have hlt := blt_lt hc
      obtain ⟨hw', rfl⟩ := keep_some h
      rw [hp] at h1
      obtain ⟨C, hV, hC⟩ := VR.inv_agg h1
      obtain ⟨k, hk⟩ := nat_of h2 hn
      obtain ⟨V, hr, hv⟩ := part_ok (W := W) hg hz hw' hC
      refine ⟨HF.refl _ _ _, does_value hs (V := V) ?_ hv⟩
      have hr' : (part e C.toArray (n * s)).run P W = .ok V W := hr
      simp [hlt, execOp, ho, hV, hk, Instr.index, asIntOf, run_under hu, run_size hi, hi2, hr']
  · cases h
theorem op_extract {x : Operand} {y : Lo} {i : Nat} (ho : o.op = .extract x i) (hx : lowX x = some y) (h : oExtract y i a σ = some (v, σ')) (hs : Sim P base σ.h.get ρ W) (ha : AR ρ a A) : HF fl σ.nx σ'.nx σ.h.get σ'.h.get ∧ Does P base fl σ σ' ρ W (execOp A.eval o) v := by
  have h1 := ev_ok ha hx
  unfold oExtract at h
  split at h
  · rename_i vs hp
    obtain ⟨hw, rfl⟩ := keep_some h
    rw [hp] at h1
    obtain ⟨C, hV, hC⟩ := VR.inv_tuple h1
    have hlt : i < C.length := by rw [← hC.1]; exact (List.getElem?_eq_some_iff.1 hw).1
    refine ⟨HF.refl _ _ _, does_value hs (V := C[i]) ?_ (hC.2 _ _ _ hw (List.getElem?_eq_getElem hlt))⟩
    simp [execOp, ho, hV, Instr.extract, hlt]
  · cases h
theorem vr_func {ρ : Rho} {f : Nat} {xs ys : List HV} {V : Value} (h : VR ρ (.func f xs ys) V) : ∃ F C : List Value, V = .func (.func f) F.toArray C.toArray ∧ LR ρ xs F ∧ LR ρ ys C := by
  cases h with
  | func hf hc h1 h2 =>
    rename_i F C
    exact ⟨F.toList, C.toList, rfl, ⟨by simpa using hf, fun i v u hv hu => h1 i v u hv (by simpa using hu)⟩, ⟨by simpa using hc, fun i v u hv hu => h2 i v u hv (by simpa using hu)⟩⟩
theorem op_nilCheck {x : Operand} {y : Lo} (ho : o.op = .nilCheck x) (hx : lowX x = some y) (h : oNilCheck y a σ = some (v, σ')) (hs : Sim P base σ.h.get ρ W) (ha : AR ρ a A) : HF fl σ.nx σ'.nx σ.h.get σ'.h.get ∧ Does P base fl σ σ' ρ W (execOp A.eval o) v := by
  have h1 := ev_ok ha hx
  unfold oNilCheck at h
  split at h
  · rename_i p hp
    cases h
    obtain ⟨b, q⟩ := p
    rw [hp] at h1
    obtain ⟨r, hr, hV⟩ := vr_ptr h1
    exact ⟨HF.refl _ _ _, does_value hs (V := A.eval x) (by simp [execOp, ho, hV]) h1⟩
  · rename_i f xs ys hp
    cases h
    rw [hp] at h1
    obtain ⟨F, C, hV, _, _⟩ := vr_func h1
    exact ⟨HF.refl _ _ _, does_value hs (V := A.eval x) (by simp [execOp, ho, hV]) h1⟩
  · cases h
end Go.Hx
