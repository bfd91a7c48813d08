import Derived.Test.YtjjnncelpnijiaaGreatH05
import Derived.Test.YtjjnncelpnijiaaGreatH06
import Derived.Test.YtjjnncelpnijiaaGreatH07
import Derived.Test.YtjjnncelpnijiaaGreatH03
set_option linter.all false
namespace Go.Hx.V
open Go.Hx
set_option maxRecDepth 20000
set_option maxHeartbeats 4000000
variable {fl : Nat} {h0 : Tr HBlk} {n0 : Nat} {F0 : PH}
attribute [local irreducible] W R C thenH inBlockH Tr.get Tr.set lo ck bnd ix iter
theorem ct105 (N : Nat) {a0_0 a0_1 a0_2 a0_3 : Int} {a0_4 : (List (Int × Int × Int × Int))} {a0_5 : (List (Int × Int))} {a0_6 a0_7 a0_8 a0_9 a1 : Int} {r : (Int × Int × Int × Int × (List (Int × Int × Int × Int)) × (List (Int × Int)) × Int × Int × Int × Int × (Nat → Int) × Int)} (hF : sf105 N a0_0 a0_1 a0_2 a0_3 a0_4 a0_5 a0_6 a0_7 a0_8 a0_9 a1 = some r) (hd : D h0 n0) (hs : F0.sub h0) (hfl : fl ≤ n0) {pa0_4 : Option (Nat × Nat)} {ca0_4 : Nat} {pa0_5 : Option (Nat × Nat)} {ca0_5 : Nat} (ra0_4 : RowF (rP rI (rP rI (rP rI rI))) 4 F0 pa0_4 ca0_4 a0_4) (ra0_5 : RowF (rP rI rI) 2 F0 pa0_5 ca0_5 a0_5) : C LW fl 105 [(.agg [(i64 a0_0), (i64 a0_1), (i64 a0_2), (i64 a0_3), (.slice pa0_4 (a0_4).length ca0_4), (.slice pa0_5 (a0_5).length ca0_5), (i64 a0_6), (i64 a0_7), (i64 a0_8), (i64 a0_9)]), (i64 a1)] ⟨h0, n0⟩ (KR (rvT2A (rqC rI (rqC rI (rqC rI (rqC rI (rqC (rL (rP rI (rP rI (rP rI rI))) 4) (rqC (rL (rP rI rI) 2) (rqC rI (rqC rI (rqC rI (rqC rI (rqL (rF .i64 22) lvI)))))))))))) F0 h0 n0 r) := by
 unfold sf105 at hF
 refine vB hd hs hfl lw105 rfl rfl (by rfl) (fun st T hT => ?_)
 have t0 := hT 0 _ rfl
 have t1 := hT 1 _ rfl
 dsimp only [L105]
 refine zg (zh ?_); refine zS st (fun b1 h2 n3 st => ?_); refine zJ st (fun b4 h5 n6 st => ?_)
 have st := st.cells 1 rfl ([(i64 0), (i64 0), (i64 0), (i64 0), (.slice none 0 0), (.slice none 0 0), (i64 0), (i64 0), (i64 0), (i64 0)] ++ (eI .i64 22 (fun _ => 0))) rfl
 refine za ?_; refine zf (th_n ?_); refine zg (zh ?_); refine zH (vs := [(i64 a0_0), (i64 a0_1), (i64 a0_2), (i64 a0_3), (.slice pa0_4 (a0_4).length ca0_4), (.slice pa0_5 (a0_5).length ca0_5), (i64 a0_6), (i64 a0_7), (i64 a0_8), (i64 a0_9)]) (st.at (i := 0) rfl).2.2 rfl ?_; obtain ⟨v7, e8, hF⟩ := zm hF; refine yS st (ct65 N e8 st.d st.sub (Nat.le_trans hfl st.ext.le) ra0_4 ra0_5) (fun u9 F9 h9 n9 le9 rv9 st => ?_); obtain ⟨_, _, rfl, ⟨_, _, rfl, rfl, ⟨_, _, rfl, rfl, ⟨_, _, rfl, rfl, ⟨_, _, rfl, rfl, ⟨_, _, rfl, ⟨py10, cy10, rfl, ry10⟩, ⟨_, _, rfl, ⟨py11, cy11, rfl, ry11⟩, ⟨_, _, rfl, rfl, ⟨_, _, rfl, rfl, ⟨_, _, rfl, rfl, ⟨_, _, rfl, rfl, ⟨rfl, rfl⟩⟩⟩⟩⟩⟩⟩⟩⟩⟩⟩⟩ := rv9
 refine za ?_; refine v_xt rfl ?_; refine v_xt rfl ?_; refine zJ st (fun b12 h13 n14 st => ?_)
 have st := st.cells 2 rfl ([(i64 0), (i64 0), (i64 0), (i64 0), (.slice none 0 0), (.slice none 0 0), (i64 0), (i64 0), (i64 0), (i64 0)] ++ (eI .i64 22 (fun _ => 0))) rfl
 refine v_st (v := (.agg ([(i64 v7.1), (i64 v7.2.1), (i64 v7.2.2.1), (i64 v7.2.2.2.1), (.slice py10 (v7.2.2.2.2.1).length cy10), (.slice py11 (v7.2.2.2.2.2.1).length cy11), (i64 v7.2.2.2.2.2.2.1), (i64 v7.2.2.2.2.2.2.2.1), (i64 v7.2.2.2.2.2.2.2.2.1), (i64 v7.2.2.2.2.2.2.2.2.2.1)] ++ (eI .i64 22 v7.2.2.2.2.2.2.2.2.2.2.1)))) (cs' := ([(i64 v7.1), (i64 v7.2.1), (i64 v7.2.2.1), (i64 v7.2.2.2.1), (.slice py10 (v7.2.2.2.2.1).length cy10), (.slice py11 (v7.2.2.2.2.2.1).length cy11), (i64 v7.2.2.2.2.2.2.1), (i64 v7.2.2.2.2.2.2.2.1), (i64 v7.2.2.2.2.2.2.2.2.1), (i64 v7.2.2.2.2.2.2.2.2.2.1)] ++ (eI .i64 22 v7.2.2.2.2.2.2.2.2.2.2.1))) st 2 rfl (yb [] rfl (by simp [HV.cells, zC, yk])) (z2 _ zC (by rfl)) (zZ _ (by rfl) yj) hfl (fun h15 st => ?_)
 refine za ?_; refine zf (th_n ?_); refine zg ?_; refine zg (zh ?_); refine za ?_; refine vo ?_; refine zf (th_n ?_); refine zA (fun hb16 => ?_) (fun hb16 => ?_)
 ·have hF := zw hb16 hF; refine zg (zh ?_); refine zO (cs := ([(i64 0), (i64 0), (i64 0), (i64 0), (.slice none 0 0), (.slice none 0 0), (i64 0), (i64 0), (i64 0), (i64 0)] ++ (eI .i64 22 (fun _ => 0)))) rfl ?_; refine za ?_
  refine v_st (v := (.agg ([(i64 0), (i64 0), (i64 0), (i64 0), (.slice none 0 0), (.slice none 0 0), (i64 0), (i64 0), (i64 0), (i64 0)] ++ (eI .i64 22 (fun _ => 0))))) (cs' := ([(i64 0), (i64 0), (i64 0), (i64 0), (.slice none 0 0), (.slice none 0 0), (i64 0), (i64 0), (i64 0), (i64 0)] ++ (eI .i64 22 (fun _ => 0)))) st 1 rfl (yb [] rfl (by simp [HV.cells, zC, yk])) (z2 _ zC (by rfl)) (zZ _ (by rfl) yj) hfl (fun h17 st => ?_)
  refine za ?_; refine zf (th_n ?_); refine zt ?_; refine th_r ?_; obtain rfl := inj hF
  exact yO st (Res.c gA (st.at (i := 1) rfl).2.2 (show takeN _ _ = some ([(i64 0), (i64 0), (i64 0), (i64 0), (.slice none 0 0), (.slice none 0 0), (i64 0), (i64 0), (i64 0), (i64 0)] ++ (eI .i64 22 (fun _ => 0))) from (zX (E := (eI .i64 22 (fun _ => 0))) [] [(i64 0), (i64 0), (i64 0), (i64 0), (.slice none 0 0), (.slice none 0 0), (i64 0), (i64 0), (i64 0), (i64 0)] rfl zC rfl)) (Res.t gA Res.nil)) ⟨_, _, rfl, ⟨[(i64 0)], _, rfl, rfl, ⟨[(i64 0)], _, rfl, rfl, ⟨[(i64 0)], _, rfl, rfl, ⟨[(i64 0)], _, rfl, rfl, ⟨[(.slice none 0 0)], _, rfl, ⟨none, 0, rfl, RowF.nil⟩, ⟨[(.slice none 0 0)], _, rfl, ⟨none, 0, rfl, RowF.nil⟩, ⟨[(i64 0)], _, rfl, rfl, ⟨[(i64 0)], _, rfl, rfl, ⟨[(i64 0)], _, rfl, rfl, ⟨[(i64 0)], _, rfl, rfl, ⟨rfl, rfl⟩⟩⟩⟩⟩⟩⟩⟩⟩⟩⟩⟩
 ·have hF := zx hb16 hF; refine zB (th_n ?_); refine zg ?_; refine zg (zh ?_); refine za ?_; obtain ⟨v18, e19, hF⟩ := zm hF; refine zF st (ct75 N e19 st.d st.sub ) (fun n20 st => ?_); refine yg ?_; refine zf (th_n ?_); refine zA (fun hb21 => ?_) (fun hb21 => ?_)
  ·have hF := zw hb21 hF; refine zg (zh ?_); refine zO (cs := ([(i64 0), (i64 0), (i64 0), (i64 0), (.slice none 0 0), (.slice none 0 0), (i64 0), (i64 0), (i64 0), (i64 0)] ++ (eI .i64 22 (fun _ => 0)))) rfl ?_
   refine v_st (v := (.agg ([(i64 0), (i64 0), (i64 0), (i64 0), (.slice none 0 0), (.slice none 0 0), (i64 0), (i64 0), (i64 0), (i64 0)] ++ (eI .i64 22 (fun _ => 0))))) (cs' := ([(i64 0), (i64 0), (i64 0), (i64 0), (.slice none 0 0), (.slice none 0 0), (i64 0), (i64 0), (i64 0), (i64 0)] ++ (eI .i64 22 (fun _ => 0)))) st 1 rfl (yb [] rfl (by simp [HV.cells, zC, yk])) (z2 _ zC (by rfl)) (zZ _ (by rfl) yj) hfl (fun h22 st => ?_)
   refine za ?_; refine zf (th_n ?_); refine zt ?_; refine th_r ?_; obtain rfl := inj hF
   exact yO st (Res.c gA (st.at (i := 1) rfl).2.2 (show takeN _ _ = some ([(i64 0), (i64 0), (i64 0), (i64 0), (.slice none 0 0), (.slice none 0 0), (i64 0), (i64 0), (i64 0), (i64 0)] ++ (eI .i64 22 (fun _ => 0))) from (zX (E := (eI .i64 22 (fun _ => 0))) [] [(i64 0), (i64 0), (i64 0), (i64 0), (.slice none 0 0), (.slice none 0 0), (i64 0), (i64 0), (i64 0), (i64 0)] rfl zC rfl)) (Res.t gA Res.nil)) ⟨_, _, rfl, ⟨[(i64 0)], _, rfl, rfl, ⟨[(i64 0)], _, rfl, rfl, ⟨[(i64 0)], _, rfl, rfl, ⟨[(i64 0)], _, rfl, rfl, ⟨[(.slice none 0 0)], _, rfl, ⟨none, 0, rfl, RowF.nil⟩, ⟨[(.slice none 0 0)], _, rfl, ⟨none, 0, rfl, RowF.nil⟩, ⟨[(i64 0)], _, rfl, rfl, ⟨[(i64 0)], _, rfl, rfl, ⟨[(i64 0)], _, rfl, rfl, ⟨[(i64 0)], _, rfl, rfl, ⟨rfl, rfl⟩⟩⟩⟩⟩⟩⟩⟩⟩⟩⟩⟩
  ·have hF := zx hb21 hF; refine zB (th_n ?_); refine zg (zh ?_); refine zH (vs := ([(i64 v7.1), (i64 v7.2.1), (i64 v7.2.2.1), (i64 v7.2.2.2.1), (.slice py10 (v7.2.2.2.2.1).length cy10), (.slice py11 (v7.2.2.2.2.2.1).length cy11), (i64 v7.2.2.2.2.2.2.1), (i64 v7.2.2.2.2.2.2.2.1), (i64 v7.2.2.2.2.2.2.2.2.1), (i64 v7.2.2.2.2.2.2.2.2.2.1)] ++ (eI .i64 22 v7.2.2.2.2.2.2.2.2.2.2.1))) (st.at (i := 2) rfl).2.2 (zX (E := (eI .i64 22 v7.2.2.2.2.2.2.2.2.2.2.1)) [] [(i64 v7.1), (i64 v7.2.1), (i64 v7.2.2.1), (i64 v7.2.2.2.1), (.slice py10 (v7.2.2.2.2.1).length cy10), (.slice py11 (v7.2.2.2.2.2.1).length cy11), (i64 v7.2.2.2.2.2.2.1), (i64 v7.2.2.2.2.2.2.2.1), (i64 v7.2.2.2.2.2.2.2.2.1), (i64 v7.2.2.2.2.2.2.2.2.2.1)] rfl zC rfl) ?_
   refine v_st (v := (.agg ([(i64 v7.1), (i64 v7.2.1), (i64 v7.2.2.1), (i64 v7.2.2.2.1), (.slice py10 (v7.2.2.2.2.1).length cy10), (.slice py11 (v7.2.2.2.2.2.1).length cy11), (i64 v7.2.2.2.2.2.2.1), (i64 v7.2.2.2.2.2.2.2.1), (i64 v7.2.2.2.2.2.2.2.2.1), (i64 v7.2.2.2.2.2.2.2.2.2.1)] ++ (eI .i64 22 v7.2.2.2.2.2.2.2.2.2.2.1)))) (cs' := ([(i64 v7.1), (i64 v7.2.1), (i64 v7.2.2.1), (i64 v7.2.2.2.1), (.slice py10 (v7.2.2.2.2.1).length cy10), (.slice py11 (v7.2.2.2.2.2.1).length cy11), (i64 v7.2.2.2.2.2.2.1), (i64 v7.2.2.2.2.2.2.2.1), (i64 v7.2.2.2.2.2.2.2.2.1), (i64 v7.2.2.2.2.2.2.2.2.2.1)] ++ (eI .i64 22 v7.2.2.2.2.2.2.2.2.2.2.1))) st 1 rfl (yb [] rfl (by simp [HV.cells, zC, yk])) (z2 _ zC (by rfl)) (zZ _ (by rfl) yj) hfl (fun h23 st => ?_)
   refine za ?_; refine zf (th_n ?_); refine zt ?_; obtain rfl := inj hF
   exact yO st (Res.c gA (st.at (i := 1) rfl).2.2 (show takeN _ _ = some ([(i64 v7.1), (i64 v7.2.1), (i64 v7.2.2.1), (i64 v7.2.2.2.1), (.slice py10 (v7.2.2.2.2.1).length cy10), (.slice py11 (v7.2.2.2.2.2.1).length cy11), (i64 v7.2.2.2.2.2.2.1), (i64 v7.2.2.2.2.2.2.2.1), (i64 v7.2.2.2.2.2.2.2.2.1), (i64 v7.2.2.2.2.2.2.2.2.2.1)] ++ (eI .i64 22 v7.2.2.2.2.2.2.2.2.2.2.1)) from (zX (E := (eI .i64 22 v7.2.2.2.2.2.2.2.2.2.2.1)) [] [(i64 v7.1), (i64 v7.2.1), (i64 v7.2.2.1), (i64 v7.2.2.2.1), (.slice py10 (v7.2.2.2.2.1).length cy10), (.slice py11 (v7.2.2.2.2.2.1).length cy11), (i64 v7.2.2.2.2.2.2.1), (i64 v7.2.2.2.2.2.2.2.1), (i64 v7.2.2.2.2.2.2.2.2.1), (i64 v7.2.2.2.2.2.2.2.2.2.1)] rfl zC rfl)) (Res.t gA Res.nil)) ⟨_, _, rfl, ⟨[(i64 v7.1)], _, rfl, rfl, ⟨[(i64 v7.2.1)], _, rfl, rfl, ⟨[(i64 v7.2.2.1)], _, rfl, rfl, ⟨[(i64 v7.2.2.2.1)], _, rfl, rfl, ⟨[(.slice py10 (v7.2.2.2.2.1).length cy10)], _, rfl, ⟨_, _, rfl, ry10⟩, ⟨[(.slice py11 (v7.2.2.2.2.2.1).length cy11)], _, rfl, ⟨_, _, rfl, ry11⟩, ⟨[(i64 v7.2.2.2.2.2.2.1)], _, rfl, rfl, ⟨[(i64 v7.2.2.2.2.2.2.2.1)], _, rfl, rfl, ⟨[(i64 v7.2.2.2.2.2.2.2.2.1)], _, rfl, rfl, ⟨[(i64 v7.2.2.2.2.2.2.2.2.2.1)], _, rfl, rfl, ⟨rfl, rfl⟩⟩⟩⟩⟩⟩⟩⟩⟩⟩⟩⟩
end Go.Hx.V

namespace Go.Hx.V
open Go.Hx
set_option maxRecDepth 20000
set_option maxHeartbeats 4000000
variable {fl : Nat} {h0 : Tr HBlk} {n0 : Nat} {F0 : PH}
attribute [local irreducible] W R C thenH inBlockH Tr.get Tr.set lo ck bnd ix iter
theorem ct82 (N : Nat) {a0_0 a0_1 a0_2 a0_3 : Int} {a0_4 : (List (Int × Int × Int × Int))} {a0_5 : (List (Int × Int))} {a0_6 a0_7 a0_8 a0_9 a1_0 a1_1 a1_2 : Int} {r : (Int × Int × Int × Int × (List (Int × Int × Int × Int)) × (List (Int × Int)) × Int × Int × Int × Int × (Nat → Int) × Int × Int × Int × Int)} (hF : sf82 N a0_0 a0_1 a0_2 a0_3 a0_4 a0_5 a0_6 a0_7 a0_8 a0_9 a1_0 a1_1 a1_2 = some r) (hd : D h0 n0) (hs : F0.sub h0) (hfl : fl ≤ n0) {pa0_4 : Option (Nat × Nat)} {ca0_4 : Nat} {pa0_5 : Option (Nat × Nat)} {ca0_5 : Nat} (ra0_4 : RowF (rP rI (rP rI (rP rI rI))) 4 F0 pa0_4 ca0_4 a0_4) (ra0_5 : RowF (rP rI rI) 2 F0 pa0_5 ca0_5 a0_5) : C LW fl 82 [(.agg [(i64 a0_0), (i64 a0_1), (i64 a0_2), (i64 a0_3), (.slice pa0_4 (a0_4).length ca0_4), (.slice pa0_5 (a0_5).length ca0_5), (i64 a0_6), (i64 a0_7), (i64 a0_8), (i64 a0_9)]), (.agg [(i64 a1_0), (i64 a1_1), (i64 a1_2)])] ⟨h0, n0⟩ (KR (rvT2A (rqC rI (rqC rI (rqC rI (rqC rI (rqC (rL (rP rI (rP rI (rP rI rI))) 4) (rqC (rL (rP rI rI) 2) (rqC rI (rqC rI (rqC rI (rqC rI (rqC (rF .i64 22) (rqC rI (rqC rI (rqL rI lvI))))))))))))))) F0 h0 n0 r) := by
 unfold sf82 at hF
 refine vB hd hs hfl lw82 rfl rfl (by rfl) (fun st T hT => ?_)
 have t0 := hT 0 _ rfl
 have t1 := hT 1 _ rfl
 dsimp only [L82]
 refine zg (zh ?_); refine zS st (fun b1 h2 n3 st => ?_); refine zS st (fun b4 h5 n6 st => ?_); refine zJ st (fun b7 h8 n9 st => ?_)
 have st := st.cells 2 rfl ([(i64 0), (i64 0), (i64 0), (i64 0), (.slice none 0 0), (.slice none 0 0), (i64 0), (i64 0), (i64 0), (i64 0)] ++ ((eI .i64 22 (fun _ => 0)) ++ [(i64 0), (i64 0), (i64 0)])) rfl
 refine za ?_; refine zf (th_n ?_); refine zg (zh ?_); refine zH (vs := [(i64 a0_0), (i64 a0_1), (i64 a0_2), (i64 a0_3), (.slice pa0_4 (a0_4).length ca0_4), (.slice pa0_5 (a0_5).length ca0_5), (i64 a0_6), (i64 a0_7), (i64 a0_8), (i64 a0_9)]) (st.at (i := 0) rfl).2.2 rfl ?_; obtain ⟨v10, e11, hF⟩ := zm hF; refine yS st (ct65 N e11 st.d st.sub (Nat.le_trans hfl st.ext.le) ra0_4 ra0_5) (fun u12 F12 h12 n12 le12 rv12 st => ?_); obtain ⟨_, _, rfl, ⟨_, _, rfl, rfl, ⟨_, _, rfl, rfl, ⟨_, _, rfl, rfl, ⟨_, _, rfl, rfl, ⟨_, _, rfl, ⟨py13, cy13, rfl, ry13⟩, ⟨_, _, rfl, ⟨py14, cy14, rfl, ry14⟩, ⟨_, _, rfl, rfl, ⟨_, _, rfl, rfl, ⟨_, _, rfl, rfl, ⟨_, _, rfl, rfl, ⟨rfl, rfl⟩⟩⟩⟩⟩⟩⟩⟩⟩⟩⟩⟩ := rv12
 refine za ?_; refine v_xt rfl ?_; refine v_xt rfl ?_; refine zJ st (fun b15 h16 n17 st => ?_)
 have st := st.cells 3 rfl ([(i64 0), (i64 0), (i64 0), (i64 0), (.slice none 0 0), (.slice none 0 0), (i64 0), (i64 0), (i64 0), (i64 0)] ++ (eI .i64 22 (fun _ => 0))) rfl
 refine v_st (v := (.agg ([(i64 v10.1), (i64 v10.2.1), (i64 v10.2.2.1), (i64 v10.2.2.2.1), (.slice py13 (v10.2.2.2.2.1).length cy13), (.slice py14 (v10.2.2.2.2.2.1).length cy14), (i64 v10.2.2.2.2.2.2.1), (i64 v10.2.2.2.2.2.2.2.1), (i64 v10.2.2.2.2.2.2.2.2.1), (i64 v10.2.2.2.2.2.2.2.2.2.1)] ++ (eI .i64 22 v10.2.2.2.2.2.2.2.2.2.2.1)))) (cs' := ([(i64 v10.1), (i64 v10.2.1), (i64 v10.2.2.1), (i64 v10.2.2.2.1), (.slice py13 (v10.2.2.2.2.1).length cy13), (.slice py14 (v10.2.2.2.2.2.1).length cy14), (i64 v10.2.2.2.2.2.2.1), (i64 v10.2.2.2.2.2.2.2.1), (i64 v10.2.2.2.2.2.2.2.2.1), (i64 v10.2.2.2.2.2.2.2.2.2.1)] ++ (eI .i64 22 v10.2.2.2.2.2.2.2.2.2.2.1))) st 3 rfl (yb [] rfl (by simp [HV.cells, zC, yk])) (z2 _ zC (by rfl)) (zZ _ (by rfl) yj) hfl (fun h18 st => ?_)
 refine za ?_; refine zf (th_n ?_); refine zg ?_; refine zg (zh ?_); refine za ?_; refine vo ?_; refine zf (th_n ?_); refine zA (fun hb19 => ?_) (fun hb19 => ?_)
 ·have hF := zw hb19 hF; refine zg (zh ?_); refine zO (cs := ([(i64 0), (i64 0), (i64 0), (i64 0), (.slice none 0 0), (.slice none 0 0), (i64 0), (i64 0), (i64 0), (i64 0)] ++ ((eI .i64 22 (fun _ => 0)) ++ [(i64 0), (i64 0), (i64 0)]))) rfl ?_; refine za ?_; refine v_st (v := (.agg ([(i64 0), (i64 0), (i64 0), (i64 0), (.slice none 0 0), (.slice none 0 0), (i64 0), (i64 0), (i64 0), (i64 0)] ++ ((eI .i64 22 (fun _ => 0)) ++ [(i64 0), (i64 0), (i64 0)])))) (cs' := ([(i64 0), (i64 0), (i64 0), (i64 0), (.slice none 0 0), (.slice none 0 0), (i64 0), (i64 0), (i64 0), (i64 0)] ++ ((eI .i64 22 (fun _ => 0)) ++ [(i64 0), (i64 0), (i64 0)]))) st 2 rfl rfl rfl rfl hfl (fun h20 st => ?_)
  refine za ?_; refine zf (th_n ?_); refine zt ?_; refine th_r ?_; obtain rfl := inj hF
  exact yO st (Res.c gA (st.at (i := 2) rfl).2.2 (show takeN _ _ = some ([(i64 0), (i64 0), (i64 0), (i64 0), (.slice none 0 0), (.slice none 0 0), (i64 0), (i64 0), (i64 0), (i64 0)] ++ ((eI .i64 22 (fun _ => 0)) ++ [(i64 0), (i64 0), (i64 0)])) from rfl) (Res.t gA Res.nil)) ⟨_, _, rfl, ⟨[(i64 0)], _, rfl, rfl, ⟨[(i64 0)], _, rfl, rfl, ⟨[(i64 0)], _, rfl, rfl, ⟨[(i64 0)], _, rfl, rfl, ⟨[(.slice none 0 0)], _, rfl, ⟨none, 0, rfl, RowF.nil⟩, ⟨[(.slice none 0 0)], _, rfl, ⟨none, 0, rfl, RowF.nil⟩, ⟨[(i64 0)], _, rfl, rfl, ⟨[(i64 0)], _, rfl, rfl, ⟨[(i64 0)], _, rfl, rfl, ⟨[(i64 0)], _, rfl, rfl, ⟨(eI .i64 22 (fun _ => 0)), _, rfl, rfl, ⟨[(i64 0)], _, rfl, rfl, ⟨[(i64 0)], _, rfl, rfl, ⟨rfl, rfl⟩⟩⟩⟩⟩⟩⟩⟩⟩⟩⟩⟩⟩⟩⟩
 ·have hF := zx hb19 hF; refine zB (th_n ?_); refine zg ?_; refine zg (zh ?_); refine v_fa ?_; refine zH (vs := [(i64 v10.1), (i64 v10.2.1), (i64 v10.2.2.1), (i64 v10.2.2.2.1), (.slice py13 (v10.2.2.2.2.1).length cy13), (.slice py14 (v10.2.2.2.2.2.1).length cy14), (i64 v10.2.2.2.2.2.2.1), (i64 v10.2.2.2.2.2.2.2.1), (i64 v10.2.2.2.2.2.2.2.2.1), (i64 v10.2.2.2.2.2.2.2.2.2.1)]) (st.at (i := 3) rfl).2.2 rfl ?_; refine zH (vs := [(i64 a1_0), (i64 a1_1), (i64 a1_2)]) (st.at (i := 1) rfl).2.2 rfl ?_; obtain ⟨v21, e22, hF⟩ := zm hF; refine zF st (ct117 N e22 st.d st.sub ry13 ry14) (fun n23 st => ?_); refine yg ?_; refine zf ?_; refine th_n ?_
  refine zA (fun hb24 => ?_) (fun hb24 => ?_)
  ·have hF := zw hb24 hF; refine zg (zh ?_); refine zO (cs := ([(i64 0), (i64 0), (i64 0), (i64 0), (.slice none 0 0), (.slice none 0 0), (i64 0), (i64 0), (i64 0), (i64 0)] ++ ((eI .i64 22 (fun _ => 0)) ++ [(i64 0), (i64 0), (i64 0)]))) rfl ?_; refine v_st (v := (.agg ([(i64 0), (i64 0), (i64 0), (i64 0), (.slice none 0 0), (.slice none 0 0), (i64 0), (i64 0), (i64 0), (i64 0)] ++ ((eI .i64 22 (fun _ => 0)) ++ [(i64 0), (i64 0), (i64 0)])))) (cs' := ([(i64 0), (i64 0), (i64 0), (i64 0), (.slice none 0 0), (.slice none 0 0), (i64 0), (i64 0), (i64 0), (i64 0)] ++ ((eI .i64 22 (fun _ => 0)) ++ [(i64 0), (i64 0), (i64 0)]))) st 2 rfl rfl rfl rfl hfl (fun h25 st => ?_)
   refine za ?_; refine zf (th_n ?_); refine zt ?_; refine th_r ?_; obtain rfl := inj hF
   exact yO st (Res.c gA (st.at (i := 2) rfl).2.2 (show takeN _ _ = some ([(i64 0), (i64 0), (i64 0), (i64 0), (.slice none 0 0), (.slice none 0 0), (i64 0), (i64 0), (i64 0), (i64 0)] ++ ((eI .i64 22 (fun _ => 0)) ++ [(i64 0), (i64 0), (i64 0)])) from rfl) (Res.t gA Res.nil)) ⟨_, _, rfl, ⟨[(i64 0)], _, rfl, rfl, ⟨[(i64 0)], _, rfl, rfl, ⟨[(i64 0)], _, rfl, rfl, ⟨[(i64 0)], _, rfl, rfl, ⟨[(.slice none 0 0)], _, rfl, ⟨none, 0, rfl, RowF.nil⟩, ⟨[(.slice none 0 0)], _, rfl, ⟨none, 0, rfl, RowF.nil⟩, ⟨[(i64 0)], _, rfl, rfl, ⟨[(i64 0)], _, rfl, rfl, ⟨[(i64 0)], _, rfl, rfl, ⟨[(i64 0)], _, rfl, rfl, ⟨(eI .i64 22 (fun _ => 0)), _, rfl, rfl, ⟨[(i64 0)], _, rfl, rfl, ⟨[(i64 0)], _, rfl, rfl, ⟨rfl, rfl⟩⟩⟩⟩⟩⟩⟩⟩⟩⟩⟩⟩⟩⟩⟩
  ·have hF := zx hb24 hF; refine zB (th_n ?_); refine zg (zh ?_); refine zH (vs := ([(i64 v10.1), (i64 v10.2.1), (i64 v10.2.2.1), (i64 v10.2.2.2.1), (.slice py13 (v10.2.2.2.2.1).length cy13), (.slice py14 (v10.2.2.2.2.2.1).length cy14), (i64 v10.2.2.2.2.2.2.1), (i64 v10.2.2.2.2.2.2.2.1), (i64 v10.2.2.2.2.2.2.2.2.1), (i64 v10.2.2.2.2.2.2.2.2.2.1)] ++ (eI .i64 22 v10.2.2.2.2.2.2.2.2.2.2.1))) (st.at (i := 3) rfl).2.2 (zX (E := (eI .i64 22 v10.2.2.2.2.2.2.2.2.2.2.1)) [] [(i64 v10.1), (i64 v10.2.1), (i64 v10.2.2.1), (i64 v10.2.2.2.1), (.slice py13 (v10.2.2.2.2.1).length cy13), (.slice py14 (v10.2.2.2.2.2.1).length cy14), (i64 v10.2.2.2.2.2.2.1), (i64 v10.2.2.2.2.2.2.2.1), (i64 v10.2.2.2.2.2.2.2.2.1), (i64 v10.2.2.2.2.2.2.2.2.2.1)] rfl zC rfl) ?_
   refine zH (vs := [(i64 a1_0), (i64 a1_1), (i64 a1_2)]) (st.at (i := 1) rfl).2.2 rfl ?_; refine zO (cs := ([(i64 v10.1), (i64 v10.2.1), (i64 v10.2.2.1), (i64 v10.2.2.2.1), (.slice py13 (v10.2.2.2.2.1).length cy13), (.slice py14 (v10.2.2.2.2.2.1).length cy14), (i64 v10.2.2.2.2.2.2.1), (i64 v10.2.2.2.2.2.2.2.1), (i64 v10.2.2.2.2.2.2.2.2.1), (i64 v10.2.2.2.2.2.2.2.2.2.1)] ++ ((eI .i64 22 v10.2.2.2.2.2.2.2.2.2.2.1) ++ [(i64 a1_0), (i64 a1_1), (i64 a1_2)]))) rfl ?_; refine v_st (v := (.agg ([(i64 v10.1), (i64 v10.2.1), (i64 v10.2.2.1), (i64 v10.2.2.2.1), (.slice py13 (v10.2.2.2.2.1).length cy13), (.slice py14 (v10.2.2.2.2.2.1).length cy14), (i64 v10.2.2.2.2.2.2.1), (i64 v10.2.2.2.2.2.2.2.1), (i64 v10.2.2.2.2.2.2.2.2.1), (i64 v10.2.2.2.2.2.2.2.2.2.1)] ++ ((eI .i64 22 v10.2.2.2.2.2.2.2.2.2.2.1) ++ [(i64 a1_0), (i64 a1_1), (i64 a1_2)])))) (cs' := ([(i64 v10.1), (i64 v10.2.1), (i64 v10.2.2.1), (i64 v10.2.2.2.1), (.slice py13 (v10.2.2.2.2.1).length cy13), (.slice py14 (v10.2.2.2.2.2.1).length cy14), (i64 v10.2.2.2.2.2.2.1), (i64 v10.2.2.2.2.2.2.2.1), (i64 v10.2.2.2.2.2.2.2.2.1), (i64 v10.2.2.2.2.2.2.2.2.2.1)] ++ ((eI .i64 22 v10.2.2.2.2.2.2.2.2.2.2.1) ++ [(i64 a1_0), (i64 a1_1), (i64 a1_2)]))) st 2 rfl rfl rfl rfl hfl (fun h26 st => ?_)
   refine za ?_; refine zf (th_n ?_); refine zt ?_; obtain rfl := inj hF
   exact yO st (Res.c gA (st.at (i := 2) rfl).2.2 (show takeN _ _ = some ([(i64 v10.1), (i64 v10.2.1), (i64 v10.2.2.1), (i64 v10.2.2.2.1), (.slice py13 (v10.2.2.2.2.1).length cy13), (.slice py14 (v10.2.2.2.2.2.1).length cy14), (i64 v10.2.2.2.2.2.2.1), (i64 v10.2.2.2.2.2.2.2.1), (i64 v10.2.2.2.2.2.2.2.2.1), (i64 v10.2.2.2.2.2.2.2.2.2.1)] ++ ((eI .i64 22 v10.2.2.2.2.2.2.2.2.2.2.1) ++ [(i64 a1_0), (i64 a1_1), (i64 a1_2)])) from rfl) (Res.t gA Res.nil)) ⟨_, _, rfl, ⟨[(i64 v10.1)], _, rfl, rfl, ⟨[(i64 v10.2.1)], _, rfl, rfl, ⟨[(i64 v10.2.2.1)], _, rfl, rfl, ⟨[(i64 v10.2.2.2.1)], _, rfl, rfl, ⟨[(.slice py13 (v10.2.2.2.2.1).length cy13)], _, rfl, ⟨_, _, rfl, ry13⟩, ⟨[(.slice py14 (v10.2.2.2.2.2.1).length cy14)], _, rfl, ⟨_, _, rfl, ry14⟩, ⟨[(i64 v10.2.2.2.2.2.2.1)], _, rfl, rfl, ⟨[(i64 v10.2.2.2.2.2.2.2.1)], _, rfl, rfl, ⟨[(i64 v10.2.2.2.2.2.2.2.2.1)], _, rfl, rfl, ⟨[(i64 v10.2.2.2.2.2.2.2.2.2.1)], _, rfl, rfl, ⟨(eI .i64 22 v10.2.2.2.2.2.2.2.2.2.2.1), _, rfl, rfl, ⟨[(i64 a1_0)], _, rfl, rfl, ⟨[(i64 a1_1)], _, rfl, rfl, ⟨rfl, rfl⟩⟩⟩⟩⟩⟩⟩⟩⟩⟩⟩⟩⟩⟩⟩
theorem ct118 (N : Nat) {a0 a1c0p0 a1c0p1 a1c0p2 a1c0p3 : Int} {a1c0p4 : (List (Int × Int × Int × Int))} {a1c0p5 : (List (Int × Int))} {a1c0p6 a1c0p7 a1c0p8 a1c0p9 : Int} {a1c0p10 : (Nat → Int)} {a1c0p11 a1c0p12 a1c0p13 r : Int} (hF : sf118 N a0 a1c0p0 a1c0p1 a1c0p2 a1c0p3 a1c0p4 a1c0p5 a1c0p6 a1c0p7 a1c0p8 a1c0p9 a1c0p10 a1c0p11 a1c0p12 a1c0p13 = some r) (hd : D h0 n0) (hs : F0.sub h0) {pa1c0p4 : Option (Nat × Nat)} {ca1c0p4 : Nat} {pa1c0p5 : Option (Nat × Nat)} {ca1c0p5 : Nat} {ba1c0 : Nat} (ra1c0p4 : RowF (rP rI (rP rI (rP rI rI))) 4 F0 pa1c0p4 ca1c0p4 a1c0p4) (ra1c0p5 : RowF (rP rI rI) 2 F0 pa1c0p5 ca1c0p5 a1c0p5) (hba1c0 : F0 ba1c0 = some (.cells ([(i64 a1c0p0), (i64 a1c0p1), (i64 a1c0p2), (i64 a1c0p3), (.slice pa1c0p4 (a1c0p4).length ca1c0p4), (.slice pa1c0p5 (a1c0p5).length ca1c0p5), (i64 a1c0p6), (i64 a1c0p7), (i64 a1c0p8), (i64 a1c0p9)] ++ ((eI .i64 22 a1c0p10) ++ [(i64 a1c0p11), (i64 a1c0p12), (i64 a1c0p13)])) .exact)) : C LW fl 118 [(i64 a0), (.func 119 [] [(.ptr (some (ba1c0, 0)))])] ⟨h0, n0⟩ (KS (i64 r) n0 h0) := by
 unfold sf118 at hF
 refine zT hd hs lw118 rfl rfl (by rfl) (fun st T hT => ?_)
 have hfl : n0 ≤ n0 := Nat.le_refl n0
 have t0 := hT 0 _ rfl
 have t1 := hT 1 _ rfl
 dsimp only [L118]
 refine zg (zh ?_); refine za ?_; refine zf (th_n ?_); refine zg (zh ?_); refine za ?_; refine za ?_; refine za ?_; refine zf (th_n ?_); refine zg ?_; refine zE ?_; obtain ⟨y13, hy, hF⟩ := zm hF; refine zW (sf118_L1 N a1c0p0 a1c0p1 a1c0p2 a1c0p3 a1c0p4 a1c0p5 a1c0p6 a1c0p7 a1c0p8 a1c0p9 a1c0p10 a1c0p11 a1c0p12 a1c0p13) (fun x1 T ds2 h nx => ∃ (F2 : PH), ds2 = [] ∧ PH.le F0 F2 ∧ St n0 h0 F0 F2 h nx [] ∧ T.get 1 = some (.func 119 [] [(.ptr (some (ba1c0, 0)))]) ∧ T.get 5 = some (i64 x1.1) ∧ T.get 6 = some (i64 x1.2)) (fun y e a σ => e = .exit 0 ∧ a.nt = 26 ∧ ∃ (F14 : PH), a.defers = [] ∧ PH.le F0 F14 ∧ St n0 h0 F0 F14 σ.h σ.nx [] ∧ a.tmps.get 5 = some (i64 y)) (fun x1 T ds2 h nx s hp hF => ?_) N _ y13 _ _ _ _ hy ⟨F0, rfl, (PH.le.refl _), st, gA, gA, gA⟩ (fun e a σ hne hq => ?_)
 ·obtain ⟨F2, rfl, le2, st, t1, t5, t6⟩ := hp; unfold sf118_L1 at hF; unfold L118w0; refine zg ?_; refine zg (zh ?_); refine za ?_; refine za ?_; refine ye ?_; refine zf (th_n ?_); refine zA (fun hb15 => ?_) (fun hb15 => ?_)
  ·have hF := zw hb15 hF; refine zB (th_n ?_); refine zE ?_; refine zg (zh ?_); refine za ?_; refine za ?_; obtain ⟨q16, hF⟩ := zi hF; refine zQ q16 ?_; obtain ⟨q17, hF⟩ := zi hF; refine vW q17 ?_; obtain ⟨q18, hF⟩ := zi hF; refine YD (shr_ok q18) rfl ?_; obtain ⟨q19, hF⟩ := zi hF; refine vW q19 ?_; refine za ?_; refine zf (th_n ?_); refine zg (zh ?_); refine za ?_; refine za ?_; obtain ⟨v20, e21, hF⟩ := zm hF; refine zF st (ct119 N e21 st.d st.sub (RowF.mono le2 ra1c0p4) (RowF.mono le2 ra1c0p5) (le2 _ _ hba1c0)) (fun n22 st => ?_); refine yg ?_; refine zf ?_
   refine th_n ?_; refine zA (fun hb23 => ?_) (fun hb23 => ?_)
   ·have hF := zw hb23 hF; refine zh ?_; refine za ?_; obtain ⟨q24, hF⟩ := zi hF; refine zQ q24 ?_; refine za ?_; refine zf ?_; refine ib_n ?_; refine thn ⟨_, (inj hF).symm, rfl, ?_⟩; dsimp only
    exact ⟨F2, rfl, le2, st, gA, gA, gA⟩
   ·have hF := zx hb23 hF; refine zh ?_; refine za ?_; refine za ?_; refine zf ?_; refine ib_n ?_; refine thn ⟨_, (inj hF).symm, rfl, ?_⟩; dsimp only
    exact ⟨F2, rfl, le2, st, gA, gA, gA⟩
  ·have hF := zx hb15 hF; refine z8 ?_; refine th_e ?_; refine th_e ?_; refine ⟨_, (inj hF).symm, rfl, rfl, ?_⟩; dsimp only
   exact ⟨F2, rfl, le2, st, gA⟩
 ·obtain ⟨N9, T, ds14⟩ := a; obtain ⟨h25, n26⟩ := σ; obtain ⟨rfl, e1, F14, e2, le14, st, t5⟩ := hq
  dsimp only at e1 e2
  subst e1
  subst e2
  dsimp only at st t5
  refine ib_e ?_; refine th_n ?_; refine zg (zh ?_); refine za ?_; refine za ?_; refine zf (th_n ?_); refine zt ?_; obtain rfl := inj hF
  exact zy st (Res.t gA Res.nil) rfl rfl
theorem ct118_2 (N : Nat) {a0 a1c0p0 a1c0p1 a1c0p2 a1c0p3 : Int} {a1c0p4 : (List (Int × Int × Int × Int))} {a1c0p5 : (List (Int × Int))} {a1c0p6 a1c0p7 a1c0p8 a1c0p9 : Int} {a1c0p10 : (Nat → Int)} {a1c0p11 a1c0p12 a1c0p13 r : Int} (hF : sf118_2 N a0 a1c0p0 a1c0p1 a1c0p2 a1c0p3 a1c0p4 a1c0p5 a1c0p6 a1c0p7 a1c0p8 a1c0p9 a1c0p10 a1c0p11 a1c0p12 a1c0p13 = some r) (hd : D h0 n0) (hs : F0.sub h0) {pa1c0p4 : Option (Nat × Nat)} {ca1c0p4 : Nat} {pa1c0p5 : Option (Nat × Nat)} {ca1c0p5 : Nat} {ba1c0 : Nat} (ra1c0p4 : RowF (rP rI (rP rI (rP rI rI))) 4 F0 pa1c0p4 ca1c0p4 a1c0p4) (ra1c0p5 : RowF (rP rI rI) 2 F0 pa1c0p5 ca1c0p5 a1c0p5) (hba1c0 : F0 ba1c0 = some (.cells ([(i64 a1c0p0), (i64 a1c0p1), (i64 a1c0p2), (i64 a1c0p3), (.slice pa1c0p4 (a1c0p4).length ca1c0p4), (.slice pa1c0p5 (a1c0p5).length ca1c0p5), (i64 a1c0p6), (i64 a1c0p7), (i64 a1c0p8), (i64 a1c0p9)] ++ ((eI .i64 22 a1c0p10) ++ [(i64 a1c0p11), (i64 a1c0p12), (i64 a1c0p13)])) .exact)) : C LW fl 118 [(i64 a0), (.func 121 [] [(.ptr (some (ba1c0, 0)))])] ⟨h0, n0⟩ (KS (i64 r) n0 h0) := by
 unfold sf118_2 at hF
 refine zT hd hs lw118 rfl rfl (by rfl) (fun st T hT => ?_)
 have hfl : n0 ≤ n0 := Nat.le_refl n0
 have t0 := hT 0 _ rfl
 have t1 := hT 1 _ rfl
 dsimp only [L118]
 refine zg (zh ?_); refine za ?_; refine zf (th_n ?_); refine zg (zh ?_); refine za ?_; refine za ?_; refine za ?_; refine zf (th_n ?_); refine zg ?_; refine zE ?_; obtain ⟨y13, hy, hF⟩ := zm hF; refine zW (sf118_2_L1 N a1c0p0 a1c0p1 a1c0p2 a1c0p3 a1c0p4 a1c0p5 a1c0p6 a1c0p7 a1c0p8 a1c0p9 a1c0p10 a1c0p11 a1c0p12 a1c0p13) (fun x1 T ds2 h nx => ∃ (F2 : PH), ds2 = [] ∧ PH.le F0 F2 ∧ St n0 h0 F0 F2 h nx [] ∧ T.get 1 = some (.func 121 [] [(.ptr (some (ba1c0, 0)))]) ∧ T.get 5 = some (i64 x1.1) ∧ T.get 6 = some (i64 x1.2)) (fun y e a σ => e = .exit 0 ∧ a.nt = 26 ∧ ∃ (F14 : PH), a.defers = [] ∧ PH.le F0 F14 ∧ St n0 h0 F0 F14 σ.h σ.nx [] ∧ a.tmps.get 5 = some (i64 y)) (fun x1 T ds2 h nx s hp hF => ?_) N _ y13 _ _ _ _ hy ⟨F0, rfl, (PH.le.refl _), st, gA, gA, gA⟩ (fun e a σ hne hq => ?_)
 ·obtain ⟨F2, rfl, le2, st, t1, t5, t6⟩ := hp; unfold sf118_2_L1 at hF; unfold L118w0; refine zg ?_; refine zg (zh ?_); refine za ?_; refine za ?_; refine ye ?_; refine zf (th_n ?_); refine zA (fun hb15 => ?_) (fun hb15 => ?_)
  ·have hF := zw hb15 hF; refine zB (th_n ?_); refine zE ?_; refine zg (zh ?_); refine za ?_; refine za ?_; obtain ⟨q16, hF⟩ := zi hF; refine zQ q16 ?_; obtain ⟨q17, hF⟩ := zi hF; refine vW q17 ?_; obtain ⟨q18, hF⟩ := zi hF; refine YD (shr_ok q18) rfl ?_; obtain ⟨q19, hF⟩ := zi hF; refine vW q19 ?_; refine za ?_; refine zf (th_n ?_); refine zg (zh ?_); refine za ?_; refine za ?_; obtain ⟨v20, e21, hF⟩ := zm hF; refine zF st (ct121 N e21 st.d st.sub (RowF.mono le2 ra1c0p4) (RowF.mono le2 ra1c0p5) (le2 _ _ hba1c0)) (fun n22 st => ?_); refine yg ?_; refine zf ?_
   refine th_n ?_; refine zA (fun hb23 => ?_) (fun hb23 => ?_)
   ·have hF := zw hb23 hF; refine zh ?_; refine za ?_; obtain ⟨q24, hF⟩ := zi hF; refine zQ q24 ?_; refine za ?_; refine zf ?_; refine ib_n ?_; refine thn ⟨_, (inj hF).symm, rfl, ?_⟩; dsimp only
    exact ⟨F2, rfl, le2, st, gA, gA, gA⟩
   ·have hF := zx hb23 hF; refine zh ?_; refine za ?_; refine za ?_; refine zf ?_; refine ib_n ?_; refine thn ⟨_, (inj hF).symm, rfl, ?_⟩; dsimp only
    exact ⟨F2, rfl, le2, st, gA, gA, gA⟩
  ·have hF := zx hb15 hF; refine z8 ?_; refine th_e ?_; refine th_e ?_; refine ⟨_, (inj hF).symm, rfl, rfl, ?_⟩; dsimp only
   exact ⟨F2, rfl, le2, st, gA⟩
 ·obtain ⟨N9, T, ds14⟩ := a; obtain ⟨h25, n26⟩ := σ; obtain ⟨rfl, e1, F14, e2, le14, st, t5⟩ := hq
  dsimp only at e1 e2
  subst e1
  subst e2
  dsimp only at st t5
  refine ib_e ?_; refine th_n ?_; refine zg (zh ?_); refine za ?_; refine za ?_; refine zf (th_n ?_); refine zt ?_; obtain rfl := inj hF
  exact zy st (Res.t gA Res.nil) rfl rfl
end Go.Hx.V

namespace Go.Hx.V
open Go.Hx
set_option maxRecDepth 20000
set_option maxHeartbeats 4000000
variable {fl : Nat} {h0 : Tr HBlk} {n0 : Nat} {F0 : PH}
attribute [local irreducible] W R C thenH inBlockH Tr.get Tr.set lo ck bnd ix iter
theorem ct67 (N : Nat) {a0_0 a0_1 a0_2 a0_3 : Int} {a0_4 : (List (Int × Int × Int × Int))} {a0_5 : (List (Int × Int))} {a0_6 a0_7 a0_8 a0_9 a1 : Int} {r : ((List (Int × Int)) × Int)} (hF : sf67 N a0_0 a0_1 a0_2 a0_3 a0_4 a0_5 a0_6 a0_7 a0_8 a0_9 a1 = some r) (hd : D h0 n0) (hs : F0.sub h0) (hfl : fl ≤ n0) {pa0_4 : Option (Nat × Nat)} {ca0_4 : Nat} {pa0_5 : Option (Nat × Nat)} {ca0_5 : Nat} (ra0_4 : RowF (rP rI (rP rI (rP rI rI))) 4 F0 pa0_4 ca0_4 a0_4) (ra0_5 : RowF (rP rI rI) 2 F0 pa0_5 ca0_5 a0_5) : C LW fl 67 [(.agg [(i64 a0_0), (i64 a0_1), (i64 a0_2), (i64 a0_3), (.slice pa0_4 (a0_4).length ca0_4), (.slice pa0_5 (a0_5).length ca0_5), (i64 a0_6), (i64 a0_7), (i64 a0_8), (i64 a0_9)]), (i64 a1), (.func 68 [] [])] ⟨h0, n0⟩ (KR (rvT2 (lvL (rP rI rI) 2) lvI) F0 h0 n0 r) := by
 unfold sf67 at hF
 refine vB hd hs hfl lw67 rfl rfl (by rfl) (fun st T hT => ?_)
 have t0 := hT 0 _ rfl
 have t1 := hT 1 _ rfl
 have t2 := hT 2 _ rfl
 dsimp only [L67]
 refine zg (zh ?_); refine zS st (fun b1 h2 n3 st => ?_); refine za ?_; refine za ?_; refine zf (th_n ?_); refine zg (zh ?_); refine zH (vs := [(i64 a0_0), (i64 a0_1), (i64 a0_2), (i64 a0_3), (.slice pa0_4 (a0_4).length ca0_4), (.slice pa0_5 (a0_5).length ca0_5), (i64 a0_6), (i64 a0_7), (i64 a0_8), (i64 a0_9)]) (st.at (i := 0) rfl).2.2 rfl ?_; refine za ?_; obtain ⟨v4, e5, hF⟩ := zm hF; refine yS st (ct105 N e5 st.d st.sub (Nat.le_trans hfl st.ext.le) ra0_4 ra0_5) (fun u6 F6 h6 n6 le6 rv6 st => ?_); obtain ⟨_, _, rfl, ⟨_, _, rfl, rfl, ⟨_, _, rfl, rfl, ⟨_, _, rfl, rfl, ⟨_, _, rfl, rfl, ⟨_, _, rfl, ⟨py7, cy7, rfl, ry7⟩, ⟨_, _, rfl, ⟨py8, cy8, rfl, ry8⟩, ⟨_, _, rfl, rfl, ⟨_, _, rfl, rfl, ⟨_, _, rfl, rfl, ⟨_, _, rfl, rfl, ⟨rfl, rfl⟩⟩⟩⟩⟩⟩⟩⟩⟩⟩⟩⟩ := rv6
 refine za ?_; refine v_xt rfl ?_; refine v_xt rfl ?_; refine zJ st (fun b9 h10 n11 st => ?_)
 have st := st.cells 1 rfl ([(i64 0), (i64 0), (i64 0), (i64 0), (.slice none 0 0), (.slice none 0 0), (i64 0), (i64 0), (i64 0), (i64 0)] ++ (eI .i64 22 (fun _ => 0))) rfl
 refine v_st (v := (.agg ([(i64 v4.1), (i64 v4.2.1), (i64 v4.2.2.1), (i64 v4.2.2.2.1), (.slice py7 (v4.2.2.2.2.1).length cy7), (.slice py8 (v4.2.2.2.2.2.1).length cy8), (i64 v4.2.2.2.2.2.2.1), (i64 v4.2.2.2.2.2.2.2.1), (i64 v4.2.2.2.2.2.2.2.2.1), (i64 v4.2.2.2.2.2.2.2.2.2.1)] ++ (eI .i64 22 v4.2.2.2.2.2.2.2.2.2.2.1)))) (cs' := ([(i64 v4.1), (i64 v4.2.1), (i64 v4.2.2.1), (i64 v4.2.2.2.1), (.slice py7 (v4.2.2.2.2.1).length cy7), (.slice py8 (v4.2.2.2.2.2.1).length cy8), (i64 v4.2.2.2.2.2.2.1), (i64 v4.2.2.2.2.2.2.2.1), (i64 v4.2.2.2.2.2.2.2.2.1), (i64 v4.2.2.2.2.2.2.2.2.2.1)] ++ (eI .i64 22 v4.2.2.2.2.2.2.2.2.2.2.1))) st 1 rfl (yb [] rfl (by simp [HV.cells, zC, yk])) (z2 _ zC (by rfl)) (zZ _ (by rfl) yj) hfl (fun h12 st => ?_)
 refine za ?_; refine zf (th_n ?_); refine zg ?_; refine zg (zh ?_); refine za ?_; refine vo ?_; refine zf (th_n ?_); refine zA (fun hb13 => ?_) (fun hb13 => ?_)
 ·have hF := zw hb13 hF; refine zg (zh ?_); refine za ?_; refine za ?_; refine za ?_; refine zf (th_n ?_); refine zt ?_; refine th_r ?_; obtain rfl := inj hF
  exact yO st (Res.t gA (Res.t gA Res.nil)) ⟨_, _, rfl, ⟨none, 0, rfl, RowF.nil⟩, rfl⟩
 ·have hF := zx hb13 hF; refine zB (th_n ?_); refine zg (zh ?_); refine v_fa ?_; refine v_fa ?_; refine v_fa ?_; refine zq (st.at (i := 1) rfl).2.2 rfl ?_; obtain ⟨q14, hF⟩ := zi hF; refine zQ q14 ?_; obtain ⟨q15, hF⟩ := zi hF
  have w15 : LR (rP rI rI) 2 F6 (List.replicate (Int.toNat (0 : Int)) (0, 0)) (Go.Hx.repl (Int.toNat (0 : Int)) [(i64 0), (i64 0)]) := LR.repl (⟨[(i64 0)], _, rfl, rfl, rfl⟩) _
  refine v_mk st (n := (List.replicate (Int.toNat (0 : Int)) (0, 0)).length) q15.1 q15.2.1 (by simp) q15.2.2.1 q15.2.2.2 (fun o15 h15 n15 st => ?_)
  refine za ?_; refine zf (th_n ?_); refine zg ?_; refine zg (zh ?_); refine za ?_; refine zf (th_n ?_); refine zE ?_; obtain ⟨y29, hy, hF⟩ := zm hF; refine zW (sf67_L1 N a1 v4) (fun x16 T ds17 h nx => ∃ (F17 : PH) (o18 : Option Nat) (c18 : Nat) (cs18 : List HV), ds17 = [] ∧ PH.le F6 F17 ∧ St n0 h0 F0 F17 h nx [.bx b1 [(i64 a0_0), (i64 a0_1), (i64 a0_2), (i64 a0_3), (.slice pa0_4 (a0_4).length ca0_4), (.slice pa0_5 (a0_5).length ca0_5), (i64 a0_6), (i64 a0_7), (i64 a0_8), (i64 a0_9)], .bx b9 ([(i64 v4.1), (i64 v4.2.1), (i64 v4.2.2.1), (i64 v4.2.2.2.1), (.slice py7 (v4.2.2.2.2.1).length cy7), (.slice py8 (v4.2.2.2.2.2.1).length cy8), (i64 v4.2.2.2.2.2.2.1), (i64 v4.2.2.2.2.2.2.2.1), (i64 v4.2.2.2.2.2.2.2.2.1), (i64 v4.2.2.2.2.2.2.2.2.2.1)] ++ (eI .i64 22 v4.2.2.2.2.2.2.2.2.2.2.1)), .ls o18 c18 cs18 2] ∧ LR (rP rI rI) 2 F17 x16.1 cs18 ∧ T.get 1 = some (i64 a1) ∧ T.get 2 = some (.func 68 [] []) ∧ T.get 8 = some (.ptr (some (b9, 0))) ∧ T.get 10 = some (slv o18 (x16.1).length c18) ∧ T.get 11 = some (i64 x16.2)) (fun y e a σ => e = .exit 0 ∧ a.nt = 44 ∧ ∃ (F30 : PH) (o31 : Option Nat) (c31 : Nat) (cs31 : List HV), a.defers = [] ∧ PH.le F6 F30 ∧ St n0 h0 F0 F30 σ.h σ.nx [.bx b1 [(i64 a0_0), (i64 a0_1), (i64 a0_2), (i64 a0_3), (.slice pa0_4 (a0_4).length ca0_4), (.slice pa0_5 (a0_5).length ca0_5), (i64 a0_6), (i64 a0_7), (i64 a0_8), (i64 a0_9)], .bx b9 ([(i64 v4.1), (i64 v4.2.1), (i64 v4.2.2.1), (i64 v4.2.2.2.1), (.slice py7 (v4.2.2.2.2.1).length cy7), (.slice py8 (v4.2.2.2.2.2.1).length cy8), (i64 v4.2.2.2.2.2.2.1), (i64 v4.2.2.2.2.2.2.2.1), (i64 v4.2.2.2.2.2.2.2.2.1), (i64 v4.2.2.2.2.2.2.2.2.2.1)] ++ (eI .i64 22 v4.2.2.2.2.2.2.2.2.2.2.1)), .ls o31 c31 cs31 2] ∧ LR (rP rI rI) 2 F30 y cs31 ∧ a.tmps.get 10 = some (slv o31 (y).length c31)) (fun x16 T ds17 h nx s hp hF => ?_) N _ y29 _ _ _ _ hy ⟨F6, o15, (Int.toNat (v4.1 + (1 : Int))), (Go.Hx.repl (Int.toNat (0 : Int)) [(i64 0), (i64 0)]), rfl, (PH.le.refl _), st, w15, gA, gA, gA, gA, gA⟩ (fun e a σ hne hq => ?_)
  ·obtain ⟨F17, o18, c18, cs18, rfl, le17, st, w18, t1, t2, t8, t10, t11⟩ := hp
   unfold sf67_L1 at hF; unfold L67w0; refine zg ?_; refine zg (zh ?_); refine za ?_; refine v_fa ?_; refine v_fa ?_; refine v_fa ?_; refine zq (st.at (i := 1) rfl).2.2 rfl ?_; refine yw ?_; refine zf (th_n ?_); refine zA (fun hb32 => ?_) (fun hb32 => ?_)
   ·have hF := zw hb32 hF; refine zB (th_n ?_); refine zg ?_; refine zE ?_; refine zh ?_; refine za ?_; refine za ?_; refine zH (vs := ([(i64 v4.1), (i64 v4.2.1), (i64 v4.2.2.1), (i64 v4.2.2.2.1), (.slice py7 (v4.2.2.2.2.1).length cy7), (.slice py8 (v4.2.2.2.2.2.1).length cy8), (i64 v4.2.2.2.2.2.2.1), (i64 v4.2.2.2.2.2.2.2.1), (i64 v4.2.2.2.2.2.2.2.2.1), (i64 v4.2.2.2.2.2.2.2.2.2.1)] ++ (eI .i64 22 v4.2.2.2.2.2.2.2.2.2.2.1))) (st.at (i := 1) rfl).2.2 (zX (E := (eI .i64 22 v4.2.2.2.2.2.2.2.2.2.2.1)) [] [(i64 v4.1), (i64 v4.2.1), (i64 v4.2.2.1), (i64 v4.2.2.2.1), (.slice py7 (v4.2.2.2.2.1).length cy7), (.slice py8 (v4.2.2.2.2.2.1).length cy8), (i64 v4.2.2.2.2.2.2.1), (i64 v4.2.2.2.2.2.2.2.1), (i64 v4.2.2.2.2.2.2.2.2.1), (i64 v4.2.2.2.2.2.2.2.2.2.1)] rfl zC rfl) ?_
    refine za ?_; refine za ?_; obtain ⟨v33, e34, hF⟩ := zm hF; refine zF st (ct68 N e34 st.d st.sub (RowF.mono le17 ry7) (RowF.mono le17 ry8)) (fun n35 st => ?_); refine v_bs (cs := [(i64 v33.1), (i64 v33.2)]) st rfl (fun b36 h37 n38 st => ?_); obtain ⟨q39, hF⟩ := zi hF
    have w39 : LR (rP rI rI) 2 F17 (x16.1 ++ [(v33.1, v33.2)]) (cs18 ++ [(i64 v33.1), (i64 v33.2)]) := LR.app w18 (LR.one (⟨[(i64 v33.1)], _, rfl, rfl, rfl⟩))
    refine jC (n := 1) (ox := 0) (m := (x16.1 ++ [(v33.1, v33.2)]).length) (row := [(i64 v33.1), (i64 v33.2)]) st 2 rfl w18.1 (st.at (i := 3) rfl).2.2 rfl rfl q39 hfl (by decide) (by decide) (by simp) (fun o39 c39 h39 n39 st => ?_)
    refine za ?_; refine zf ?_; refine ib_n ?_; refine th_n ?_; refine zh ?_; refine za ?_; obtain ⟨q40, hF⟩ := zi hF; refine zQ q40 ?_; refine za ?_; refine zf ?_; refine thn ⟨_, (inj hF).symm, rfl, ?_⟩; dsimp only
    exact ⟨F17, o39, c39, (cs18 ++ [(i64 v33.1), (i64 v33.2)]), rfl, le17, (st.drop (by first | exact List.Sublist.refl _ | (repeat first | exact List.nil_sublist _ | refine List.Sublist.cons_cons _ ?_ | refine List.Sublist.cons _ ?_))), w39, gA, gA, gA, gA, gA⟩
   ·have hF := zx hb32 hF; refine z8 ?_; refine th_e ?_; refine th_e ?_; refine ⟨_, (inj hF).symm, rfl, rfl, ?_⟩; dsimp only
    exact ⟨F17, o18, c18, cs18, rfl, le17, st, w18, gA⟩
  ·obtain ⟨N9, T, ds30⟩ := a; obtain ⟨h42, n43⟩ := σ; obtain ⟨rfl, e1, F30, o31, c31, cs31, e2, le30, st, w31, t10⟩ := hq
   dsimp only at e1 e2
   subst e1
   subst e2
   dsimp only at st t10
   refine ib_e ?_; refine th_n ?_; refine zg (zh ?_); refine za ?_; refine za ?_; refine za ?_; refine zf (th_n ?_); refine zt ?_; obtain rfl := inj hF
   obtain ⟨F44, le44, st, rf44⟩ := St.freeze st 2 rfl w31 (by decide)
   exact yO st (Res.t gA (Res.t gA Res.nil)) ⟨_, _, rfl, ⟨_, _, rfl, rf44⟩, rfl⟩
theorem ct83 (N : Nat) {a0_0 a0_1 a0_2 a0_3 : Int} {a0_4 : (List (Int × Int × Int × Int))} {a0_5 : (List (Int × Int))} {a0_6 a0_7 a0_8 a0_9 : Int} {a0_10 : (Nat → Int)} {a0_11 a0_12 a0_13 : Int} {r : (Int × Int × Bool)} (hF : sf83 N a0_0 a0_1 a0_2 a0_3 a0_4 a0_5 a0_6 a0_7 a0_8 a0_9 a0_10 a0_11 a0_12 a0_13 = some r) (hd : D h0 n0) (hs : F0.sub h0) {pa0_4 : Option (Nat × Nat)} {ca0_4 : Nat} {pa0_5 : Option (Nat × Nat)} {ca0_5 : Nat} (ra0_4 : RowF (rP rI (rP rI (rP rI rI))) 4 F0 pa0_4 ca0_4 a0_4) (ra0_5 : RowF (rP rI rI) 2 F0 pa0_5 ca0_5 a0_5) : C LW fl 83 [(.agg ([(i64 a0_0), (i64 a0_1), (i64 a0_2), (i64 a0_3), (.slice pa0_4 (a0_4).length ca0_4), (.slice pa0_5 (a0_5).length ca0_5), (i64 a0_6), (i64 a0_7), (i64 a0_8), (i64 a0_9)] ++ ((eI .i64 22 a0_10) ++ [(i64 a0_11), (i64 a0_12), (i64 a0_13)])))] ⟨h0, n0⟩ (KS (.tuple [(.agg [(i64 r.1), (i64 r.2.1)]), (.bool r.2.2)]) n0 h0) := by
 unfold sf83 at hF
 refine zT hd hs lw83 rfl rfl (by rfl) (fun st T hT => ?_)
 have hfl : n0 ≤ n0 := Nat.le_refl n0
 have t0 := hT 0 _ rfl
 dsimp only [L83]
 refine zg (zh ?_); refine zS st (fun b1 h2 n3 st => ?_); refine zJ st (fun b4 h5 n6 st => ?_); refine za ?_; refine zf (th_n ?_); refine zg (zh ?_); refine v_mf ?_; obtain ⟨v7, e8, hF⟩ := zm hF; refine zF st (ct118 N e8 st.d (all_sub _) (RowF.mono st.all_le ra0_4) (RowF.mono st.all_le ra0_5) (st.at (i := 0) rfl).2.2) (fun n9 st => ?_); refine za ?_; refine zf (th_n ?_); refine zg (zh ?_); refine v_mf ?_; obtain ⟨v10, e11, hF⟩ := zm hF; refine zF st (ct118_2 N e11 st.d (all_sub _) (RowF.mono st.all_le ra0_4) (RowF.mono st.all_le ra0_5) (st.at (i := 0) rfl).2.2) (fun n12 st => ?_); refine za ?_
 refine zf (th_n ?_); refine zg (zh ?_); refine za ?_; refine za ?_; obtain ⟨q13, hF⟩ := zi hF; refine yn q13 ?_; refine zO (cs := [(i64 v7), (i64 (v10 - (1 : Int)))]) rfl ?_; refine za ?_; refine za ?_; refine ye ?_; refine v_st (cs' := [(i64 v7), (i64 (v10 - (1 : Int)))]) st 1 rfl rfl rfl rfl hfl (fun h14 st => ?_); refine za ?_; refine zf (th_n ?_); refine zt ?_; obtain rfl := inj hF
 exact zy st (Res.c gA (st.at (i := 1) rfl).2.2 (show takeN _ _ = some [(i64 v7), (i64 (v10 - (1 : Int)))] from rfl) (Res.t gA Res.nil)) rfl rfl
end Go.Hx.V

namespace Go.Hx.V
open Go.Hx
set_option maxRecDepth 20000
set_option maxHeartbeats 4000000
variable {fl : Nat} {h0 : Tr HBlk} {n0 : Nat} {F0 : PH}
attribute [local irreducible] W R C thenH inBlockH Tr.get Tr.set lo ck bnd ix iter
end Go.Hx.V

namespace Go.Hx.V
open Go.Hx
set_option maxRecDepth 20000
set_option maxHeartbeats 4000000
variable {fl : Nat} {h0 : Tr HBlk} {n0 : Nat} {F0 : PH}
attribute [local irreducible] W R C thenH inBlockH Tr.get Tr.set lo ck bnd ix iter
theorem ct22 (N : Nat) {a0_0 a0_1 a0_2 a0_3 : Int} {a0_4 : (List (Int × Int × Int × Int))} {a0_5 : (List (Int × Int))} {a0_6 a0_7 a0_8 a0_9 a1 : Int} {r : ((List (Int × Int)) × Int)} (hF : sf22 N a0_0 a0_1 a0_2 a0_3 a0_4 a0_5 a0_6 a0_7 a0_8 a0_9 a1 = some r) (hd : D h0 n0) (hs : F0.sub h0) (hfl : fl ≤ n0) {pa0_4 : Option (Nat × Nat)} {ca0_4 : Nat} {pa0_5 : Option (Nat × Nat)} {ca0_5 : Nat} (ra0_4 : RowF (rP rI (rP rI (rP rI rI))) 4 F0 pa0_4 ca0_4 a0_4) (ra0_5 : RowF (rP rI rI) 2 F0 pa0_5 ca0_5 a0_5) : C LW fl 22 [(.agg [(i64 a0_0), (i64 a0_1), (i64 a0_2), (i64 a0_3), (.slice pa0_4 (a0_4).length ca0_4), (.slice pa0_5 (a0_5).length ca0_5), (i64 a0_6), (i64 a0_7), (i64 a0_8), (i64 a0_9)]), (i64 a1)] ⟨h0, n0⟩ (KR (rvT2 (lvL (rP rI rI) 2) lvI) F0 h0 n0 r) := by
 unfold sf22 at hF
 refine vB hd hs hfl lw22 rfl rfl (by rfl) (fun st T hT => ?_)
 have t0 := hT 0 _ rfl
 have t1 := hT 1 _ rfl
 dsimp only [L22]
 refine zg (zh ?_); refine zS st (fun b1 h2 n3 st => ?_); refine za ?_; refine za ?_; refine zf (th_n ?_); refine zg (zh ?_); refine zH (vs := [(i64 a0_0), (i64 a0_1), (i64 a0_2), (i64 a0_3), (.slice pa0_4 (a0_4).length ca0_4), (.slice pa0_5 (a0_5).length ca0_5), (i64 a0_6), (i64 a0_7), (i64 a0_8), (i64 a0_9)]) (st.at (i := 0) rfl).2.2 rfl ?_; refine za ?_; obtain ⟨v4, e5, hF⟩ := zm hF; refine yS st (ct67 N e5 st.d st.sub (Nat.le_trans hfl st.ext.le) ra0_4 ra0_5) (fun u6 F6 h6 n6 le6 rv6 st => ?_); obtain ⟨_, _, rfl, ⟨py7, cy7, rfl, ry7⟩, rfl⟩ := rv6; refine v_xt rfl ?_; refine v_xt rfl ?_; refine za ?_; refine za ?_
 refine zf (th_n ?_); refine zt ?_; obtain rfl := inj hF
 exact yO st (Res.t gA (Res.t gA Res.nil)) ⟨_, _, rfl, ⟨_, _, rfl, ry7⟩, rfl⟩
theorem ct36 (N : Nat) {a0_0 a0_1 a0_2 a0_3 : Int} {a0_4 : (List (Int × Int × Int × Int))} {a0_5 : (List (Int × Int))} {a0_6 a0_7 a0_8 a0_9 a1_0 a1_1 a1_2 : Int} {r : (Int × Int × Int)} (hF : sf36 N a0_0 a0_1 a0_2 a0_3 a0_4 a0_5 a0_6 a0_7 a0_8 a0_9 a1_0 a1_1 a1_2 = some r) (hd : D h0 n0) (hs : F0.sub h0) {pa0_4 : Option (Nat × Nat)} {ca0_4 : Nat} {pa0_5 : Option (Nat × Nat)} {ca0_5 : Nat} (ra0_4 : RowF (rP rI (rP rI (rP rI rI))) 4 F0 pa0_4 ca0_4 a0_4) (ra0_5 : RowF (rP rI rI) 2 F0 pa0_5 ca0_5 a0_5) : C LW fl 36 [(.agg [(i64 a0_0), (i64 a0_1), (i64 a0_2), (i64 a0_3), (.slice pa0_4 (a0_4).length ca0_4), (.slice pa0_5 (a0_5).length ca0_5), (i64 a0_6), (i64 a0_7), (i64 a0_8), (i64 a0_9)]), (.agg [(i64 a1_0), (i64 a1_1), (i64 a1_2)])] ⟨h0, n0⟩ (KS (.tuple [(.agg [(i64 r.1), (i64 r.2.1)]), (i64 r.2.2)]) n0 h0) := by
 unfold sf36 at hF
 refine zT hd hs lw36 rfl rfl (by rfl) (fun st T hT => ?_)
 have hfl : n0 ≤ n0 := Nat.le_refl n0
 have t0 := hT 0 _ rfl
 have t1 := hT 1 _ rfl
 dsimp only [L36]
 refine zg (zh ?_); refine zS st (fun b1 h2 n3 st => ?_); refine zS st (fun b4 h5 n6 st => ?_); refine zJ st (fun b7 h8 n9 st => ?_); refine za ?_; refine zf (th_n ?_); refine zg (zh ?_); refine zH (vs := [(i64 a0_0), (i64 a0_1), (i64 a0_2), (i64 a0_3), (.slice pa0_4 (a0_4).length ca0_4), (.slice pa0_5 (a0_5).length ca0_5), (i64 a0_6), (i64 a0_7), (i64 a0_8), (i64 a0_9)]) (st.at (i := 0) rfl).2.2 rfl ?_; refine zH (vs := [(i64 a1_0), (i64 a1_1), (i64 a1_2)]) (st.at (i := 1) rfl).2.2 rfl ?_; obtain ⟨v10, e11, hF⟩ := zm hF; refine yS st (ct82 N e11 st.d st.sub (Nat.le_trans hfl st.ext.le) ra0_4 ra0_5) (fun u12 F12 h12 n12 le12 rv12 st => ?_)
 obtain ⟨_, _, rfl, ⟨_, _, rfl, rfl, ⟨_, _, rfl, rfl, ⟨_, _, rfl, rfl, ⟨_, _, rfl, rfl, ⟨_, _, rfl, ⟨py13, cy13, rfl, ry13⟩, ⟨_, _, rfl, ⟨py14, cy14, rfl, ry14⟩, ⟨_, _, rfl, rfl, ⟨_, _, rfl, rfl, ⟨_, _, rfl, rfl, ⟨_, _, rfl, rfl, ⟨_, _, rfl, rfl, ⟨_, _, rfl, rfl, ⟨_, _, rfl, rfl, ⟨rfl, rfl⟩⟩⟩⟩⟩⟩⟩⟩⟩⟩⟩⟩⟩⟩⟩ := rv12; refine za ?_; refine v_xt rfl ?_; refine v_xt rfl ?_; refine zJ st (fun b15 h16 n17 st => ?_)
 have st := st.cells 3 rfl ([(i64 0), (i64 0), (i64 0), (i64 0), (.slice none 0 0), (.slice none 0 0), (i64 0), (i64 0), (i64 0), (i64 0)] ++ ((eI .i64 22 (fun _ => 0)) ++ [(i64 0), (i64 0), (i64 0)])) rfl
 refine v_st (v := (.agg ([(i64 v10.1), (i64 v10.2.1), (i64 v10.2.2.1), (i64 v10.2.2.2.1), (.slice py13 (v10.2.2.2.2.1).length cy13), (.slice py14 (v10.2.2.2.2.2.1).length cy14), (i64 v10.2.2.2.2.2.2.1), (i64 v10.2.2.2.2.2.2.2.1), (i64 v10.2.2.2.2.2.2.2.2.1), (i64 v10.2.2.2.2.2.2.2.2.2.1)] ++ ((eI .i64 22 v10.2.2.2.2.2.2.2.2.2.2.1) ++ [(i64 v10.2.2.2.2.2.2.2.2.2.2.2.1), (i64 v10.2.2.2.2.2.2.2.2.2.2.2.2.1), (i64 v10.2.2.2.2.2.2.2.2.2.2.2.2.2.1)])))) (cs' := ([(i64 v10.1), (i64 v10.2.1), (i64 v10.2.2.1), (i64 v10.2.2.2.1), (.slice py13 (v10.2.2.2.2.1).length cy13), (.slice py14 (v10.2.2.2.2.2.1).length cy14), (i64 v10.2.2.2.2.2.2.1), (i64 v10.2.2.2.2.2.2.2.1), (i64 v10.2.2.2.2.2.2.2.2.1), (i64 v10.2.2.2.2.2.2.2.2.2.1)] ++ ((eI .i64 22 v10.2.2.2.2.2.2.2.2.2.2.1) ++ [(i64 v10.2.2.2.2.2.2.2.2.2.2.2.1), (i64 v10.2.2.2.2.2.2.2.2.2.2.2.2.1), (i64 v10.2.2.2.2.2.2.2.2.2.2.2.2.2.1)]))) st 3 rfl rfl rfl rfl hfl (fun h18 st => ?_)
 refine za ?_; refine zf (th_n ?_); refine zg ?_; refine zg (zh ?_); refine za ?_; refine vo ?_; refine zf (th_n ?_); refine zA (fun hb19 => ?_) (fun hb19 => ?_)
 ·have hF := zw hb19 hF; refine zg (zh ?_); refine zO (cs := [(i64 0), (i64 0)]) rfl ?_; refine za ?_; refine v_st (cs' := [(i64 0), (i64 0)]) st 2 rfl rfl rfl rfl hfl (fun h20 st => ?_); refine za ?_; refine zf (th_n ?_); refine zt ?_; refine th_r ?_; obtain rfl := inj hF
  exact zy st (Res.c gA (st.at (i := 2) rfl).2.2 (show takeN _ _ = some [(i64 0), (i64 0)] from rfl) (Res.t gA Res.nil)) rfl rfl
 ·have hF := zx hb19 hF; refine zB (th_n ?_); refine zg (zh ?_); refine zH (vs := ([(i64 v10.1), (i64 v10.2.1), (i64 v10.2.2.1), (i64 v10.2.2.2.1), (.slice py13 (v10.2.2.2.2.1).length cy13), (.slice py14 (v10.2.2.2.2.2.1).length cy14), (i64 v10.2.2.2.2.2.2.1), (i64 v10.2.2.2.2.2.2.2.1), (i64 v10.2.2.2.2.2.2.2.2.1), (i64 v10.2.2.2.2.2.2.2.2.2.1)] ++ ((eI .i64 22 v10.2.2.2.2.2.2.2.2.2.2.1) ++ [(i64 v10.2.2.2.2.2.2.2.2.2.2.2.1), (i64 v10.2.2.2.2.2.2.2.2.2.2.2.2.1), (i64 v10.2.2.2.2.2.2.2.2.2.2.2.2.2.1)]))) (st.at (i := 3) rfl).2.2 rfl ?_; obtain ⟨v21, e22, hF⟩ := zm hF; refine zF st (ct83 N e22 st.d st.sub ry13 ry14) (fun n23 st => ?_); refine za ?_
  refine v_xt rfl ?_; refine v_xt rfl ?_; refine zJ st (fun b24 h25 n26 st => ?_); refine v_st (cs' := [(i64 v21.1), (i64 v21.2.1)]) st 4 rfl rfl rfl rfl hfl (fun h27 st => ?_); refine za ?_; refine zf (th_n ?_); refine zg ?_; refine zg (zh ?_); refine za ?_; refine yg ?_; refine zf (th_n ?_); refine zA (fun hb28 => ?_) (fun hb28 => ?_)
  ·have hF := zw hb28 hF; refine zg (zh ?_); refine zO (cs := [(i64 0), (i64 0)]) rfl ?_; refine v_st (cs' := [(i64 0), (i64 0)]) st 2 rfl rfl rfl rfl hfl (fun h29 st => ?_); refine za ?_; refine zf (th_n ?_); refine zt ?_; refine th_r ?_; obtain rfl := inj hF
   exact zy st (Res.c gA (st.at (i := 2) rfl).2.2 (show takeN _ _ = some [(i64 0), (i64 0)] from rfl) (Res.t gA Res.nil)) rfl rfl
  ·have hF := zx hb28 hF; refine zB (th_n ?_); refine zg (zh ?_); refine zH (vs := [(i64 v21.1), (i64 v21.2.1)]) (st.at (i := 4) rfl).2.2 rfl ?_; refine v_st (cs' := [(i64 v21.1), (i64 v21.2.1)]) st 2 rfl rfl rfl rfl hfl (fun h30 st => ?_); refine za ?_; refine zf (th_n ?_); refine zt ?_; obtain rfl := inj hF
   exact zy st (Res.c gA (st.at (i := 2) rfl).2.2 (show takeN _ _ = some [(i64 v21.1), (i64 v21.2.1)] from rfl) (Res.t gA Res.nil)) rfl rfl
end Go.Hx.V

namespace Go.Hx.V
open Go.Hx
set_option maxRecDepth 20000
set_option maxHeartbeats 4000000
variable {fl : Nat} {h0 : Tr HBlk} {n0 : Nat} {F0 : PH}
attribute [local irreducible] W R C thenH inBlockH Tr.get Tr.set lo ck bnd ix iter
end Go.Hx.V

namespace Go.Hx.V
open Go.Hx
set_option maxRecDepth 20000
set_option maxHeartbeats 4000000
variable {fl : Nat} {h0 : Tr HBlk} {n0 : Nat} {F0 : PH}
attribute [local irreducible] W R C thenH inBlockH Tr.get Tr.set lo ck bnd ix iter
end Go.Hx.V

namespace Go.Hx.V
open Go.Hx
set_option maxRecDepth 20000
set_option maxHeartbeats 4000000
variable {fl : Nat} {h0 : Tr HBlk} {n0 : Nat} {F0 : PH}
attribute [local irreducible] W R C thenH inBlockH Tr.get Tr.set lo ck bnd ix iter
end Go.Hx.V

namespace Go.Hx.V
open Go.Hx
set_option maxRecDepth 20000
set_option maxHeartbeats 4000000
variable {fl : Nat} {h0 : Tr HBlk} {n0 : Nat} {F0 : PH}
attribute [local irreducible] W R C thenH inBlockH Tr.get Tr.set lo ck bnd ix iter
end Go.Hx.V

namespace Go.Hx.V
open Go.Hx
set_option maxRecDepth 20000
set_option maxHeartbeats 4000000
variable {fl : Nat} {h0 : Tr HBlk} {n0 : Nat} {F0 : PH}
attribute [local irreducible] W R C thenH inBlockH Tr.get Tr.set lo ck bnd ix iter
theorem ct9 (N : Nat) {a0_0 a0_1 a0_2 a0_3 : Int} {a0_4 : (List (Int × Int × Int × Int))} {a0_5 : (List (Int × Int))} {a0_6 a0_7 a0_8 a0_9 : Int} {a1 : (List Int)} {a2 : (List Int)} {a3_0 a3_1 a3_2 a4 a5 : Int} {r : Bool} (hF : sf9 N a0_0 a0_1 a0_2 a0_3 a0_4 a0_5 a0_6 a0_7 a0_8 a0_9 a1 a2 a3_0 a3_1 a3_2 a4 a5 = some r) (hd : D h0 n0) (hs : F0.sub h0) {pa0_4 : Option (Nat × Nat)} {ca0_4 : Nat} {pa0_5 : Option (Nat × Nat)} {ca0_5 : Nat} {pa1 : Option (Nat × Nat)} {ca1 : Nat} {pa2 : Option (Nat × Nat)} {ca2 : Nat} (ra0_4 : RowF (rP rI (rP rI (rP rI rI))) 4 F0 pa0_4 ca0_4 a0_4) (ra0_5 : RowF (rP rI rI) 2 F0 pa0_5 ca0_5 a0_5) (ra1 : RowF (rK .u16) 1 F0 pa1 ca1 a1) (ra2 : RowF (rK .u16) 1 F0 pa2 ca2 a2) : C LW fl 9 [(.agg [(i64 a0_0), (i64 a0_1), (i64 a0_2), (i64 a0_3), (.slice pa0_4 (a0_4).length ca0_4), (.slice pa0_5 (a0_5).length ca0_5), (i64 a0_6), (i64 a0_7), (i64 a0_8), (i64 a0_9)]), (.slice pa1 (a1).length ca1), (.slice pa2 (a2).length ca2), (.agg [(i64 a3_0), (i64 a3_1), (i64 a3_2)]), (.int .u16 a4), (.int .u16 a5)] ⟨h0, n0⟩ (KS (.bool r) n0 h0) := by
 unfold sf9 at hF
 refine zT hd hs lw9 rfl rfl (by rfl) (fun st T hT => ?_)
 have hfl : n0 ≤ n0 := Nat.le_refl n0
 have t0 := hT 0 _ rfl
 have t1 := hT 1 _ rfl
 have t2 := hT 2 _ rfl
 have t3 := hT 3 _ rfl
 have t4 := hT 4 _ rfl
 have t5 := hT 5 _ rfl
 dsimp only [L9]
 refine zg (zh ?_); refine zS st (fun b1 h2 n3 st => ?_); refine zS st (fun b4 h5 n6 st => ?_); refine za ?_; refine zf (th_n ?_); refine zg ?_; refine zg (zh ?_); refine zH (vs := [(i64 a0_0), (i64 a0_1), (i64 a0_2), (i64 a0_3), (.slice pa0_4 (a0_4).length ca0_4), (.slice pa0_5 (a0_5).length ca0_5), (i64 a0_6), (i64 a0_7), (i64 a0_8), (i64 a0_9)]) (st.at (i := 0) rfl).2.2 rfl ?_; obtain ⟨v7, e8, hF⟩ := zm hF; refine zF st (ct52 N e8 st.d st.sub ra0_4 ra0_5) (fun n9 st => ?_); refine yg ?_; refine zf (th_n ?_); refine zA (fun hb10 => ?_) (fun hb10 => ?_)
 ·have hF := zw hb10 hF; refine zg (zh ?_); refine zF st (ct_wakes (h := _) (nx := _)) (fun n11 st => ?_); refine za ?_; refine zf (th_n ?_); refine zt ?_; refine th_r ?_; obtain rfl := inj hF
  exact zy st (Res.t gA Res.nil) rfl rfl
 ·have hF := zx hb10 hF; refine zB (th_n ?_); refine zg (zh ?_); refine zH (vs := [(i64 a0_0), (i64 a0_1), (i64 a0_2), (i64 a0_3), (.slice pa0_4 (a0_4).length ca0_4), (.slice pa0_5 (a0_5).length ca0_5), (i64 a0_6), (i64 a0_7), (i64 a0_8), (i64 a0_9)]) (st.at (i := 0) rfl).2.2 rfl ?_; refine za ?_; refine za ?_; obtain ⟨v12, e13, hF⟩ := zm hF; refine yS st (ct53 N e13 st.d st.sub (Nat.le_trans hfl st.ext.le) ra0_4 ra0_5 ra1 ra2) (fun u14 F14 h14 n14 le14 rv14 st => ?_); obtain ⟨_, _, rfl, ⟨_, _, rfl, rfl, ⟨_, _, rfl, rfl, ⟨_, _, rfl, rfl, ⟨_, _, rfl, rfl, ⟨_, _, rfl, ⟨py15, cy15, rfl, ry15⟩, ⟨_, _, rfl, ⟨py16, cy16, rfl, ry16⟩, ⟨_, _, rfl, rfl, ⟨_, _, rfl, rfl, ⟨_, _, rfl, rfl, ⟨rfl, ⟨py17, cy17, rfl, ry17⟩⟩⟩⟩⟩⟩⟩⟩⟩⟩⟩⟩ := rv14
  refine za ?_; refine v_xt rfl ?_; refine v_xt rfl ?_; refine zJ st (fun b18 h19 n20 st => ?_); refine v_st (cs' := [(i64 v12.1), (i64 v12.2.1), (i64 v12.2.2.1), (i64 v12.2.2.2.1), (.slice py15 (v12.2.2.2.2.1).length cy15), (.slice py16 (v12.2.2.2.2.2.1).length cy16), (i64 v12.2.2.2.2.2.2.1), (i64 v12.2.2.2.2.2.2.2.1), (i64 v12.2.2.2.2.2.2.2.2.1), (i64 v12.2.2.2.2.2.2.2.2.2.1)]) st 2 rfl rfl rfl rfl hfl (fun h21 st => ?_); refine za ?_; refine zf (th_n ?_); refine zg (zh ?_); refine za ?_; obtain ⟨q22, hF⟩ := zi hF; refine vW q22 ?_; obtain ⟨q23, hF⟩ := zi hF; refine uI q23 ?_; refine za ?_; refine zf (th_n ?_); refine zg ?_
  refine z9 (Nat.le_trans hfl st.ext.le) (fun dw => ?_); refine zd st.d dw (fun hm vw => zH (vs := [(i64 v12.1), (i64 v12.2.1), (i64 v12.2.2.1), (i64 v12.2.2.2.1), (.slice py15 (v12.2.2.2.2.1).length cy15), (.slice py16 (v12.2.2.2.2.2.1).length cy16), (i64 v12.2.2.2.2.2.2.1), (i64 v12.2.2.2.2.2.2.2.1), (i64 v12.2.2.2.2.2.2.2.2.1), (i64 v12.2.2.2.2.2.2.2.2.2.1)]) (vw.bx (st.at (i := 2) rfl)) rfl zb) ?_; obtain ⟨v24, e25, hF⟩ := zm hF; refine yl st.d dw (fun hm vw => yo (ct27 N e25 vw.d (vw.sub st) ry15 ry16) (fun n' hn' => ym hn')) (fun n26 hn' dw => ?_); refine zd st.d dw (fun hm vw => za zb) ?_; obtain ⟨v27, e28, hF⟩ := zm hF; refine yl st.d dw (fun hm vw => yo (ct54 N e28 vw.d (vw.sub st) ) (fun n' hn' => ym hn')) (fun n29 hn' dw => ?_)
  refine zd st.d dw (fun hm vw => zH (vs := [(i64 v12.1), (i64 v12.2.1), (i64 v12.2.2.1), (i64 v12.2.2.2.1), (.slice py15 (v12.2.2.2.2.1).length cy15), (.slice py16 (v12.2.2.2.2.2.1).length cy16), (i64 v12.2.2.2.2.2.2.1), (i64 v12.2.2.2.2.2.2.2.1), (i64 v12.2.2.2.2.2.2.2.2.1), (i64 v12.2.2.2.2.2.2.2.2.2.1)]) (vw.bx (st.at (i := 2) rfl)) rfl zb) ?_; refine yd st.d dw rfl (fun h30 ex vs => ?_)
  have st := st.ext1 ex
  refine za ?_; obtain ⟨v31, e32, hF⟩ := zm hF; refine zF st (ct55 N e32 st.d st.sub ry15 ry16) (fun n33 st => ?_); refine za ?_; obtain ⟨q34, hF⟩ := zi hF; refine v_quok q34 ?_; obtain ⟨v35, e36, hF⟩ := zm hF; refine zF st (ct54 N e36 st.d st.sub ) (fun n37 st => ?_); refine za ?_; refine za ?_; refine zf (th_n ?_); refine zg (zh ?_); refine zH (vs := [(i64 v12.1), (i64 v12.2.1), (i64 v12.2.2.1), (i64 v12.2.2.2.1), (.slice py15 (v12.2.2.2.2.1).length cy15), (.slice py16 (v12.2.2.2.2.2.1).length cy16), (i64 v12.2.2.2.2.2.2.1), (i64 v12.2.2.2.2.2.2.2.1), (i64 v12.2.2.2.2.2.2.2.2.1), (i64 v12.2.2.2.2.2.2.2.2.2.1)]) (st.at (i := 2) rfl).2.2 rfl ?_
  obtain ⟨v38, e39, hF⟩ := zm hF; refine yS st (ct21 N e39 st.d st.sub (Nat.le_trans hfl st.ext.le) ry15 ry16) (fun u40 F40 h40 n40 le40 rv40 st => ?_)
  obtain ⟨_, rfl, ⟨_, _, rfl, rfl, ⟨_, _, rfl, rfl, ⟨_, _, rfl, rfl, ⟨_, _, rfl, rfl, ⟨_, _, rfl, ⟨py42, cy42, rfl, ry42⟩, ⟨_, _, rfl, ⟨py43, cy43, rfl, ry43⟩, ⟨_, _, rfl, rfl, ⟨_, _, rfl, rfl, ⟨_, _, rfl, rfl, rfl⟩⟩⟩⟩⟩⟩⟩⟩⟩⟩ := rv40; refine za ?_; obtain ⟨v44, e45, hF⟩ := zm hF; refine yS st (ct22 N e45 st.d st.sub (Nat.le_trans hfl st.ext.le) ry42 ry43) (fun u46 F46 h46 n46 le46 rv46 st => ?_)
  have le48 := PH.le.trans le40 le46
  obtain ⟨_, _, rfl, ⟨py49, cy49, rfl, ry49⟩, rfl⟩ := rv46; refine za ?_; refine v_xt rfl ?_; refine v_xt rfl ?_; refine za ?_; refine za ?_; refine zf (th_n ?_); obtain ⟨y62, hA63, hF⟩ := zm hF; refine yB (fun T ds68 h nx => ∃ u, y62 = (.inr u) ∧ ∃ (F68 : PH), ds68 = [] ∧ PH.le F46 F68 ∧ St n0 h0 F0 F68 h nx [.bx b1 [(i64 a0_0), (i64 a0_1), (i64 a0_2), (i64 a0_3), (.slice pa0_4 (a0_4).length ca0_4), (.slice pa0_5 (a0_5).length ca0_5), (i64 a0_6), (i64 a0_7), (i64 a0_8), (i64 a0_9)], .bx b4 [(i64 a3_0), (i64 a3_1), (i64 a3_2)], .bx b18 [(i64 v12.1), (i64 v12.2.1), (i64 v12.2.2.1), (i64 v12.2.2.2.1), (.slice py15 (v12.2.2.2.2.1).length cy15), (.slice py16 (v12.2.2.2.2.2.1).length cy16), (i64 v12.2.2.2.2.2.2.1), (i64 v12.2.2.2.2.2.2.2.1), (i64 v12.2.2.2.2.2.2.2.2.1), (i64 v12.2.2.2.2.2.2.2.2.2.1)]] ∧ T.get 9 = some (.ptr (some (b4, 0))) ∧ T.get 13 = some (.ptr (some (b18, 0))) ∧ T.get 14 = some (.slice py17 (v12.2.2.2.2.2.2.2.2.2.2).length cy17) ∧ T.get 15 = some (i64 (Int.tmod a4 (10001 : Int))) ∧ T.get 16 = some (i64 v27) ∧ T.get 17 = some (i64 v35) ∧ T.get 18 = some (.slice py49 (v44.1).length cy49)) ?_ (fun T ds68 h nx hp => ?_)
  ·have hK64 := hF
   have hF := hA63; obtain ⟨y71, hA72, hF⟩ := zm hF; refine yB (fun T ds74 h nx => ∃ (F74 : PH), ds74 = [] ∧ PH.le F46 F74 ∧ St n0 h0 F0 F74 h nx [.bx b1 [(i64 a0_0), (i64 a0_1), (i64 a0_2), (i64 a0_3), (.slice pa0_4 (a0_4).length ca0_4), (.slice pa0_5 (a0_5).length ca0_5), (i64 a0_6), (i64 a0_7), (i64 a0_8), (i64 a0_9)], .bx b4 [(i64 a3_0), (i64 a3_1), (i64 a3_2)], .bx b18 [(i64 v12.1), (i64 v12.2.1), (i64 v12.2.2.1), (i64 v12.2.2.2.1), (.slice py15 (v12.2.2.2.2.1).length cy15), (.slice py16 (v12.2.2.2.2.2.1).length cy16), (i64 v12.2.2.2.2.2.2.1), (i64 v12.2.2.2.2.2.2.2.1), (i64 v12.2.2.2.2.2.2.2.2.1), (i64 v12.2.2.2.2.2.2.2.2.2.1)]] ∧ T.get 9 = some (.ptr (some (b4, 0))) ∧ T.get 13 = some (.ptr (some (b18, 0))) ∧ T.get 14 = some (.slice py17 (v12.2.2.2.2.2.2.2.2.2.2).length cy17) ∧ T.get 15 = some (i64 (Int.tmod a4 (10001 : Int))) ∧ T.get 16 = some (i64 v27) ∧ T.get 17 = some (i64 v35) ∧ T.get 18 = some (.slice py49 (v44.1).length cy49) ∧ T.get 68 = some (.bool y71)) ?_ (fun T ds74 h nx hp => ?_)
   ·have hK73 := hF
    have hF := hA72; refine zh ?_; refine za ?_; refine vo ?_; refine za ?_
    rcases Bool.eq_false_or_eq_true (!(decide (v44.2 = (0 : Int)))) with hb75 | hb75
    ·have hF := zw hb75 hF; refine ze hb75 ?_; refine ze hb75 ?_; refine ze hb75 ?_; refine ze hb75 ?_; refine ze hb75 ?_; refine ze hb75 ?_; refine ze hb75 ?_; refine zK hb75 ?_; refine zf ?_; obtain rfl := inj hF; refine thn ⟨rfl, ?_⟩; dsimp only
     exact ⟨F46, rfl, (PH.le.refl _), st, gA, gA, gA, gA, gA, gA, gA, gA⟩
    ·have hF := zx hb75 hF; refine zj hb75 (za ?_); refine zj hb75 (yA ?_); refine zj hb75 (v_fa ?_); refine zj hb75 (v_fa ?_); refine zj hb75 (zq (st.at (i := 2) rfl).2.2 rfl ?_); obtain ⟨q76, hF⟩ := zi hF; refine zj hb75 (zQ q76 ?_); refine zj hb75 (vo ?_); refine zD hb75 ?_; refine zf ?_; obtain rfl := inj hF; refine thn ⟨rfl, ?_⟩; dsimp only
     exact ⟨F46, rfl, (PH.le.refl _), st, gA, gA, gA, gA, gA, gA, gA, gA⟩
   ·obtain ⟨F74, rfl, le74, st, t9, t13, t14, t15, t16, t17, t18, t68⟩ := hp
    refine zA (fun hb80 => ?_) (fun hb80 => ?_)
    ·have hF := zw hb80 hF; refine zg (zh ?_); refine za ?_; refine zf (th_n ?_); refine zt ?_; obtain rfl := inj hF; have hF := hK64; have hF := va hF; refine th_r ?_; obtain rfl := inj hF
     exact zy st (Res.t gA Res.nil) rfl rfl
    ·have hF := zx hb80 hF; refine zB ?_; obtain rfl := inj hF; refine thn ⟨rfl, _, rfl, ?_⟩; dsimp only
     exact ⟨F74, rfl, le74, st, gA, gA, gA, gA, gA, gA, gA⟩
  ·obtain ⟨w67, rfl, F68, rfl, le68, st, t9, t13, t14, t15, t16, t17, t18⟩ := hp; have hF := y9 hF
   have le85 := PH.le.trans le48 le68
   refine zg (zh ?_); refine v_fa ?_; refine v_fa ?_; refine zq (st.at (i := 2) rfl).2.2 rfl ?_; refine za ?_; refine zf (th_n ?_); refine zg ?_; refine zg (zh ?_); refine za ?_; refine zf (th_n ?_); refine zE ?_; obtain ⟨y121, hy, hF⟩ := zm hF; refine zW (sf9_L1 N v12 v27 v35 v44) (fun x87 T ds88 h nx => ∃ (F88 : PH), ds88 = [] ∧ PH.le F68 F88 ∧ St n0 h0 F0 F88 h nx [.bx b1 [(i64 a0_0), (i64 a0_1), (i64 a0_2), (i64 a0_3), (.slice pa0_4 (a0_4).length ca0_4), (.slice pa0_5 (a0_5).length ca0_5), (i64 a0_6), (i64 a0_7), (i64 a0_8), (i64 a0_9)], .bx b4 [(i64 a3_0), (i64 a3_1), (i64 a3_2)], .bx b18 [(i64 v12.1), (i64 v12.2.1), (i64 v12.2.2.1), (i64 v12.2.2.2.1), (.slice py15 (v12.2.2.2.2.1).length cy15), (.slice py16 (v12.2.2.2.2.2.1).length cy16), (i64 v12.2.2.2.2.2.2.1), (i64 v12.2.2.2.2.2.2.2.1), (i64 v12.2.2.2.2.2.2.2.2.1), (i64 v12.2.2.2.2.2.2.2.2.2.1)]] ∧ T.get 9 = some (.ptr (some (b4, 0))) ∧ T.get 13 = some (.ptr (some (b18, 0))) ∧ T.get 14 = some (.slice py17 (v12.2.2.2.2.2.2.2.2.2.2).length cy17) ∧ T.get 15 = some (i64 (Int.tmod a4 (10001 : Int))) ∧ T.get 16 = some (i64 v27) ∧ T.get 17 = some (i64 v35) ∧ T.get 18 = some (.slice py49 (v44.1).length cy49) ∧ T.get 20 = some (i64 v12.2.1) ∧ T.get 21 = some (i64 x87)) (fun y e a σ => (∃ u, y = (.inl u) ∧ e = .ret ∧ a.nt = 177 ∧ ∃ (F123 : PH), a.defers = [] ∧ PH.le F68 F123 ∧ St n0 h0 F0 F123 σ.h σ.nx [.bx b1 [(i64 a0_0), (i64 a0_1), (i64 a0_2), (i64 a0_3), (.slice pa0_4 (a0_4).length ca0_4), (.slice pa0_5 (a0_5).length ca0_5), (i64 a0_6), (i64 a0_7), (i64 a0_8), (i64 a0_9)], .bx b4 [(i64 a3_0), (i64 a3_1), (i64 a3_2)], .bx b18 [(i64 v12.1), (i64 v12.2.1), (i64 v12.2.2.1), (i64 v12.2.2.2.1), (.slice py15 (v12.2.2.2.2.1).length cy15), (.slice py16 (v12.2.2.2.2.2.1).length cy16), (i64 v12.2.2.2.2.2.2.1), (i64 v12.2.2.2.2.2.2.2.1), (i64 v12.2.2.2.2.2.2.2.2.1), (i64 v12.2.2.2.2.2.2.2.2.2.1)]] ∧ a.tmps.get 12 = some (.bool false)) ∨ (∃ u, y = (.inr u) ∧ e = .exit 0 ∧ a.nt = 177 ∧ ∃ (F125 : PH), a.defers = [] ∧ PH.le F68 F125 ∧ St n0 h0 F0 F125 σ.h σ.nx [.bx b1 [(i64 a0_0), (i64 a0_1), (i64 a0_2), (i64 a0_3), (.slice pa0_4 (a0_4).length ca0_4), (.slice pa0_5 (a0_5).length ca0_5), (i64 a0_6), (i64 a0_7), (i64 a0_8), (i64 a0_9)], .bx b4 [(i64 a3_0), (i64 a3_1), (i64 a3_2)], .bx b18 [(i64 v12.1), (i64 v12.2.1), (i64 v12.2.2.1), (i64 v12.2.2.2.1), (.slice py15 (v12.2.2.2.2.1).length cy15), (.slice py16 (v12.2.2.2.2.2.1).length cy16), (i64 v12.2.2.2.2.2.2.1), (i64 v12.2.2.2.2.2.2.2.1), (i64 v12.2.2.2.2.2.2.2.2.1), (i64 v12.2.2.2.2.2.2.2.2.2.1)]] ∧ a.tmps.get 9 = some (.ptr (some (b4, 0))) ∧ a.tmps.get 13 = some (.ptr (some (b18, 0))) ∧ a.tmps.get 14 = some (.slice py17 (v12.2.2.2.2.2.2.2.2.2.2).length cy17) ∧ a.tmps.get 15 = some (i64 (Int.tmod a4 (10001 : Int))) ∧ a.tmps.get 16 = some (i64 v27) ∧ a.tmps.get 17 = some (i64 v35) ∧ a.tmps.get 20 = some (i64 v12.2.1))) (fun x87 T ds88 h nx s hp hF => ?_) N _ y121 _ _ _ _ hy ⟨F68, rfl, (PH.le.refl _), st, gA, gA, gA, gA, gA, gA, gA, gA, gA⟩ (fun e a σ hne hq => ?_)
   ·obtain ⟨F88, rfl, le88, st, t9, t13, t14, t15, t16, t17, t18, t20, t21⟩ := hp
    have le90 := PH.le.trans le85 le88
    have le92 := PH.le.trans le68 le88
    unfold sf9_L1 at hF; unfold L9w1; refine zg ?_; refine zg (zh ?_); refine za ?_; refine za ?_; refine yA ?_; refine ye ?_; refine zf (th_n ?_); refine zA (fun hb126 => ?_) (fun hb126 => ?_)
    ·have hF := zw hb126 hF; refine zB (th_n ?_); refine zg ?_; refine zE ?_; refine zg (zh ?_); refine za ?_; refine za ?_; obtain ⟨v127, e128, hF⟩ := zm hF; refine zF st (ct56 N e128 st.d st.sub (RowF.mono le90 ry17)) (fun n129 st => ?_); refine za ?_; obtain ⟨q130, hF⟩ := zi hF; refine yF q130 ?_; refine za ?_; refine za ?_; obtain ⟨q131, hF⟩ := zi hF; refine yF q131 ?_; obtain ⟨q132, hF⟩ := zi hF; refine yn q132 ?_; refine za ?_; refine zf (th_n ?_); obtain ⟨y138, hA139, hF⟩ := zm hF; refine yB (fun T ds141 h nx => ∃ (F141 : PH), ds141 = [] ∧ PH.le F88 F141 ∧ St n0 h0 F0 F141 h nx [.bx b1 [(i64 a0_0), (i64 a0_1), (i64 a0_2), (i64 a0_3), (.slice pa0_4 (a0_4).length ca0_4), (.slice pa0_5 (a0_5).length ca0_5), (i64 a0_6), (i64 a0_7), (i64 a0_8), (i64 a0_9)], .bx b4 [(i64 a3_0), (i64 a3_1), (i64 a3_2)], .bx b18 [(i64 v12.1), (i64 v12.2.1), (i64 v12.2.2.1), (i64 v12.2.2.2.1), (.slice py15 (v12.2.2.2.2.1).length cy15), (.slice py16 (v12.2.2.2.2.2.1).length cy16), (i64 v12.2.2.2.2.2.2.1), (i64 v12.2.2.2.2.2.2.2.1), (i64 v12.2.2.2.2.2.2.2.2.1), (i64 v12.2.2.2.2.2.2.2.2.2.1)]] ∧ T.get 9 = some (.ptr (some (b4, 0))) ∧ T.get 13 = some (.ptr (some (b18, 0))) ∧ T.get 14 = some (.slice py17 (v12.2.2.2.2.2.2.2.2.2.2).length cy17) ∧ T.get 15 = some (i64 (Int.tmod a4 (10001 : Int))) ∧ T.get 16 = some (i64 v27) ∧ T.get 17 = some (i64 v35) ∧ T.get 18 = some (.slice py49 (v44.1).length cy49) ∧ T.get 20 = some (i64 v12.2.1) ∧ T.get 21 = some (i64 x87) ∧ T.get 106 = some (.bool y138)) ?_ (fun T ds141 h nx hp => ?_)
     ·have hK140 := hF
      have hF := hA139; refine zh ?_; refine za ?_; refine za ?_; refine za ?_; obtain ⟨n142, x142, z142, l142, g142, hF⟩ := z7 hF; obtain ⟨b142, o142, s142, j142, r142, e142, f142, k142, ⟨_, _, rfl, rfl, rfl⟩⟩ := RowF.get ry49 g142; refine yt e142 z142 l142 ?_; refine v_fa ?_; refine zq (st.sub _ _ (le92 _ _ f142)) (yu (j := 0) k142 rfl) ?_; refine za ?_; obtain ⟨q143, hF⟩ := zi hF; refine yF q143 ?_; refine ye ?_; refine za ?_
      rcases Bool.eq_false_or_eq_true (decide (((v127 * v27) - (v35 * v12.2.1)) < (x142.1 * v12.2.1))) with hb144 | hb144
      ·have hF := zw hb144 hF; refine ze hb144 ?_; refine ze hb144 ?_; refine ze hb144 ?_; refine ze hb144 ?_; refine ze hb144 ?_; refine ze hb144 ?_; refine ze hb144 ?_; refine ze hb144 ?_; refine ze hb144 ?_; refine zK hb144 ?_; refine zf ?_; obtain rfl := inj hF; refine thn ⟨rfl, ?_⟩; dsimp only
       exact ⟨F88, rfl, (PH.le.refl _), st, gA, gA, gA, gA, gA, gA, gA, gA, gA, gA⟩
      ·have hF := zx hb144 hF; refine zj hb144 (za ?_); refine zj hb144 (za ?_); refine zj hb144 (za ?_); obtain ⟨n145, x145, z145, l145, g145, hF⟩ := z7 hF; obtain ⟨b145, o145, s145, j145, r145, e145, f145, k145, ⟨_, _, rfl, rfl, rfl⟩⟩ := RowF.get ry49 g145; refine zj hb144 (yt e145 z145 l145 ?_); refine zj hb144 (v_fa ?_); refine zj hb144 (zq (st.sub _ _ (le92 _ _ f145)) (yu (j := 1) k145 rfl) ?_); refine zj hb144 (za ?_); obtain ⟨q146, hF⟩ := zi hF; refine zj hb144 (yF q146 ?_); refine zj hb144 (vE ?_); refine zD hb144 ?_; refine zf ?_; obtain rfl := inj hF; refine thn ⟨rfl, ?_⟩; dsimp only
       exact ⟨F88, rfl, (PH.le.refl _), st, gA, gA, gA, gA, gA, gA, gA, gA, gA, gA⟩
     ·obtain ⟨F141, rfl, le141, st, t9, t13, t14, t15, t16, t17, t18, t20, t21, t106⟩ := hp
      have le151 := PH.le.trans le88 le141
      refine zA (fun hb152 => ?_) (fun hb152 => ?_)
      ·have hF := zw hb152 hF; refine zg (zh ?_); refine za ?_; refine zf (th_n ?_); refine zt ?_; refine ib_r ?_; refine th_r ?_; refine th_r ?_; refine ⟨_, (inj hF).symm, .inl ⟨_, rfl, rfl, rfl, ?_⟩⟩; dsimp only
       exact ⟨F141, rfl, le151, st, gA⟩
      ·have hF := zx hb152 hF; refine zB ?_; refine ib_n ?_; refine th_n ?_; refine zh ?_; refine za ?_; obtain ⟨q153, hF⟩ := zi hF; refine zQ q153 ?_; refine za ?_; refine zf ?_; refine thn ⟨_, (inj hF).symm, rfl, ?_⟩; dsimp only
       exact ⟨F141, rfl, le151, st, gA, gA, gA, gA, gA, gA, gA, gA, gA⟩
    ·have hF := zx hb126 hF; refine z8 ?_; refine th_e ?_; refine th_e ?_; refine ⟨_, (inj hF).symm, .inr (⟨_, rfl, rfl, rfl, ?_⟩)⟩; dsimp only
     exact ⟨F88, rfl, le88, st, gA, gA, gA, gA, gA, gA, gA⟩
   ·rcases hq with hq | hq
    ·obtain ⟨N9, T, ds123⟩ := a; obtain ⟨h158, n159⟩ := σ; obtain ⟨w122, rfl, rfl, e1, F123, e2, le123, st, t12⟩ := hq
     dsimp only at e1 e2
     subst e1
     subst e2
     dsimp only at st t12
     have hF := va hF; refine ib_r ?_; refine th_r ?_; obtain rfl := inj hF
     exact zy st (Res.t gA Res.nil) rfl rfl
    ·obtain ⟨N9, T, ds125⟩ := a; obtain ⟨h164, n165⟩ := σ; obtain ⟨w124, rfl, rfl, e1, F125, e2, le125, st, t9, t13, t14, t15, t16, t17, t20⟩ := hq
     dsimp only at e1 e2
     subst e1
     subst e2
     dsimp only at st t9 t13 t14 t15 t16 t17 t20
     have le161 := PH.le.trans le85 le125
     have hF := y9 hF; refine ib_e ?_; refine th_n ?_; refine zg ?_; refine zg (zh ?_); refine zH (vs := [(i64 v12.1), (i64 v12.2.1), (i64 v12.2.2.1), (i64 v12.2.2.2.1), (.slice py15 (v12.2.2.2.2.1).length cy15), (.slice py16 (v12.2.2.2.2.2.1).length cy16), (i64 v12.2.2.2.2.2.2.1), (i64 v12.2.2.2.2.2.2.2.1), (i64 v12.2.2.2.2.2.2.2.2.1), (i64 v12.2.2.2.2.2.2.2.2.2.1)]) (st.at (i := 2) rfl).2.2 rfl ?_; refine zH (vs := [(i64 a3_0), (i64 a3_1), (i64 a3_2)]) (st.at (i := 1) rfl).2.2 rfl ?_; obtain ⟨v166, e167, hF⟩ := zm hF; refine zF st (ct57 N e167 st.d st.sub (RowF.mono le161 ry15) (RowF.mono le161 ry16)) (fun n168 st => ?_); refine yg ?_; refine zf ?_
     refine th_n ?_; refine zA (fun hb169 => ?_) (fun hb169 => ?_)
     ·have hF := zw hb169 hF; refine zg (zh ?_); refine zF st (ct_wakes (h := _) (nx := _)) (fun n170 st => ?_); refine za ?_; refine zf (th_n ?_); refine zt ?_; refine th_r ?_; obtain rfl := inj hF
      exact zy st (Res.t gA Res.nil) rfl rfl
     ·have hF := zx hb169 hF; refine zB (th_n ?_); refine zg ?_; refine z9 (Nat.le_trans hfl st.ext.le) (fun dw => ?_)
      have wf := Wf.start st
      refine zd st.d dw (fun hm vw => zH (vs := [(i64 v12.1), (i64 v12.2.1), (i64 v12.2.2.1), (i64 v12.2.2.2.1), (.slice py15 (v12.2.2.2.2.1).length cy15), (.slice py16 (v12.2.2.2.2.2.1).length cy16), (i64 v12.2.2.2.2.2.2.1), (i64 v12.2.2.2.2.2.2.2.1), (i64 v12.2.2.2.2.2.2.2.2.1), (i64 v12.2.2.2.2.2.2.2.2.2.1)]) (vw.bx (st.at (i := 2) rfl)) rfl zb) ?_; obtain ⟨v171, e172, hF⟩ := zm hF
      refine jy st dw wf (fun hm vw => uJ (ct21 N e172 vw.d (FF.sub wf st vw) (Nat.max_le.2 ⟨by have := dw.le; have := st.ext.le; omega, Nat.le_refl _⟩) (RowF.mono (PH.le.trans le161 FF.base) ry15) (RowF.mono (PH.le.trans le161 FF.base) ry16)) (fun v F' h' n' ex l1 l2 l3 l4 => zf ⟨_, _, rfl, ex, l1, l2, l3, l4⟩)) (fun u173 F173 n173 done hn' dw173 wf173 rv173 le173 => ?_)
      have wf := wf173
      have dw := dw173
      obtain ⟨_, rfl, ⟨_, _, rfl, rfl, ⟨_, _, rfl, rfl, ⟨_, _, rfl, rfl, ⟨_, _, rfl, rfl, ⟨_, _, rfl, ⟨py174, cy174, rfl, ry174⟩, ⟨_, _, rfl, ⟨py175, cy175, rfl, ry175⟩, ⟨_, _, rfl, rfl, ⟨_, _, rfl, rfl, ⟨_, _, rfl, rfl, rfl⟩⟩⟩⟩⟩⟩⟩⟩⟩⟩ := rv173; refine zd st.d dw (fun hm vw => zH (vs := [(i64 a3_0), (i64 a3_1), (i64 a3_2)]) (vw.bx (st.at (i := 1) rfl)) rfl zb) ?_; obtain ⟨v176, e177, hF⟩ := zm hF; refine yl st.d dw (fun hm vw => yo (ct35 N e177 vw.d (FF.sub wf st vw) ) (fun n' hn' => ym hn')) (fun n178 hn' dw => ?_); obtain ⟨v179, e180, hF⟩ := zm hF; refine yl st.d dw (fun hm vw => yo (ct36 N e180 vw.d (FF.sub wf st vw) (RowF.mono (le173 _ rfl (YY rfl)) ry174) (RowF.mono (le173 _ rfl (YY rfl)) ry175)) (fun n' hn' => ym hn')) (fun n181 hn' dw => ?_)
      refine zd st.d dw (fun hm vw => za zb) ?_; refine zd st.d dw (fun hm vw => v_xt rfl zb) ?_; refine zd st.d dw (fun hm vw => v_xt rfl zb) ?_; refine Yy st.d dw (fun hm vw => kN zb) (fun done dw => ?_)
      have wf := Wf.lay wf (e := (8, one n181 (.cells [(i64 0), (i64 0)] .exact)))
      refine yd st.d dw rfl (fun h182 ex vs => ?_)
      obtain ⟨F183, lt183, st⟩ := St.laidF st dw wf ex vs (Lay.cons (b := n181) (cs := [(i64 0), (i64 0)]) (by have := dw.le; omega) (vs _ (List.mem_cons_self ..) _ _ (if_pos rfl)) (Lay.nil (by have := dw.le; omega))) (by intro e he w hw; simp only [List.mem_cons, List.not_mem_nil, or_false] at he hw; rcases he with rfl <;> rcases hw with rfl <;> exact Dw.not dw (by first | exact .inl (by first | exact List.Sublist.refl _ | (repeat first | exact List.nil_sublist _ | refine List.Sublist.cons_cons _ ?_ | refine List.Sublist.cons _ ?_)) | exact .inr (by first | exact List.Sublist.refl _ | (repeat first | exact List.nil_sublist _ | refine List.Sublist.cons_cons _ ?_ | refine List.Sublist.cons _ ?_))))
      have lb183 := lt183 _ FF.base
      have le186 := PH.le.trans le161 lb183
      refine v_st (cs' := [(i64 v179.1), (i64 v179.2.1)]) st 3 rfl rfl rfl rfl hfl (fun h190 st => ?_); refine za ?_; refine zf (th_n ?_); refine zg ?_; refine zg (zh ?_); refine za ?_; refine vo ?_; refine zf (th_n ?_); refine zA (fun hb191 => ?_) (fun hb191 => ?_)
      ·have hF := zw hb191 hF; refine zg (zh ?_); refine za ?_; refine YE ?_; refine za ?_
       rcases Bool.eq_false_or_eq_true (decide (v179.2.2 = (11 : Int))) with hb192 | hb192
       ·have hF := zw hb192 hF; refine zj hb192 (zF st (ct_wakes (h := _) (nx := _)) (fun n193 st => ?_)); refine zK hb192 ?_; refine za ?_; refine zf (th_n ?_); refine zt ?_; refine th_r ?_; obtain rfl := inj hF
        exact zy st (Res.t gA Res.nil) rfl rfl
       ·have hF := zx hb192 hF; refine ze hb192 ?_; refine zD hb192 ?_; refine za ?_; refine zf (th_n ?_); refine zt ?_; refine th_r ?_; obtain rfl := inj hF
        exact zy st (Res.t gA Res.nil) rfl rfl
      ·have hF := zx hb191 hF; refine zB (th_n ?_); obtain ⟨y209, hA210, hF⟩ := zm hF; refine yB (fun T ds215 h nx => ∃ u, y209 = (.inr u) ∧ ∃ (F215 : PH), ds215 = [] ∧ PH.le F183 F215 ∧ St n0 h0 F0 F215 h nx [.bx b1 [(i64 a0_0), (i64 a0_1), (i64 a0_2), (i64 a0_3), (.slice pa0_4 (a0_4).length ca0_4), (.slice pa0_5 (a0_5).length ca0_5), (i64 a0_6), (i64 a0_7), (i64 a0_8), (i64 a0_9)], .bx b4 [(i64 a3_0), (i64 a3_1), (i64 a3_2)], .bx b18 [(i64 v12.1), (i64 v12.2.1), (i64 v12.2.2.1), (i64 v12.2.2.2.1), (.slice py15 (v12.2.2.2.2.1).length cy15), (.slice py16 (v12.2.2.2.2.2.1).length cy16), (i64 v12.2.2.2.2.2.2.1), (i64 v12.2.2.2.2.2.2.2.1), (i64 v12.2.2.2.2.2.2.2.2.1), (i64 v12.2.2.2.2.2.2.2.2.2.1)], .bx n181 [(i64 v179.1), (i64 v179.2.1)]] ∧ T.get 9 = some (.ptr (some (b4, 0))) ∧ T.get 13 = some (.ptr (some (b18, 0))) ∧ T.get 14 = some (.slice py17 (v12.2.2.2.2.2.2.2.2.2.2).length cy17) ∧ T.get 16 = some (i64 v27) ∧ T.get 17 = some (i64 v35) ∧ T.get 20 = some (i64 v12.2.1)) ?_ (fun T ds215 h nx hp => ?_)
       ·have hK211 := hF
        have hF := hA210; obtain ⟨y217, hA218, hF⟩ := zm hF; refine yB (fun T ds220 h nx => ∃ (F220 : PH), ds220 = [] ∧ PH.le F183 F220 ∧ St n0 h0 F0 F220 h nx [.bx b1 [(i64 a0_0), (i64 a0_1), (i64 a0_2), (i64 a0_3), (.slice pa0_4 (a0_4).length ca0_4), (.slice pa0_5 (a0_5).length ca0_5), (i64 a0_6), (i64 a0_7), (i64 a0_8), (i64 a0_9)], .bx b4 [(i64 a3_0), (i64 a3_1), (i64 a3_2)], .bx b18 [(i64 v12.1), (i64 v12.2.1), (i64 v12.2.2.1), (i64 v12.2.2.2.1), (.slice py15 (v12.2.2.2.2.1).length cy15), (.slice py16 (v12.2.2.2.2.2.1).length cy16), (i64 v12.2.2.2.2.2.2.1), (i64 v12.2.2.2.2.2.2.2.1), (i64 v12.2.2.2.2.2.2.2.2.1), (i64 v12.2.2.2.2.2.2.2.2.2.1)], .bx n181 [(i64 v179.1), (i64 v179.2.1)]] ∧ T.get 9 = some (.ptr (some (b4, 0))) ∧ T.get 13 = some (.ptr (some (b18, 0))) ∧ T.get 14 = some (.slice py17 (v12.2.2.2.2.2.2.2.2.2.2).length cy17) ∧ T.get 16 = some (i64 v27) ∧ T.get 17 = some (i64 v35) ∧ T.get 20 = some (i64 v12.2.1) ∧ T.get 136 = some (.bool y217)) ?_ (fun T ds220 h nx hp => ?_)
        ·have hK219 := hF
         have hF := hA218; refine zh ?_; refine za ?_; refine v_fa ?_; refine zq (st.at (i := 3) rfl).2.2 rfl ?_; refine ye ?_; refine za ?_
         rcases Bool.eq_false_or_eq_true (decide ((Int.tmod a4 (10001 : Int)) < v179.1)) with hb221 | hb221
         ·have hF := zw hb221 hF; refine ze hb221 ?_; refine ze hb221 ?_; refine ze hb221 ?_; refine ze hb221 ?_; refine zK hb221 ?_; refine zf ?_; obtain rfl := inj hF; refine thn ⟨rfl, ?_⟩; dsimp only
          exact ⟨F183, rfl, (PH.le.refl _), st, gA, gA, gA, gA, gA, gA, gA⟩
         ·have hF := zx hb221 hF; refine zj hb221 (za ?_); refine zj hb221 (v_fa ?_); refine zj hb221 (zq (st.at (i := 3) rfl).2.2 rfl ?_); refine zj hb221 (vE ?_); refine zD hb221 ?_; refine zf ?_; obtain rfl := inj hF; refine thn ⟨rfl, ?_⟩; dsimp only
          exact ⟨F183, rfl, (PH.le.refl _), st, gA, gA, gA, gA, gA, gA, gA⟩
        ·obtain ⟨F220, rfl, le220, st, t9, t13, t14, t16, t17, t20, t136⟩ := hp
         refine zA (fun hb229 => ?_) (fun hb229 => ?_)
         ·have hF := zw hb229 hF; refine zg (zh ?_); refine zF st (ct_wakes (h := _) (nx := _)) (fun n230 st => ?_); refine za ?_; refine zf (th_n ?_); refine zt ?_; obtain rfl := inj hF; have hF := hK211; have hF := va hF; refine th_r ?_; obtain rfl := inj hF
          exact zy st (Res.t gA Res.nil) rfl rfl
         ·have hF := zx hb229 hF; refine zB ?_; obtain rfl := inj hF; refine thn ⟨rfl, _, rfl, ?_⟩; dsimp only
          exact ⟨F220, rfl, le220, st, gA, gA, gA, gA, gA, gA⟩
       ·obtain ⟨w214, rfl, F215, rfl, le215, st, t9, t13, t14, t16, t17, t20⟩ := hp; have hF := y9 hF
        have le239 := PH.le.trans le186 le215
        refine zg ?_; refine zg (zh ?_); refine v_fa ?_; refine zq (st.at (i := 1) rfl).2.2 rfl ?_; refine za ?_; refine zf (th_n ?_); refine zE ?_; obtain ⟨y291, hy, hF⟩ := zm hF; refine zW (sf9_L2 N a3_1 a3_2 v12 v27 v35) (fun x245 T ds246 h nx => ∃ (F246 : PH), ds246 = [] ∧ PH.le F215 F246 ∧ St n0 h0 F0 F246 h nx [.bx b1 [(i64 a0_0), (i64 a0_1), (i64 a0_2), (i64 a0_3), (.slice pa0_4 (a0_4).length ca0_4), (.slice pa0_5 (a0_5).length ca0_5), (i64 a0_6), (i64 a0_7), (i64 a0_8), (i64 a0_9)], .bx b4 [(i64 a3_0), (i64 a3_1), (i64 a3_2)], .bx b18 [(i64 v12.1), (i64 v12.2.1), (i64 v12.2.2.1), (i64 v12.2.2.2.1), (.slice py15 (v12.2.2.2.2.1).length cy15), (.slice py16 (v12.2.2.2.2.2.1).length cy16), (i64 v12.2.2.2.2.2.2.1), (i64 v12.2.2.2.2.2.2.2.1), (i64 v12.2.2.2.2.2.2.2.2.1), (i64 v12.2.2.2.2.2.2.2.2.2.1)], .bx n181 [(i64 v179.1), (i64 v179.2.1)]] ∧ T.get 9 = some (.ptr (some (b4, 0))) ∧ T.get 13 = some (.ptr (some (b18, 0))) ∧ T.get 14 = some (.slice py17 (v12.2.2.2.2.2.2.2.2.2.2).length cy17) ∧ T.get 16 = some (i64 v27) ∧ T.get 17 = some (i64 v35) ∧ T.get 20 = some (i64 v12.2.1) ∧ T.get 25 = some (i64 x245)) (fun y e a σ => (∃ u, y = (.inl u) ∧ e = .ret ∧ a.nt = 177 ∧ ∃ (F293 : PH), a.defers = [] ∧ PH.le F215 F293 ∧ St n0 h0 F0 F293 σ.h σ.nx [.bx b1 [(i64 a0_0), (i64 a0_1), (i64 a0_2), (i64 a0_3), (.slice pa0_4 (a0_4).length ca0_4), (.slice pa0_5 (a0_5).length ca0_5), (i64 a0_6), (i64 a0_7), (i64 a0_8), (i64 a0_9)], .bx b4 [(i64 a3_0), (i64 a3_1), (i64 a3_2)], .bx b18 [(i64 v12.1), (i64 v12.2.1), (i64 v12.2.2.1), (i64 v12.2.2.2.1), (.slice py15 (v12.2.2.2.2.1).length cy15), (.slice py16 (v12.2.2.2.2.2.1).length cy16), (i64 v12.2.2.2.2.2.2.1), (i64 v12.2.2.2.2.2.2.2.1), (i64 v12.2.2.2.2.2.2.2.2.1), (i64 v12.2.2.2.2.2.2.2.2.2.1)], .bx n181 [(i64 v179.1), (i64 v179.2.1)]] ∧ a.tmps.get 12 = some (.bool false)) ∨ (∃ u, y = (.inr u) ∧ e = .exit 2 ∧ a.nt = 177 ∧ ∃ (F295 : PH), a.defers = [] ∧ PH.le F215 F295 ∧ St n0 h0 F0 F295 σ.h σ.nx [.bx b1 [(i64 a0_0), (i64 a0_1), (i64 a0_2), (i64 a0_3), (.slice pa0_4 (a0_4).length ca0_4), (.slice pa0_5 (a0_5).length ca0_5), (i64 a0_6), (i64 a0_7), (i64 a0_8), (i64 a0_9)], .bx b4 [(i64 a3_0), (i64 a3_1), (i64 a3_2)], .bx b18 [(i64 v12.1), (i64 v12.2.1), (i64 v12.2.2.1), (i64 v12.2.2.2.1), (.slice py15 (v12.2.2.2.2.1).length cy15), (.slice py16 (v12.2.2.2.2.2.1).length cy16), (i64 v12.2.2.2.2.2.2.1), (i64 v12.2.2.2.2.2.2.2.1), (i64 v12.2.2.2.2.2.2.2.2.1), (i64 v12.2.2.2.2.2.2.2.2.2.1)], .bx n181 [(i64 v179.1), (i64 v179.2.1)]])) (fun x245 T ds246 h nx s hp hF => ?_) N _ y291 _ _ _ _ hy ⟨F215, rfl, (PH.le.refl _), st, gA, gA, gA, gA, gA, gA, gA⟩ (fun e a σ hne hq => ?_)
        ·obtain ⟨F246, rfl, le246, st, t9, t13, t14, t16, t17, t20, t25⟩ := hp
         have le248 := PH.le.trans le239 le246
         unfold sf9_L2 at hF; unfold L9w0; refine zg ?_; refine zg (zh ?_); refine za ?_; refine v_fa ?_; refine zq (st.at (i := 1) rfl).2.2 rfl ?_; refine yw ?_; refine zf (th_n ?_); refine zA (fun hb296 => ?_) (fun hb296 => ?_)
         ·have hF := zw hb296 hF; refine zB (th_n ?_); refine zg ?_; refine zE ?_; refine zg ?_; refine z9 (Nat.le_trans hfl st.ext.le) (fun dw => ?_); refine zd st.d dw (fun hm vw => za zb) ?_; refine zd st.d dw (fun hm vw => za zb) ?_; obtain ⟨v297, e298, hF⟩ := zm hF; refine yl st.d dw (fun hm vw => yo (ct56 N e298 vw.d (vw.sub st) (RowF.mono le248 ry17)) (fun n' hn' => ym hn')) (fun n299 hn' dw => ?_); refine zd st.d dw (fun hm vw => za zb) ?_; obtain ⟨q300, hF⟩ := zi hF; refine zd st.d dw (fun hm vw => yF q300 zb) ?_; refine zd st.d dw (fun hm vw => za zb) ?_; refine zd st.d dw (fun hm vw => za zb) ?_
          obtain ⟨q301, hF⟩ := zi hF; refine zd st.d dw (fun hm vw => yF q301 zb) ?_; obtain ⟨q302, hF⟩ := zi hF; refine zd st.d dw (fun hm vw => yn q302 zb) ?_; refine zd st.d dw (fun hm vw => zH (vs := [(i64 v12.1), (i64 v12.2.1), (i64 v12.2.2.1), (i64 v12.2.2.2.1), (.slice py15 (v12.2.2.2.2.1).length cy15), (.slice py16 (v12.2.2.2.2.2.1).length cy16), (i64 v12.2.2.2.2.2.2.1), (i64 v12.2.2.2.2.2.2.2.1), (i64 v12.2.2.2.2.2.2.2.2.1), (i64 v12.2.2.2.2.2.2.2.2.2.1)]) (vw.bx (st.at (i := 2) rfl)) rfl zb) ?_; refine yd st.d dw rfl (fun h303 ex vs => ?_)
          have st := st.ext1 ex
          refine za ?_; obtain ⟨v304, e305, hF⟩ := zm hF; refine zF st (ct28 N e305 st.d st.sub (RowF.mono le248 ry15) (RowF.mono le248 ry16)) (fun n306 st => ?_); refine za ?_; obtain ⟨q307, hF⟩ := zi hF; refine yF q307 ?_; obtain ⟨q308, hF⟩ := zi hF; refine yn q308 ?_; refine za ?_; refine zf (th_n ?_); obtain ⟨y313, hA314, hF⟩ := zm hF; refine yB (fun T ds316 h nx => ∃ (F316 : PH), ds316 = [] ∧ PH.le F246 F316 ∧ St n0 h0 F0 F316 h nx [.bx b1 [(i64 a0_0), (i64 a0_1), (i64 a0_2), (i64 a0_3), (.slice pa0_4 (a0_4).length ca0_4), (.slice pa0_5 (a0_5).length ca0_5), (i64 a0_6), (i64 a0_7), (i64 a0_8), (i64 a0_9)], .bx b4 [(i64 a3_0), (i64 a3_1), (i64 a3_2)], .bx b18 [(i64 v12.1), (i64 v12.2.1), (i64 v12.2.2.1), (i64 v12.2.2.2.1), (.slice py15 (v12.2.2.2.2.1).length cy15), (.slice py16 (v12.2.2.2.2.2.1).length cy16), (i64 v12.2.2.2.2.2.2.1), (i64 v12.2.2.2.2.2.2.2.1), (i64 v12.2.2.2.2.2.2.2.2.1), (i64 v12.2.2.2.2.2.2.2.2.2.1)], .bx n181 [(i64 v179.1), (i64 v179.2.1)]] ∧ T.get 9 = some (.ptr (some (b4, 0))) ∧ T.get 13 = some (.ptr (some (b18, 0))) ∧ T.get 14 = some (.slice py17 (v12.2.2.2.2.2.2.2.2.2.2).length cy17) ∧ T.get 16 = some (i64 v27) ∧ T.get 17 = some (i64 v35) ∧ T.get 20 = some (i64 v12.2.1) ∧ T.get 25 = some (i64 x245) ∧ T.get 175 = some (.bool y313)) ?_ (fun T ds316 h nx hp => ?_)
          ·have hK315 := hF
           have hF := hA314; refine zh ?_; refine za ?_; refine v_fa ?_; refine zq (st.at (i := 1) rfl).2.2 rfl ?_; obtain ⟨q317, hF⟩ := zi hF; refine kp q317 ?_; refine za ?_; obtain ⟨q318, hF⟩ := zi hF; refine yF q318 ?_; refine ye ?_; refine za ?_
           rcases Bool.eq_false_or_eq_true (decide ((((v297 * v27) - (v35 * v12.2.1)) - (v304 * v12.2.1)) < ((-a3_2) * v12.2.1))) with hb319 | hb319
           ·have hF := zw hb319 hF; refine ze hb319 ?_; refine ze hb319 ?_; refine ze hb319 ?_; refine ze hb319 ?_; refine ze hb319 ?_; refine ze hb319 ?_; refine zK hb319 ?_; refine zf ?_; obtain rfl := inj hF; refine thn ⟨rfl, ?_⟩; dsimp only
            exact ⟨F246, rfl, (PH.le.refl _), st, gA, gA, gA, gA, gA, gA, gA, gA⟩
           ·have hF := zx hb319 hF; refine zj hb319 (za ?_); refine zj hb319 (v_fa ?_); refine zj hb319 (zq (st.at (i := 1) rfl).2.2 rfl ?_); refine zj hb319 (za ?_); obtain ⟨q320, hF⟩ := zi hF; refine zj hb319 (yF q320 ?_); refine zj hb319 (vE ?_); refine zD hb319 ?_; refine zf ?_; obtain rfl := inj hF; refine thn ⟨rfl, ?_⟩; dsimp only
            exact ⟨F246, rfl, (PH.le.refl _), st, gA, gA, gA, gA, gA, gA, gA, gA⟩
          ·obtain ⟨F316, rfl, le316, st, t9, t13, t14, t16, t17, t20, t25, t175⟩ := hp
           have le329 := PH.le.trans le246 le316
           refine zA (fun hb330 => ?_) (fun hb330 => ?_)
           ·have hF := zw hb330 hF; refine zg (zh ?_); refine za ?_; refine zf (th_n ?_); refine zt ?_; refine ib_r ?_; refine th_r ?_; refine th_r ?_; refine ⟨_, (inj hF).symm, .inl ⟨_, rfl, rfl, rfl, ?_⟩⟩; dsimp only
            exact ⟨F316, rfl, le329, st, gA⟩
           ·have hF := zx hb330 hF; refine zB ?_; refine ib_n ?_; refine th_n ?_; refine zh ?_; refine za ?_; obtain ⟨q331, hF⟩ := zi hF; refine zQ q331 ?_; refine za ?_; refine zf ?_; refine thn ⟨_, (inj hF).symm, rfl, ?_⟩; dsimp only
            exact ⟨F316, rfl, le329, st, gA, gA, gA, gA, gA, gA, gA⟩
         ·have hF := zx hb296 hF; refine z8 ?_; refine th_e ?_; refine th_e ?_; refine ⟨_, (inj hF).symm, .inr (⟨_, rfl, rfl, rfl, ?_⟩)⟩; dsimp only
          exact ⟨F246, rfl, le246, st⟩
        ·rcases hq with hq | hq
         ·obtain ⟨N9, T, ds293⟩ := a; obtain ⟨h340, n341⟩ := σ; obtain ⟨w292, rfl, rfl, e1, F293, e2, le293, st, t12⟩ := hq
          dsimp only at e1 e2
          subst e1
          subst e2
          dsimp only at st t12
          have hF := va hF; refine ib_r ?_; refine th_r ?_; obtain rfl := inj hF
          exact zy st (Res.t gA Res.nil) rfl rfl
         ·obtain ⟨N9, T, ds295⟩ := a; obtain ⟨h350, n351⟩ := σ; obtain ⟨w294, rfl, rfl, e1, F295, e2, le295, st⟩ := hq
          dsimp only at e1 e2
          subst e1
          subst e2
          dsimp only at st
          have hF := y9 hF; refine ib_e ?_; refine th_n ?_; refine zg (zh ?_); refine zF st (ct_wakes (h := _) (nx := _)) (fun n352 st => ?_); refine za ?_; refine zf (th_n ?_); refine zt ?_; obtain rfl := inj hF
          exact zy st (Res.t gA Res.nil) rfl rfl
end Go.Hx.V


namespace Go.Hx.V
open Go.Hx
theorem vG {α β : Type} {step : α → Option (α ⊕ β)} (P : α → Prop) (m : α → Nat) (Y : β → Prop)
  (h : ∀ x, P x → (∃ x', step x = some (.inl x') ∧ P x' ∧ m x' < m x) ∨ ∃ y, step x = some (.inr y) ∧ Y y) : ∀ (N : Nat) (x : α), P x → m x < N → ∃ y, iter step N x = some y ∧ Y y
 | 0, x, hp, hm => by omega
 | N + 1, x, hp, hm => by
  unfold iter
  rcases h x hp with ⟨x', e, hp', hm'⟩ | ⟨y, e, hy⟩
  ·rw [e]; exact vG P m Y h N x' hp' (by omega)
  ·rw [e]; exact ⟨y, rfl, hy⟩
theorem XB {α β : Type} {step : α → Option (α ⊕ β)} (s : Nat → α) (y : β) : ∀ (n i N : Nat), (∀ j, i ≤ j → j < i + n → step (s j) = some (.inl (s (j + 1)))) → step (s (i + n)) = some (.inr y) → n < N → iter step N (s i) = some y
 | 0, i, N, hs, he, hN => by
  obtain ⟨N, rfl⟩ : ∃ k, N = k + 1 := ⟨N - 1, by omega⟩
  unfold iter; rw [Nat.add_zero] at he; rw [he]; rfl
 | n + 1, i, N, hs, he, hN => by
  obtain ⟨N, rfl⟩ : ∃ k, N = k + 1 := ⟨N - 1, by omega⟩
  unfold iter
  rw [hs i (by omega) (by omega)]
  exact XB s y n (i + 1) N (fun j h1 h2 => hs j (by omega) (by omega)) (by rw [show i + 1 + n = i + (n + 1) by omega]; exact he) (by omega)
theorem yD {α β : Type} {step : α → Option (α ⊕ β)} {x : α} {N : Nat} (s : Nat → α) (n : Nat) (y : β) (hx : x = s 0) (hs : ∀ j, j < n → step (s j) = some (.inl (s (j + 1)))) (he : step (s n) = some (.inr y)) (hN : n < N) : iter step N x = some y := by
 subst hx
 exact XB s y n 0 N (fun j _ h2 => hs j (by omega)) (by rw [Nat.zero_add]; exact he) hN
theorem jZ {α β : Type} {step : α → Option (α ⊕ β)} {x : α} {N : Nat} (s : Nat → α) (n : Nat) (p : Nat → Prop) [DecidablePred p] (good bad : β) (hx : x = s 0) (hs : ∀ j, j < n → p j → step (s j) = some (.inl (s (j + 1)))) (hf : ∀ j, j < n → ¬ p j → step (s j) = some (.inr bad)) (he : step (s n) = some (.inr good)) (hN : n < N) :
  ((∀ j, j < n → p j) ∧ iter step N x = some good) ∨ (¬ (∀ j, j < n → p j) ∧ iter step N x = some bad) := by
 by_cases h : ∀ j, j < n → p j
 ·exact .inl ⟨h, yD s n good hx (fun j hj => hs j hj (h j hj)) he hN⟩
 ·refine .inr ⟨h, ?_⟩
  have h1 : ∃ j, j < n ∧ ¬ p j := by
   refine Classical.byContradiction fun hc => h fun j hj => Classical.byContradiction fun hp => hc ⟨j, hj, hp⟩
  -- the first one
  obtain ⟨j, hj, hp, hmin⟩ : ∃ j, j < n ∧ ¬ p j ∧ ∀ i, i < j → p i := by
   obtain ⟨j, hj⟩ := h1
   induction j using Nat.strongRecOn with
   | ind j ih =>
    by_cases g : ∀ i, i < j → p i
    ·exact ⟨j, hj.1, hj.2, g⟩
    ·have : ∃ i, i < j ∧ ¬ p i := Classical.byContradiction fun hc => g fun i hi => Classical.byContradiction fun hp => hc ⟨i, hi, hp⟩
     obtain ⟨i, hi, hpi⟩ := this
     exact ih i hi ⟨by omega, hpi⟩
  exact yD s j bad hx (fun i hi => hs i (by omega) (hmin i hi)) (hf j hj hp) (by omega)
theorem yf {α β : Type} {l : List α} {j : Int} {n : Nat} {x : α} {k : α → Option β} (hj : j = n) (h : l[n]? = some x) : ix l j k = k x := by
 subst hj; exact ix_pos h
theorem ix_0 {α β : Type} {l : List α} {x : α} {k : α → Option β} (h : l[0]? = some x) : ix l (0 : Int) k = k x := yf (n := 0) rfl h
theorem yc {α : Type} {l : List α} {n : Nat} (h : n < l.length) : l[n]? = some l[n] := List.getElem?_eq_getElem h
theorem yI {α : Type} {l : List α} {n : Nat} {x : α} (h : l[n]? = some x) : n < l.length := by
 rcases Nat.lt_or_ge n l.length with g | g
 ·exact g
 ·rw [List.getElem?_eq_none g] at h; cases h
theorem vK {α : Type} {l : List α} {n : Nat} {x : α} (h : l[n]? = some x) : l.take (n + 1) = l.take n ++ [x] := by
 rw [List.take_add_one, h]; rfl
end Go.Hx.V

namespace Go.Hx.V
open Go.Hx
def lI (T f g m : Int) (x y : Int × (Nat → Int)) : Option ((Int × (Nat → Int)) ⊕ (Nat → Int)) :=
 (bif (decide (y.1 < T)) then (ck (0 ≤ g ∧ g < 13) ((ck (0 ≤ y.1 ∧ y.1 < 13) ((ck (rng (((x.2 (((Int.toNat x.1) * 13) + (Int.toNat f))) + m) + (y.2 (((Int.toNat g) * 13) + (Int.toNat y.1))))) ((ck (0 ≤ x.1 ∧ x.1 < 13) ((ck (0 ≤ y.1 ∧ y.1 < 13) ((bif (decide ((((x.2 (((Int.toNat x.1) * 13) + (Int.toNat f))) + m) + (y.2 (((Int.toNat g) * 13) + (Int.toNat y.1)))) < (y.2 (((Int.toNat x.1) * 13) + (Int.toNat y.1))))) then (ck (0 ≤ x.1 ∧ x.1 < 13) ((ck (0 ≤ y.1 ∧ y.1 < 13) ((ck (rng (y.1 + (1 : Int))) (some (.inl ((y.1 + (1 : Int)), (ups y.2 (((Int.toNat x.1) * 13) + (Int.toNat y.1)) (((x.2 (((Int.toNat x.1) * 13) + (Int.toNat f))) + m) + (y.2 (((Int.toNat g) * 13) + (Int.toNat y.1))))))))))))) else (ck (rng (y.1 + (1 : Int))) (some (.inl ((y.1 + (1 : Int)), y.2))))))))))))))) else some (.inr y.2))
def lO (N : Nat) (T f g m : Int) (x : Int × (Nat → Int)) : Option ((Int × (Nat → Int)) ⊕ (Nat → Int)) :=
 (bif (decide (x.1 < T)) then (ck (0 ≤ x.1 ∧ x.1 < 13) ((ck (0 ≤ f ∧ f < 13) ((ck (rng ((x.2 (((Int.toNat x.1) * 13) + (Int.toNat f))) + m)) ((ck (0 ≤ x.1 ∧ x.1 < 13) ((ck (0 ≤ g ∧ g < 13) ((bif (decide ((x.2 (((Int.toNat x.1) * 13) + (Int.toNat g))) ≤ ((x.2 (((Int.toNat x.1) * 13) + (Int.toNat f))) + m))) then (ck (rng (x.1 + (1 : Int))) (some (.inl ((x.1 + (1 : Int)), x.2)))) else bnd (iter (lI T f g m x) N ((0 : Int), x.2)) (fun y133 => (ck (rng (x.1 + (1 : Int))) (some (.inl ((x.1 + (1 : Int)), y133)))))))))))))))) else some (.inr x.2))
theorem l96_2 (N : Nat) (T f g m : Int) : sf154_L2 N T f g m = lO N T f g m := rfl
theorem l96_4 (N : Nat) (T f g m : Int) : sf154_L4 N T f g m = lO N T (g + 1) f ((-m) - 1) := rfl
theorem l97_6 (N : Nat) (n t : Int) : sf153_L6 N n t = lO N (n + 1) 0 n t := rfl
theorem l97_8 (N : Nat) (n t : Int) : sf153_L8 N n t = lO N (n + 1) n 0 (-t) := rfl
theorem toN (a : Nat) : Int.toNat (a : Int) = a := Int.toNat_natCast a
theorem dv {a b : Nat} (h : b < 13) : (a * 13 + b) / 13 = a := by omega
theorem md {a b : Nat} (h : b < 13) : (a * 13 + b) % 13 = b := by omega
def rowR (i f g : Nat) (m : Int) (F : Nat → Int) (j : Nat) : Nat → Int := fun q => if q / 13 = i ∧ q % 13 < j then min (F q) (F (i * 13 + f) + m + F (g * 13 + q % 13)) else F q
theorem lI_run {n i f g N : Nat} {m : Int} {F : Nat → Int} (hn : n ≤ 12) (hi : i ≤ n) (hf : f ≤ n) (hg : g ≤ n) (hne : g ≠ i) (hb : ∀ j, j ≤ n → rng (F (i * 13 + f) + m + F (g * 13 + j))) (hN : n + 1 < N) :
  iter (lI ((n : Int) + 1) f g m ((i : Int), F)) N ((0 : Int), F) = some (rowR i f g m F (n + 1)) := by
 refine yD (fun j => ((j : Int), rowR i f g m F j)) (n + 1) _ ?_ (fun j hj => ?_) ?_ hN
 ·refine Prod.ext rfl ?_
  funext q
  unfold rowR
  dsimp only
  rw [if_neg (by omega)]
 ·have e1 : rowR i f g m F j (g * 13 + j) = F (g * 13 + j) := by unfold rowR; rw [if_neg (by omega)]
  have e2 : rowR i f g m F j (i * 13 + j) = F (i * 13 + j) := by unfold rowR; rw [if_neg (by omega)]
  unfold lI
  simp only [toN]
  rw [show decide ((j : Int) < (n : Int) + 1) = true from decide_eq_true (by omega), cond_true, zp (by omega), zp (by omega), e1, e2, zp (hb j (by omega)), zp (by omega), zp (by omega)]
  have hr : rng ((j : Int) + 1) := by unfold rng; omega
  by_cases hc : F (i * 13 + f) + m + F (g * 13 + j) < F (i * 13 + j)
  ·rw [decide_eq_true hc, cond_true, zp (by omega), zp (by omega), zp hr]
   congr 3
   funext q
   unfold ups rowR
   by_cases hq : q = i * 13 + j
   ·subst hq
    rw [if_pos rfl, if_pos (by omega), md (by omega)]; omega
   ·rw [if_neg hq]
    by_cases h1 : q / 13 = i ∧ q % 13 < j
    ·rw [if_pos h1, if_pos (by omega)]
    ·rw [if_neg h1, if_neg (by omega)]
  ·rw [decide_eq_false hc, cond_false, zp hr]
   congr 3
   funext q
   unfold rowR
   by_cases hq : q = i * 13 + j
   ·subst hq
    rw [if_neg (by omega), if_pos (by omega), md (by omega)]; omega
   ·by_cases h1 : q / 13 = i ∧ q % 13 < j
    ·rw [if_pos h1, if_pos (by omega)]
    ·rw [if_neg h1, if_neg (by omega)]
 ·unfold lI
  dsimp only
  rw [show decide (((n + 1 : Nat) : Int) < (n : Int) + 1) = false from decide_eq_false (by omega), cond_false]
structure Gd (n : Nat) (F : Nat → Int) : Prop where
 tri : ∀ i j k, i ≤ n → j ≤ n → k ≤ n → F (i * 13 + k) ≤ F (i * 13 + j) + F (j * 13 + k)
 dg : ∀ i, i ≤ n → F (i * 13 + i) = 0
 ub : ∀ i j, i ≤ n → j ≤ n → F (i * 13 + j) ≤ 4000
theorem Gd.lb {n : Nat} {F : Nat → Int} (h : Gd n F) {i j : Nat} (hi : i ≤ n) (hj : j ≤ n) : -4000 ≤ F (i * 13 + j) := by
 have := h.tri i j i hi hj hi
 have := h.dg i hi
 have := h.ub j i hj hi
 omega
def rowS (n f g : Nat) (m : Int) (F : Nat → Int) (k : Nat) : Nat → Int := fun q => if q / 13 < k ∧ q % 13 ≤ n then min (F q) (F (q / 13 * 13 + f) + m + F (g * 13 + q % 13)) else F q
theorem kZ {n f g N : Nat} {m : Int} {F : Nat → Int} (hn : n ≤ 12) (hf : f ≤ n) (hg : g ≤ n) (h : Gd n F) (hm : -1000000 ≤ m ∧ m ≤ 1000000) (hc : 0 ≤ m + F (g * 13 + f)) (hN : n + 1 < N) :
  iter (lO N ((n : Int) + 1) f g m) N ((0 : Int), F) = some (rowS n f g m F (n + 1)) := by
 refine yD (fun k => ((k : Int), rowS n f g m F k)) (n + 1) _ ?_ (fun k hk => ?_) ?_ hN
 ·refine Prod.ext rfl ?_
  funext q
  unfold rowS
  dsimp only
  rw [if_neg (by omega)]
 ·have e1 : ∀ j, j ≤ n → rowS n f g m F k (k * 13 + j) = F (k * 13 + j) := fun j hj => by unfold rowS; rw [if_neg (by omega)]
  have e2 : ∀ j, j ≤ n → rowS n f g m F k (g * 13 + j) = F (g * 13 + j) := fun j hj => by
   unfold rowS
   split
   ·rw [dv (by omega), md (by omega)]; omega
   ·rfl
  have b1 := h.ub k f (by omega) hf
  have b2 := h.lb (i := k) (j := f) (by omega) hf
  unfold lO
  simp only [toN]
  rw [show decide ((k : Int) < (n : Int) + 1) = true from decide_eq_true (by omega), cond_true, zp (by omega), zp (by omega), e1 f hf, e1 g hg, zp (by unfold rng; omega), zp (by omega), zp (by omega)]
  have hr : rng ((k : Int) + 1) := by unfold rng; omega
  by_cases hs : F (k * 13 + g) ≤ F (k * 13 + f) + m
  ·rw [decide_eq_true hs, cond_true, zp hr]
   congr 3
   funext q
   unfold rowS
   by_cases h1 : q / 13 < k ∧ q % 13 ≤ n
   ·rw [if_pos h1, if_pos (by omega)]
   ·rw [if_neg h1]
    by_cases h2 : q / 13 = k ∧ q % 13 ≤ n
    ·rw [if_pos (by omega)]
     have t := h.tri k g (q % 13) (by omega) hg h2.2
     rw [h2.1]
     have e : F q = F (k * 13 + q % 13) := congrArg F (by omega)
     rw [e]; omega
    ·rw [if_neg (by omega)]
  ·have hne : g ≠ k := fun e => by
    subst e
    have := h.dg g hg
    omega
   rw [decide_eq_false hs, cond_false, lI_run hn (by omega) hf hg hne (fun j hj => by
    rw [e1 f hf, e2 j hj]
    have := h.ub g j hg hj
    have := h.lb (i := g) (j := j) hg hj
    unfold rng; omega) hN, zn, zp hr]
   congr 3
   funext q
   unfold rowR
   by_cases h2 : q / 13 = k ∧ q % 13 < n + 1
   ·rw [if_pos h2, e1 f hf, e2 (q % 13) (by omega)]
    unfold rowS
    rw [if_neg (by omega), if_pos (by omega), h2.1]
   ·rw [if_neg h2]
    unfold rowS
    by_cases h1 : q / 13 < k ∧ q % 13 ≤ n
    ·rw [if_pos h1, if_pos (by omega)]
    ·rw [if_neg h1, if_neg (by omega)]
 ·unfold lO
  dsimp only
  rw [show decide (((n + 1 : Nat) : Int) < (n : Int) + 1) = false from decide_eq_false (by omega), cond_false]
theorem s21 {N : Nat} {a b c d : Int} : sf59 N a b c d = some (a, b, c, d) := rfl
theorem s37 {N : Nat} {a b c : Int} : sf98 N a b c = some (decide (b ≤ a ∧ a ≤ c)) := by
 unfold sf98
 by_cases h : b ≤ a
 ·rw [decide_eq_true h, cond_true]; simp [h]
 ·rw [decide_eq_false h, cond_false]; simp [h]
theorem s48 {N : Nat} {p q a b : Int} : sf124 N p q a b = some (decide (a ≤ p ∧ p ≤ q ∧ q ≤ b)) := by
 unfold sf124
 rw [s37, zn]
 by_cases h : a ≤ p ∧ p ≤ q
 ·rw [decide_eq_true h, cond_true]; simp [h]
 ·rw [decide_eq_false h, cond_false]
  congr 1
  exact (decide_eq_false fun h' => h ⟨h'.1, h'.2.1⟩).symm
theorem s83 {N : Nat} {p q a b : Int} : sf169 N p q a b = some (decide (a ≤ p ∧ p ≤ q ∧ q ≤ b)) := by
 unfold sf169
 by_cases h : a ≤ p <;> by_cases h2 : p ≤ q <;> simp [h, h2]
theorem s66 {N : Nat} {p q x : Int} : sf180 N p q x = some (decide (p ≤ x ∧ x ≤ q)) := by
 unfold sf180
 by_cases h : p ≤ x <;> simp [h]
def TubeOk (n t lo hi : Int) : Prop := 1 ≤ n ∧ n ≤ 10 ∧ (1 ≤ lo ∧ lo ≤ hi ∧ hi ≤ 200) ∧ 1 ≤ t ∧ t ≤ 2000 ∧ n * lo ≤ t ∧ t ≤ n * hi
instance {n t lo hi : Int} : Decidable (TubeOk n t lo hi) := by unfold TubeOk; infer_instance
theorem kS {n a : Int} (h1 : 1 ≤ n) (h2 : n ≤ 10) (h3 : 1 ≤ a) (h4 : a ≤ 200) : 1 ≤ n * a ∧ n * a ≤ 2000 := by
 have q1 : 1 * a ≤ n * a := Int.mul_le_mul_of_nonneg_right h1 (by omega)
 have q2 : n * a ≤ 10 * a := Int.mul_le_mul_of_nonneg_right h2 (by omega)
 omega
theorem s25 {N : Nat} {n t lo hi : Int} : sf123 N n t lo hi = some (decide (TubeOk n t lo hi)) := by
 unfold sf123
 rw [s37, zn]
 by_cases h1 : 1 ≤ n ∧ n ≤ 10
 ·rw [decide_eq_true h1, cond_true, s48, zn]
  by_cases h2 : 1 ≤ lo ∧ lo ≤ hi ∧ hi ≤ 200
  ·rw [decide_eq_true h2, cond_true, s37, zn]
   by_cases h3 : 1 ≤ t ∧ t ≤ 2000
   ·have b1 := kS (a := lo) h1.1 h1.2 (by omega) (by omega)
    have b2 := kS (a := hi) h1.1 h1.2 (by omega) (by omega)
    rw [decide_eq_true h3, cond_true, zp (by unfold rng; omega), zp (by unfold rng; omega), s37, zn]
    congr 1
    by_cases h4 : n * lo ≤ t ∧ t ≤ n * hi
    ·rw [decide_eq_true h4]; exact (decide_eq_true ⟨h1.1, h1.2, h2, h3.1, h3.2, h4⟩).symm
    ·rw [decide_eq_false h4]; exact (decide_eq_false fun q => h4 q.2.2.2.2.2).symm
   ·rw [decide_eq_false h3, cond_false]
    congr 1
    exact (decide_eq_false fun q => h3 ⟨q.2.2.2.1, q.2.2.2.2.1⟩).symm
  ·rw [decide_eq_false h2, cond_false]
   congr 1
   exact (decide_eq_false fun q => h2 q.2.2.1).symm
 ·rw [decide_eq_false h1, cond_false]
  congr 1
  exact (decide_eq_false fun q => h1 ⟨q.1, q.2.1⟩).symm
theorem s23 {N : Nat} {l : List (Int × Int × Int × Int)} (h : l.length ≤ 100) (hN : 1000 ≤ N) : sf60 N l = some l := by
 unfold sf60
 have e : iter (sf60_L1 N l) N (([] : List (Int × Int × Int × Int)), (0 : Int)) = some l := by
  refine yD (fun j => (l.take j, (j : Int))) l.length l rfl (fun j hj => ?_) ?_ (by omega)
  ·obtain ⟨z, hz⟩ : ∃ z, l[j]? = some z := ⟨_, yc hj⟩
   unfold sf60_L1
   dsimp only
   rw [decide_eq_true (by omega), cond_true, yf rfl hz, yf rfl hz, yf rfl hz]
   show bnd (some (z.2.2.1, z.2.2.2)) _ = _
   rw [zn, zp (by rw [List.length_take]; omega), zp (by unfold rng; omega), vK hz]
   rfl
  ·unfold sf60_L1
   dsimp only
   rw [decide_eq_false (by omega), cond_false, List.take_length]
 rw [e, zn]
theorem s63 {N : Nat} {n t lo hi : Int} : sf168 N n t lo hi = some (decide (TubeOk n t lo hi)) := by
 unfold sf168
 by_cases h1 : n < 1
 ·rw [decide_eq_true h1, cond_true, zn, cond_true, zn]
  show some false = _
  congr 1
  exact (decide_eq_false fun q => by have := q.1; omega).symm
 rw [decide_eq_false h1, cond_false]
 by_cases h2 : 10 < n
 ·rw [decide_eq_true h2, cond_true, zn, cond_true, zn]
  show some false = _
  congr 1
  exact (decide_eq_false fun q => by have := q.2.1; omega).symm
 rw [decide_eq_false h2, cond_false, s83, zn]
 by_cases h3 : 1 ≤ lo ∧ lo ≤ hi ∧ hi ≤ 200
 ·have b1 := kS (n := n) (a := lo) (by omega) (by omega) (by omega) (by omega)
  have b2 := kS (n := n) (a := hi) (by omega) (by omega) (by omega) (by omega)
  rw [decide_eq_true h3, zn]
  show ck _ _ = _
  rw [zp (by unfold rng; omega), zp (by unfold rng; omega)]
  by_cases h4 : t ≤ 2000
  ·rw [decide_eq_true h4, cond_true, s66, zn]
   congr 1
   by_cases h5 : n * lo ≤ t ∧ t ≤ n * hi
   ·rw [decide_eq_true h5]; exact (decide_eq_true ⟨by omega, by omega, h3, by omega, h4, h5⟩).symm
   ·rw [decide_eq_false h5]; exact (decide_eq_false fun q => h5 q.2.2.2.2.2).symm
  ·rw [decide_eq_false h4, cond_false]
   congr 1
   exact (decide_eq_false fun q => h4 q.2.2.2.2.1).symm
 ·rw [decide_eq_false h3, zn]
  show some false = _
  congr 1
  exact (decide_eq_false fun q => h3 q.2.2.1).symm
theorem s20 {N : Nat} {n t lo hi : Int} : sf150 N n t lo hi = some (if TubeOk n t lo hi then 0 else 1) := by
 unfold sf150
 rw [s63, zn]
 by_cases h : TubeOk n t lo hi
 ·rw [decide_eq_true h, if_pos h]; rfl
 ·rw [decide_eq_false h, if_neg h]; rfl
def RdOk' (n : Int) (r : Int × Int × Int × Int) : Prop := (0 ≤ r.1 ∧ r.1 < n) ∧ (r.1 ≤ r.2.1 ∧ r.2.1 ≤ n) ∧ 0 ≤ r.2.2.1 ∧ r.2.2.1 ≤ r.2.2.2 ∧ r.2.2.2 ≤ 2000
instance {n : Int} {r : Int × Int × Int × Int} : Decidable (RdOk' n r) := by unfold RdOk'; infer_instance
theorem s86 {N : Nat} {n t lo hi : Int} {r : Int × Int × Int × Int} : sf152 N n t lo hi r.1 r.2.1 r.2.2.1 r.2.2.2 = some (decide (RdOk' n r)) := by
 unfold sf152
 rw [s83, zn]
 by_cases h1 : 0 ≤ r.1
 ·by_cases h2 : r.1 < n
  ·by_cases h3 : r.1 ≤ r.2.1
   ·by_cases h4 : r.2.1 ≤ n
    ·rw [decide_eq_true h1, decide_eq_true h2, decide_eq_true h3, decide_eq_true h4, cond_true, cond_true, cond_true, cond_true]
     congr 1
     by_cases h5 : 0 ≤ r.2.2.1 ∧ r.2.2.1 ≤ r.2.2.2 ∧ r.2.2.2 ≤ 2000
     ·rw [decide_eq_true h5]; exact (decide_eq_true ⟨⟨h1, h2⟩, ⟨h3, h4⟩, h5⟩).symm
     ·rw [decide_eq_false h5]; exact (decide_eq_false fun q => h5 q.2.2).symm
    ·rw [decide_eq_true h1, decide_eq_true h2, decide_eq_true h3, decide_eq_false h4, cond_true, cond_true, cond_true, cond_false]
     congr 1; exact (decide_eq_false fun q => h4 q.2.1.2).symm
   ·rw [decide_eq_true h1, decide_eq_true h2, decide_eq_false h3, cond_true, cond_true, cond_false]
    congr 1; exact (decide_eq_false fun q => h3 q.2.1.1).symm
  ·rw [decide_eq_true h1, decide_eq_false h2, cond_true, cond_false]
   congr 1; exact (decide_eq_false fun q => h2 q.1.2).symm
 ·rw [decide_eq_false h1, cond_false]
  congr 1; exact (decide_eq_false fun q => h1 q.1.1).symm
def AllP {α : Type} (p : α → Prop) (l : List α) : Prop := ∀ x, x ∈ l → p x
theorem um {α ε : Type} {bad : ε} {step : Int → Option (Int ⊕ (ε ⊕ Unit))} {l : List α} {p : α → Prop} [DecidablePred p] {N : Nat} (hN : l.length < N)
  (hs : ∀ (j : Nat) z, l[j]? = some z → p z → step (j : Int) = some (.inl ((j : Int) + 1)))
  (hf : ∀ (j : Nat) z, l[j]? = some z → ¬ p z → step (j : Int) = some (.inr (.inl bad)))
  (he : step (l.length : Int) = some (.inr (.inr ()))) : (AllP p l ∧ iter step N 0 = some (.inr ())) ∨ (¬ AllP p l ∧ iter step N 0 = some (.inl bad)) := by
 have H : ((∀ j, j < l.length → ∀ z, l[j]? = some z → p z) ∧ iter step N (0 : Int) = some (.inr ())) ∨ (¬ (∀ j, j < l.length → ∀ z, l[j]? = some z → p z) ∧ iter step N (0 : Int) = some (.inl bad)) := by
  haveI : DecidablePred fun (j : Nat) => ∀ z, l[j]? = some z → p z := fun j => Classical.propDecidable _
  refine jZ (fun j => (j : Int)) l.length (fun j => ∀ z, l[j]? = some z → p z) (Sum.inr () : ε ⊕ Unit) (Sum.inl bad : ε ⊕ Unit) rfl (fun j hj hp => ?_) (fun j hj hp => ?_) he hN
  ·obtain ⟨z, hz⟩ : ∃ z, l[j]? = some z := ⟨_, yc hj⟩
   exact hs j z hz (hp z hz)
  ·obtain ⟨z, hz⟩ : ∃ z, l[j]? = some z := ⟨_, yc hj⟩
   exact hf j z hz fun q => hp fun z' hz' => by rw [hz] at hz'; cases hz'; exact q
 rcases H with ⟨h1, h2⟩ | ⟨h1, h2⟩
 ·refine .inl ⟨fun x hx => ?_, h2⟩
  obtain ⟨j, hj, rfl⟩ := List.getElem_of_mem hx
  exact h1 j hj _ (yc hj)
 ·exact .inr ⟨fun q => h1 fun j hj z hz => q z (List.mem_of_getElem? hz), h2⟩
instance {α : Type} {p : α → Prop} [DecidablePred p] {l : List α} : Decidable (AllP p l) := inferInstanceAs (Decidable (∀ x, x ∈ l → p x))
theorem s68 {N : Nat} {n t lo hi : Int} {l : List (Int × Int × Int × Int)} (h : l.length ≤ 100) (hN : 1000 ≤ N) : sf151 N l n t lo hi = some (decide (AllP (RdOk' n) l)) := by
 unfold sf151
 rcases um (step := sf151_L1 N l n t lo hi) (l := l) (p := RdOk' n) (N := N) (by omega) (by
   intro j z hz hp
   have := yI hz
   unfold sf151_L1
   rw [decide_eq_true (by omega), cond_true, yf rfl hz, s86, zn, decide_eq_true hp, Bool.not_true, cond_false, zp (by unfold rng; omega)]) (by
   intro j z hz hp
   have := yI hz
   unfold sf151_L1
   rw [decide_eq_true (by omega), cond_true, yf rfl hz, s86, zn, decide_eq_false hp]
   rfl) (by
   unfold sf151_L1
   rw [decide_eq_false (by omega), cond_false]) with ⟨hA, e⟩ | ⟨hA, e⟩
 ·rw [e, zn, decide_eq_true hA]; rfl
 ·rw [e, zn, decide_eq_false hA]; rfl
theorem s64 {N : Nat} {n t lo hi : Int} {l : List (Int × Int × Int × Int)} (h : l.length ≤ 100) (hN : 1000 ≤ N) : sf134 N n t lo hi l = some (if TubeOk n t lo hi then if l.length ≤ 12 then if AllP (RdOk' n) l then 0 else 2 else 3 else 1) := by
 unfold sf134
 rw [s20, zn]
 by_cases h1 : TubeOk n t lo hi
 ·rw [if_pos h1, if_pos h1]
  show (bif (decide ((12 : Int) < (l.length : Int))) then _ else _) = _
  by_cases h2 : l.length ≤ 12
  ·rw [decide_eq_false (by omega), cond_false, if_pos h2, s68 h hN, zn]
   by_cases h3 : AllP (RdOk' n) l
   ·rw [decide_eq_true h3, if_pos h3]; rfl
   ·rw [decide_eq_false h3, if_neg h3]; rfl
  ·rw [decide_eq_true (by omega), cond_true, if_neg h2]
 ·rw [if_neg h1, if_neg h1]; rfl
theorem s70 {N : Nat} {n t lo hi : Int} {l : List (Int × Int × Int × Int)} (h : l.length ≤ 100) (hN : 1000 ≤ N) : sf84 N n t lo hi l = some (if TubeOk n t lo hi then if l.length ≤ 12 then if AllP (RdOk' n) l then 0 else 2 else 3 else 1) := by
 unfold sf84
 rw [s25, zn]
 by_cases h1 : TubeOk n t lo hi
 ·rw [decide_eq_true h1, if_pos h1]
  show (bif (decide ((12 : Int) < (l.length : Int))) then _ else _) = _
  by_cases h2 : l.length ≤ 12
  ·rw [decide_eq_false (by omega), cond_false, if_pos h2]
   have hn : 1 ≤ n ∧ n ≤ 10 := ⟨h1.1, h1.2.1⟩
   have key : ∀ z : Int × Int × Int × Int, (ck (rng (n - 1)) (bnd (sf98 N z.1 0 (n - 1)) fun v76 => (bif (!v76) then some true else (bnd (sf98 N z.2.1 z.1 n) fun v80 => (bif (!v80) then some true else (bnd (sf124 N z.2.2.1 z.2.2.2 0 2000) fun v84 => some (!v84))))))) = some (!(decide (RdOk' n z))) := fun z => by
    rw [zp (by unfold rng; omega), s37, zn]
    by_cases a1 : 0 ≤ z.1 ∧ z.1 ≤ n - 1
    ·rw [decide_eq_true a1]
     show bnd _ _ = _
     rw [s37, zn]
     by_cases a2 : z.1 ≤ z.2.1 ∧ z.2.1 ≤ n
     ·rw [decide_eq_true a2]
      show bnd _ _ = _
      rw [s48, zn]
      by_cases a3 : 0 ≤ z.2.2.1 ∧ z.2.2.1 ≤ z.2.2.2 ∧ z.2.2.2 ≤ 2000
      ·rw [decide_eq_true a3, decide_eq_true (p := RdOk' n z) ⟨⟨a1.1, by omega⟩, a2, a3⟩]
      ·rw [decide_eq_false a3, decide_eq_false (p := RdOk' n z) fun q => a3 q.2.2]
     ·rw [decide_eq_false a2, decide_eq_false (p := RdOk' n z) fun q => a2 q.2.1]; rfl
    ·rw [decide_eq_false a1, decide_eq_false (p := RdOk' n z) fun q => a1 ⟨q.1.1, by have := q.1.2; omega⟩]; rfl
   rcases um (step := sf84_L1 N n l) (l := l) (p := RdOk' n) (N := N) (by omega) (by
     intro j z hz hp
     have := yI hz
     unfold sf84_L1
     rw [decide_eq_true (by omega), cond_true, yf rfl hz, key, zn, decide_eq_true hp, Bool.not_true, cond_false, zp (by unfold rng; omega)]) (by
     intro j z hz hp
     have := yI hz
     unfold sf84_L1
     rw [decide_eq_true (by omega), cond_true, yf rfl hz, key, zn, decide_eq_false hp]
     rfl) (by
     unfold sf84_L1
     rw [decide_eq_false (by omega), cond_false]) with ⟨hA, e⟩ | ⟨hA, e⟩
   ·rw [e, zn, if_pos hA]; rfl
   ·rw [e, zn, if_neg hA]; rfl
  ·rw [decide_eq_true (by omega), cond_true, if_neg h2]
 ·rw [decide_eq_false h1, if_neg h1]; rfl
def hs (l : List Int) (j : Nat) : Int := (l.take j).sum
theorem jw {l : List Int} {j : Nat} {x : Int} (h : l[j]? = some x) : hs l (j + 1) = hs l j + x := by
 unfold hs
 rw [vK h, List.sum_append]
 simp
def Vol (x : Int) : Prop := 0 ≤ x ∧ x ≤ 200
theorem hs_b {l : List Int} (h : AllP Vol l) : ∀ j, j ≤ l.length → 0 ≤ hs l j ∧ hs l j ≤ 200 * j
 | 0, _ => by unfold hs; simp
 | j + 1, hj => by
  have ih := hs_b h j (by omega)
  obtain ⟨x, hx⟩ : ∃ x, l[j]? = some x := ⟨_, yc (by omega)⟩
  have := h x (List.mem_of_getElem? hx)
  unfold Vol at this
  rw [jw hx]; omega
theorem s38 {N : Nat} {l : List Int} {a : Nat} (ha : a ≤ l.length) (hl : l.length ≤ 15) (hb : AllP Vol l) (hN : 1000 ≤ N) : sf56 N l a = some (hs l a) := by
 unfold sf56
 have e : iter (sf56_L1 l a) N ((0 : Int), (0 : Int)) = some (hs l a) := by
  refine yD (fun j => (hs l j, (j : Int))) a _ rfl (fun j hj => ?_) ?_ (by omega)
  ·obtain ⟨x, hx⟩ : ∃ x, l[j]? = some x := ⟨_, yc (by omega)⟩
   have b := hs_b hb (j + 1) (by omega)
   unfold sf56_L1
   dsimp only
   rw [jw hx] at *
   rw [decide_eq_true (by omega), cond_true, yf rfl hx, zp (by unfold rng; omega), zp (by unfold rng; omega)]
   rfl
  ·unfold sf56_L1
   dsimp only
   rw [decide_eq_false (by omega), cond_false]
 rw [e, zn]
def InV (lo hi : Int) (x : Int) : Prop := lo ≤ x ∧ x ≤ hi
instance {lo hi x : Int} : Decidable (InV lo hi x) := by unfold InV; infer_instance
theorem sL {α β γ : Type} {f : α → Option γ} {g : β → Option γ} {x : α} : sel f g (.inl x) = f x := rfl
theorem sR {α β γ : Type} {f : α → Option γ} {g : β → Option γ} {x : β} : sel f g (.inr x) = g x := rfl
def uV (lo hi : Int) (a b : Nat) : Int := if a ≤ b then ((b : Int) - a) * hi else ((b : Int) - a) * lo
def uF (n : Nat) (lo hi : Int) (i j : Nat) : Nat → Int := fun q => if q / 13 ≤ n ∧ q % 13 ≤ n ∧ (min (q / 13) (q % 13) < i ∨ (min (q / 13) (q % 13) = i ∧ max (q / 13) (q % 13) < j)) then uV lo hi (q / 13) (q % 13) else 0
theorem jn {d a : Int} (h1 : 0 ≤ d) (h2 : d ≤ 12) (h3 : 1 ≤ a) (h4 : a ≤ 200) : 0 ≤ d * a ∧ d * a ≤ 2400 := by
 have q1 : 0 * a ≤ d * a := Int.mul_le_mul_of_nonneg_right h1 (by omega)
 have q2 : d * a ≤ 12 * a := Int.mul_le_mul_of_nonneg_right h2 (by omega)
 omega
theorem u_in {n i N : Nat} {lo hi : Int} (hn : n ≤ 12) (hi' : i ≤ n) (h1 : 1 ≤ lo ∧ lo ≤ 200) (h2 : 1 ≤ hi ∧ hi ≤ 200) (hN : 100 ≤ N) :
  iter (sf153_L1 n lo hi ((i : Int), uF n lo hi i i)) N ((i : Int), uF n lo hi i i) = some (uF n lo hi i (n + 1)) := by
 refine yD (fun k => (((i + k : Nat) : Int), uF n lo hi i (i + k))) (n + 1 - i) _ rfl (fun k hk => ?_) ?_ (by omega)
 ·unfold sf153_L1
  dsimp only
  obtain ⟨j, hj⟩ : ∃ j, j = i + k := ⟨_, rfl⟩
  rw [show i + (k + 1) = j + 1 by omega, ← hj]
  have m1 := jn (d := (j : Int) - i) (a := hi) (by omega) (by omega) h2.1 h2.2
  have m2 := jn (d := (j : Int) - i) (a := lo) (by omega) (by omega) h1.1 h1.2
  have m3 : ((i : Int) - j) * lo = -(((j : Int) - i) * lo) := by rw [← Int.neg_mul]; congr 1; omega
  rw [decide_eq_true (by omega), cond_true, zp (by unfold rng; omega), zp (by unfold rng; omega), zp (by omega), zp (by omega), zp (by unfold rng; omega), zp (by rw [m3]; unfold rng; omega), zp (by omega), zp (by omega), zp (by unfold rng; omega), toN, toN]
  congr 3
  funext q
  unfold ups uF
  by_cases q1 : q = j * 13 + i
  ·rw [if_pos q1, if_pos (by omega), q1, dv (by omega), md (by omega)]
   unfold uV
   by_cases e : j ≤ i
   ·have : i = j := by omega
    subst this
    rw [if_pos (Nat.le_refl _)]; simp
   ·rw [if_neg e]
  ·rw [if_neg q1]
   by_cases q2 : q = i * 13 + j
   ·rw [if_pos q2, if_pos (by omega), q2, dv (by omega), md (by omega)]
    unfold uV
    rw [if_pos (by omega)]
   ·rw [if_neg q2]
    by_cases c : q / 13 ≤ n ∧ q % 13 ≤ n ∧ (min (q / 13) (q % 13) < i ∨ (min (q / 13) (q % 13) = i ∧ max (q / 13) (q % 13) < j))
    ·rw [if_pos c, if_pos (by omega)]
    ·rw [if_neg c, if_neg (by omega)]
 ·unfold sf153_L1
  dsimp only
  rw [show i + (n + 1 - i) = n + 1 by omega, decide_eq_false (by omega), cond_false]
theorem u_out {n N : Nat} {lo hi : Int} (hn : n ≤ 12) (h1 : 1 ≤ lo ∧ lo ≤ 200) (h2 : 1 ≤ hi ∧ hi ≤ 200) (hN : 100 ≤ N) :
  iter (sf153_L2 N n lo hi) N ((0 : Int), (fun _ => 0)) = some (uF n lo hi (n + 1) (n + 1)) := by
 refine yD (fun i => ((i : Int), uF n lo hi i i)) (n + 1) _ ?_ (fun i hi' => ?_) ?_ (by omega)
 ·refine Prod.ext rfl ?_
  funext q
  unfold uF
  dsimp only
  rw [if_neg (by omega)]
 ·unfold sf153_L2
  dsimp only
  rw [decide_eq_true (by omega), cond_true, u_in hn (by omega) h1 h2 hN, zn, zp (by unfold rng; omega)]
  congr 3
  funext q
  unfold uF
  by_cases c : q / 13 ≤ n ∧ q % 13 ≤ n ∧ (min (q / 13) (q % 13) < i ∨ (min (q / 13) (q % 13) = i ∧ max (q / 13) (q % 13) < n + 1))
  ·rw [if_pos c, if_pos (by omega)]
  ·rw [if_neg c, if_neg (by omega)]
 ·unfold sf153_L2
  dsimp only
  rw [decide_eq_false (by omega), cond_false]
theorem uK {n i j : Nat} {lo hi : Int} (hn : n ≤ 12) (h1 : i ≤ n) (h2 : j ≤ n) : uF n lo hi (n + 1) (n + 1) (i * 13 + j) = uV lo hi i j := by
 unfold uF
 rw [if_pos (by omega), dv (by omega), md (by omega)]
theorem kO {lo hi : Int} {i j : Nat} (h : lo ≤ hi) : uV lo hi i j = max (((j : Int) - i) * lo) (((j : Int) - i) * hi) := by
 unfold uV
 by_cases d : i ≤ j
 ·rw [if_pos d]
  have := Int.mul_le_mul_of_nonneg_left h (show 0 ≤ (j : Int) - i by omega)
  omega
 ·rw [if_neg d]
  have := Int.mul_le_mul_of_nonneg_left h (show 0 ≤ -((j : Int) - i) by omega)
  rw [Int.neg_mul, Int.neg_mul] at this
  omega
theorem gd_u {n : Nat} {lo hi : Int} (hn : n ≤ 12) (h1 : 1 ≤ lo) (h2 : lo ≤ hi) (h3 : hi ≤ 200) : Gd n (uF n lo hi (n + 1) (n + 1)) := by
 refine ⟨fun i j k a b c => ?_, fun i a => ?_, fun i j a b => ?_⟩
 ·rw [uK hn a c, uK hn a b, uK hn b c, kO h2, kO h2, kO h2, show (k : Int) - i = ((j : Int) - i) + ((k : Int) - j) by omega, Int.add_mul, Int.add_mul]
  omega
 ·rw [uK hn a a, kO h2, show (i : Int) - i = 0 by omega, Int.zero_mul, Int.zero_mul]; rfl
 ·rw [uK hn a b]
  unfold uV
  by_cases d : i ≤ j
  ·rw [if_pos d]
   have := jn (d := (j : Int) - i) (a := hi) (by omega) (by omega) (by omega) (by omega)
   omega
  ·rw [if_neg d]
   have := jn (d := (i : Int) - j) (a := lo) (by omega) (by omega) (by omega) (by omega)
   rw [show (j : Int) - i = -((i : Int) - j) by omega, Int.neg_mul]
   omega
theorem y0 {n f g i j : Nat} {m : Int} {F : Nat → Int} (hn : n ≤ 12) (h1 : i ≤ n) (h2 : j ≤ n) : rowS n f g m F (n + 1) (i * 13 + j) = min (F (i * 13 + j)) (F (i * 13 + f) + m + F (g * 13 + j)) := by
 unfold rowS
 rw [if_pos (by omega), dv (by omega), md (by omega)]
theorem j5 {n f g : Nat} {m : Int} {F : Nat → Int} (hn : n ≤ 12) (h : Gd n F) (hf : f ≤ n) (hg : g ≤ n) (hm : 0 ≤ m + F (g * 13 + f)) : Gd n (rowS n f g m F (n + 1)) := by
 refine ⟨fun i j k hi hj hk => ?_, fun i hi => ?_, fun i j hi hj => ?_⟩
 ·rw [y0 hn hi hk, y0 hn hi hj, y0 hn hj hk]
  have := h.tri i j k hi hj hk
  have := h.tri i j f hi hj hf
  have := h.tri g j k hg hj hk
  have := h.tri g j f hg hj hf
  omega
 ·rw [y0 hn hi hi, h.dg i hi]
  have := h.tri g i f hg hi hf
  omega
 ·rw [y0 hn hi hj]
  have := h.ub i j hi hj
  omega
theorem s103 {N : Nat} {a b c d e : Int} {F : Nat → Int} {x y n : Nat} {m : Int} (hn : n ≤ 12) (hx : x ≤ n) (hy : y ≤ n) (h : Gd n F) (hm : -1000000 ≤ m ∧ m ≤ 1000000) : sf181 N a b c d e F x y m = some (decide (0 ≤ m + F (y * 13 + x))) := by
 have := h.lb (i := y) (j := x) hy hx
 have := h.ub y x hy hx
 unfold sf181
 rw [zp (by omega), zp (by omega), toN, toN, zp (by unfold rng; omega)]
def unr (n : Nat) (t lo hi : Int) : Nat → Int := rowS n n 0 (-t) (rowS n 0 n t (uF n lo hi (n + 1) (n + 1)) (n + 1)) (n + 1)
theorem s97 {N n : Nat} {t lo hi : Int} (ht : TubeOk n t lo hi) (hN : 1000 ≤ N) : sf153 N n t lo hi = some ((n : Int), t, lo, hi, (n : Int) + 1, unr n t lo hi) ∧ Gd n (unr n t lo hi) ∧
  (∀ i, i ≤ n → unr n t lo hi (0 * 13 + i) = min ((i : Int) * hi) (t - ((n : Int) - i) * lo)) ∧ (∀ i, i ≤ n → unr n t lo hi (i * 13 + 0) = -(max ((i : Int) * lo) (t - ((n : Int) - i) * hi))) := by
 obtain ⟨t1, t2, ⟨t3, t4, t5⟩, t6, t7, t8, t9⟩ := ht
 have hn : n ≤ 12 := by omega
 have g0 := gd_u hn t3 t4 t5
 have e0 : ∀ i j, i ≤ n → j ≤ n → uF n lo hi (n + 1) (n + 1) (i * 13 + j) = uV lo hi i j := fun i j a b => uK hn a b
 have un0 : ∀ i, i ≤ n → uV lo hi i 0 = -((i : Int) * lo) := fun i a => by
  unfold uV
  by_cases d : i ≤ 0
  ·have : i = 0 := by omega
   subst this; simp
  ·rw [if_neg d, show ((0 : Nat) : Int) - i = -(i : Int) by omega, Int.neg_mul]
 have u0n : ∀ i, uV lo hi 0 i = (i : Int) * hi := fun i => by
  unfold uV
  rw [if_pos (Nat.zero_le _), show (i : Int) - ((0 : Nat) : Int) = i by omega]
 have unn : ∀ i, i ≤ n → uV lo hi n i = -(((n : Int) - i) * lo) := fun i a => by
  unfold uV
  by_cases d : n ≤ i
  ·have : i = n := by omega
   subst this
   rw [if_pos (Nat.le_refl _), show (i : Int) - i = 0 by omega, Int.zero_mul, Int.zero_mul]; rfl
  ·rw [if_neg d, show (i : Int) - n = -((n : Int) - i) by omega, Int.neg_mul]
 have uin : ∀ i, i ≤ n → uV lo hi i n = ((n : Int) - i) * hi := fun i a => by
  unfold uV
  rw [if_pos a]
 have c1 : 0 ≤ t + uF n lo hi (n + 1) (n + 1) (n * 13 + 0) := by rw [e0 n 0 (Nat.le_refl _) (Nat.zero_le _), un0 n (Nat.le_refl _)]; omega
 have g1 := j5 hn g0 (Nat.zero_le _) (Nat.le_refl _) c1
 have r1 : ∀ i j, i ≤ n → j ≤ n → rowS n 0 n t (uF n lo hi (n + 1) (n + 1)) (n + 1) (i * 13 + j) = min (uV lo hi i j) (uV lo hi i 0 + t + uV lo hi n j) := fun i j a b => by
  rw [y0 hn a b, e0 i j a b, e0 i 0 a (Nat.zero_le _), e0 n j (Nat.le_refl _) b]
 have z0 : uV lo hi 0 0 = 0 := by rw [u0n]; simp
 have f0n : rowS n 0 n t (uF n lo hi (n + 1) (n + 1)) (n + 1) (0 * 13 + n) = t := by
  rw [r1 0 n (Nat.zero_le _) (Nat.le_refl _), u0n, z0, unn n (Nat.le_refl _), show (n : Int) - n = 0 by omega, Int.zero_mul]
  omega
 have c2 : 0 ≤ -t + rowS n 0 n t (uF n lo hi (n + 1) (n + 1)) (n + 1) (0 * 13 + n) := by rw [f0n]; omega
 have g2 := j5 hn g1 (Nat.le_refl _) (Nat.zero_le _) c2
 refine ⟨?_, g2, fun i a => ?_, fun i a => ?_⟩
 ·unfold sf153
  have q1 := s103 (N := N) (a := n) (b := t) (c := lo) (d := hi) (e := (n : Int) + 1) (x := 0) (y := n) (m := t) hn (Nat.zero_le _) (Nat.le_refl _) g0 (by omega)
  have q2 := s103 (N := N) (a := n) (b := t) (c := lo) (d := hi) (e := (n : Int) + 1) (x := n) (y := 0) (m := -t) hn (Nat.le_refl _) (Nat.zero_le _) g1 (by omega)
  have w1 := kZ (N := N) hn (Nat.zero_le _) (Nat.le_refl n) g0 (m := t) (by omega) c1 (by omega)
  have w2 := kZ (N := N) hn (Nat.le_refl n) (Nat.zero_le _) g1 (m := -t) (by omega) c2 (by omega)
  rw [zp (by unfold rng; omega), u_out hn ⟨t3, by omega⟩ ⟨by omega, t5⟩ (by omega), zn, show (0 : Int) = ((0 : Nat) : Int) from rfl, q1, zn, decide_eq_true c1, Bool.not_true, cond_false, l97_6]
  show bnd (iter (lO N ((n : Int) + 1) ((0 : Nat) : Int) n t) N ((0 : Int), _)) _ = _
  rw [w1, zn, zp (by unfold rng; omega), q2, zn, decide_eq_true c2, Bool.not_true, cond_false, l97_8]
  show bnd (iter (lO N ((n : Int) + 1) n ((0 : Nat) : Int) (-t)) N ((0 : Int), _)) _ = _
  rw [w2, zn]
  rfl
 ·unfold unr
  rw [y0 hn (Nat.zero_le _) a, f0n, r1 0 i (Nat.zero_le _) a, u0n, z0, unn i a]
  omega
 ·unfold unr
  have := un0 n (Nat.le_refl _)
  rw [y0 hn a (Nat.zero_le _), r1 i 0 a (Nat.zero_le _), r1 i n a (Nat.le_refl _), r1 0 0 (Nat.zero_le _) (Nat.zero_le _), z0, un0 i a, this, uin i a, unn n (Nat.le_refl _), show (n : Int) - n = 0 by omega, Int.zero_mul]
  omega
def SatF (n : Nat) (F : Nat → Int) (p : Nat → Int) : Prop := ∀ i j, i ≤ n → j ≤ n → p j - p i ≤ F (i * 13 + j)
theorem ui {n f g : Nat} {m : Int} {F p : Nat → Int} (hn : n ≤ 12) (h : Gd n F) (hf : f ≤ n) (hg : g ≤ n) : SatF n (rowS n f g m F (n + 1)) p ↔ SatF n F p ∧ p g - p f ≤ m := by
 refine ⟨fun hs => ⟨fun i j hi hj => ?_, ?_⟩, fun ⟨h1, h2⟩ i j hi hj => ?_⟩
 ·have := hs i j hi hj
  rw [y0 hn hi hj] at this; omega
 ·have := hs f g hf hg
  rw [y0 hn hf hg, h.dg f hf, h.dg g hg] at this; omega
 ·have a1 := h1 i j hi hj
  have a2 := h1 i f hi hf
  have a3 := h1 g j hg hj
  rw [y0 hn hi hj]; omega
def CellS (n : Nat) (lo hi : Int) (p : Nat → Int) : Prop := ∀ i, i < n → lo ≤ p (i + 1) - p i ∧ p (i + 1) - p i ≤ hi
theorem ue {n : Nat} {lo hi : Int} {p : Nat → Int} (h : CellS n lo hi p) (i : Nat) : ∀ d, i + d ≤ n → (d : Int) * lo ≤ p (i + d) - p i ∧ p (i + d) - p i ≤ (d : Int) * hi
 | 0, _ => by simp
 | d + 1, hd => by
  have ih := ue h i d (by omega)
  have c := h (i + d) (by omega)
  have e1 : ((d + 1 : Nat) : Int) * lo = (d : Int) * lo + lo := by push_cast; rw [Int.add_mul, Int.one_mul]
  have e2 : ((d + 1 : Nat) : Int) * hi = (d : Int) * hi + hi := by push_cast; rw [Int.add_mul, Int.one_mul]
  rw [e1, e2, ← Nat.add_assoc]; omega
theorem sat_u {n : Nat} {lo hi : Int} {p : Nat → Int} (hn : n ≤ 12) : SatF n (uF n lo hi (n + 1) (n + 1)) p ↔ CellS n lo hi p := by
 refine ⟨fun hs i hi' => ?_, fun h i j hi' hj => ?_⟩
 ·have a := hs i (i + 1) (by omega) (by omega)
  have b := hs (i + 1) i (by omega) (by omega)
  rw [uK hn (by omega) (by omega)] at a b
  unfold uV at a b
  rw [if_pos (by omega), show ((i + 1 : Nat) : Int) - i = 1 by omega, Int.one_mul] at a
  rw [if_neg (by omega), show (i : Int) - (i + 1 : Nat) = -1 by omega, Int.neg_mul, Int.one_mul] at b
  omega
 ·rw [uK hn hi' hj]
  unfold uV
  by_cases d : i ≤ j
  ·rw [if_pos d]
   have := ue h i (j - i) (by omega)
   rw [show i + (j - i) = j by omega, show ((j - i : Nat) : Int) = (j : Int) - i by omega] at this
   exact this.2
  ·rw [if_neg d]
   have := ue h j (i - j) (by omega)
   rw [show j + (i - j) = i by omega, show ((i - j : Nat) : Int) = -((j : Int) - i) by omega, Int.neg_mul, Int.neg_mul] at this
   omega
theorem uni_c {n : Nat} {t lo hi : Int} (ht : TubeOk n t lo hi) : 0 ≤ t + uF n lo hi (n + 1) (n + 1) (n * 13 + 0) := by
 obtain ⟨t1, t2, ⟨t3, t4, t5⟩, t6, t7, t8, t9⟩ := ht
 rw [uK (by omega) (Nat.le_refl _) (Nat.zero_le _)]
 unfold uV
 rw [if_neg (by omega), show ((0 : Nat) : Int) - n = -(n : Int) by omega, Int.neg_mul]
 omega
theorem sat_unr {n : Nat} {t lo hi : Int} {p : Nat → Int} (ht : TubeOk n t lo hi) : SatF n (unr n t lo hi) p ↔ CellS n lo hi p ∧ p n - p 0 = t := by
 have hn : n ≤ 12 := by have := ht.2.1; omega
 have g0 := gd_u hn ht.2.2.1.1 ht.2.2.1.2.1 ht.2.2.1.2.2
 have g1 := j5 hn g0 (Nat.zero_le _) (Nat.le_refl _) (uni_c ht)
 unfold unr
 rw [ui hn g1 (Nat.le_refl _) (Nat.zero_le _), ui hn g0 (Nat.zero_le _) (Nat.le_refl _), sat_u hn]
 constructor
 ·rintro ⟨⟨a, b⟩, c⟩; exact ⟨a, by omega⟩
 ·rintro ⟨a, b⟩; exact ⟨⟨a, by omega⟩, by omega⟩
def RdS (n : Nat) (r : Int × Int × Int × Int) (p : Nat → Int) : Prop := p r.2.1.toNat - p r.1.toNat ≤ r.2.2.2 ∧ (r.2.1 < n → r.2.2.1 + 1 ≤ p (r.2.1.toNat + 1) - p r.1.toNat)
theorem s96 {N n : Nat} {t lo hi : Int} {F : Nat → Int} {r : Int × Int × Int × Int} (hn : n ≤ 12) (h : Gd n F) (hr : RdOk' n r) (hN : 1000 ≤ N) :
  (∃ F', sf154 N n t lo hi ((n : Int) + 1) F r.1 r.2.1 r.2.2.1 r.2.2.2 = some ((n : Int), t, lo, hi, (n : Int) + 1, F', true) ∧ Gd n F' ∧ ∀ p, SatF n F' p ↔ SatF n F p ∧ RdS n r p) ∨
  (sf154 N n t lo hi ((n : Int) + 1) F r.1 r.2.1 r.2.2.1 r.2.2.2 = some ((0 : Int), (0 : Int), (0 : Int), (0 : Int), (0 : Int), (fun _ => 0), false) ∧ ∀ p, SatF n F p → ¬ RdS n r p) := by
 obtain ⟨f, g, vl, vh⟩ := r
 obtain ⟨h1, h2, h3⟩ := hr
 dsimp only at h1 h2 h3
 obtain ⟨f, rfl⟩ : ∃ k : Nat, f = k := ⟨f.toNat, by omega⟩
 obtain ⟨g, rfl⟩ : ∃ k : Nat, g = k := ⟨g.toNat, by omega⟩
 have hf : f ≤ n := by omega
 have hg : g ≤ n := by omega
 unfold RdS
 simp only [toN]
 unfold sf154
 rw [s103 hn hf hg h (by omega), zn]
 by_cases c1 : 0 ≤ vh + F (g * 13 + f)
 ·have G1 := j5 hn h hf hg c1
  rw [decide_eq_true c1, Bool.not_true, cond_false, l96_2, kZ hn hf hg h (by omega) c1 (by omega), zn]
  by_cases c2 : g < n
  ·rw [decide_eq_true (by omega), cond_true, zp (by unfold rng; omega), zp (by unfold rng; omega), zp (by unfold rng; omega), show (g : Int) + 1 = ((g + 1 : Nat) : Int) from rfl, s103 hn (by omega) hf G1 (by omega), zn]
   by_cases c3 : 0 ≤ -vl - 1 + rowS n f g vh F (n + 1) (f * 13 + (g + 1))
   ·have G2 := j5 hn G1 (f := g + 1) (g := f) (by omega) hf c3
    rw [decide_eq_true c3, Bool.not_true, cond_false, l96_4]
    refine .inl ⟨rowS n (g + 1) f (-vl - 1) (rowS n f g vh F (n + 1)) (n + 1), ?_, G2, fun p => ?_⟩
    ·have := kZ (N := N) hn (f := g + 1) (g := f) (by omega) hf G1 (m := -vl - 1) (by omega) c3 (by omega)
     rw [show ((g : Int) + 1) = ((g + 1 : Nat) : Int) from rfl, this, zn, zn]
     rfl
    ·rw [ui hn G1 (by omega) hf, ui hn h hf hg]
     constructor
     ·rintro ⟨⟨a, b⟩, c⟩; exact ⟨a, b, fun _ => by omega⟩
     ·rintro ⟨a, b, c⟩; have := c (by omega); exact ⟨⟨a, b⟩, by omega⟩
   ·rw [decide_eq_false c3, Bool.not_false, cond_true, zn]
    refine .inr ⟨rfl, fun p hp ⟨q1, q2⟩ => c3 ?_⟩
    have := (ui (m := vh) hn h hf hg).2 ⟨hp, q1⟩ f (g + 1) hf (by omega)
    have := q2 (by omega)
    omega
  ·rw [decide_eq_false (by omega), cond_false, zn]
   refine .inl ⟨rowS n f g vh F (n + 1), rfl, G1, fun p => ?_⟩
   rw [ui hn h hf hg]
   constructor
   ·rintro ⟨a, b⟩; exact ⟨a, b, fun q => absurd q (by omega)⟩
   ·rintro ⟨a, b, _⟩; exact ⟨a, b⟩
 ·rw [decide_eq_false c1, Bool.not_false, cond_true]
  refine .inr ⟨rfl, fun p hp ⟨q1, q2⟩ => c1 ?_⟩
  have := hp g f hg hf
  omega
def TruS (n : Nat) (t lo hi : Int) (L : List (Int × Int × Int × Int)) (p : Nat → Int) : Prop := (CellS n lo hi p ∧ p n - p 0 = t) ∧ ∀ r, r ∈ L → RdS n r p
theorem Xu {α : Type} {P : α → Prop} {l : List α} {x : α} : (∀ r, r ∈ l ++ [x] → P r) ↔ (∀ r, r ∈ l → P r) ∧ P x := by
 constructor
 ·exact fun h => ⟨fun r hr => h r (List.mem_append.2 (.inl hr)), h x (List.mem_append.2 (.inr (List.mem_singleton.2 rfl)))⟩
 ·rintro ⟨h1, h2⟩ r hr
  rcases List.mem_append.1 hr with q | q
  ·exact h1 r q
  ·rw [List.mem_singleton.1 q]; exact h2
theorem Yi {α β : Type} {step : α → Option (α ⊕ β)} {x x' : α} {M : Nat} (h : step x = some (.inl x')) : iter step (M + 1) x = iter step M x' := by
 conv => lhs; unfold iter
 rw [h]; rfl
theorem jY {α β : Type} {step : α → Option (α ⊕ β)} {x : α} {y : β} {M : Nat} (h : step x = some (.inr y)) : iter step (M + 1) x = some y := by
 unfold iter
 rw [h]; rfl
theorem jI {N n : Nat} {t lo hi : Int} {L : List (Int × Int × Int × Int)} (hn : n ≤ 12) (hL : L.length ≤ 100) (hr : AllP (RdOk' n) L) (hN : 1000 ≤ N) : ∀ (k j M : Nat) (mp : Int × Int × Int × Int → Option Bool) (F : Nat → Int), j + k = L.length → k < M → Gd n F → (∀ p, SatF n F p ↔ (CellS n lo hi p ∧ p n - p 0 = t) ∧ ∀ r, r ∈ L.take j → RdS n r p) → (∀ r b, mp r = some b → r ∈ L.take j) →
  (∃ mp' F', iter (sf135_L1 N L) M ((j : Int), mp, (n : Int), t, lo, hi, (n : Int) + 1, F, (0 : Int), (0 : Int), (0 : Int), (0 : Int), (0 : Int), (fun _ => 0)) = some (.inr (mp', (n : Int), t, lo, hi, (n : Int) + 1, F', (0 : Int), (0 : Int), (0 : Int), (0 : Int), (0 : Int), (fun _ => 0))) ∧ Gd n F' ∧ ∀ p, SatF n F' p ↔ TruS n t lo hi L p) ∨
  (∃ w : ((Int × Int × Int × Int) → Option Bool) × Int × Int × Int × Int × Int × (Nat → Int), iter (sf135_L1 N L) M ((j : Int), mp, (n : Int), t, lo, hi, (n : Int) + 1, F, (0 : Int), (0 : Int), (0 : Int), (0 : Int), (0 : Int), (fun _ => 0)) = some (.inl (w.1, w.2.1, w.2.2.1, w.2.2.2.1, w.2.2.2.2.1, w.2.2.2.2.2.1, w.2.2.2.2.2.2, (0 : Int), (0 : Int), (0 : Int), (0 : Int), (0 : Int), (fun _ => 0))) ∧ ∀ p, ¬ TruS n t lo hi L p)
 | 0, j, 0, mp, F, hj, hM, _, _, _ => by omega
 | 0, j, M + 1, mp, F, hj, hM, hG, hS, hm => by
  refine .inl ⟨mp, F, jY ?_, hG, fun p => ?_⟩
  ·unfold sf135_L1
   dsimp only
   rw [decide_eq_false (by omega), cond_false]
  ·rw [hS p, List.take_of_length_le (by omega)]
   rfl
 | k + 1, j, 0, mp, F, hj, hM, _, _, _ => by omega
 | k + 1, j, M + 1, mp, F, hj, hM, hG, hS, hm => by
  obtain ⟨z, hz⟩ : ∃ z, L[j]? = some z := ⟨_, yc (by omega)⟩
  have hzL : z ∈ L := List.mem_of_getElem? hz
  have tk := vK hz
  have hck : rng ((j : Int) + 1) := by unfold rng; omega
  by_cases hmp : mp z = some true
  ·have hz0 := hm z true hmp
   have key : ∀ p, ((CellS n lo hi p ∧ p n - p 0 = t) ∧ ∀ r, r ∈ L.take (j + 1) → RdS n r p) ↔ ((CellS n lo hi p ∧ p n - p 0 = t) ∧ ∀ r, r ∈ L.take j → RdS n r p) := fun p => by
    rw [tk, Xu]
    exact ⟨fun ⟨a, b, c⟩ => ⟨a, b⟩, fun ⟨a, b⟩ => ⟨a, b, b z hz0⟩⟩
   have e1 : sf135_L1 N L ((j : Int), mp, (n : Int), t, lo, hi, (n : Int) + 1, F, (0 : Int), (0 : Int), (0 : Int), (0 : Int), (0 : Int), (fun _ => 0)) = some (.inl (((j + 1 : Nat) : Int), mp, (n : Int), t, lo, hi, (n : Int) + 1, F, (0 : Int), (0 : Int), (0 : Int), (0 : Int), (0 : Int), (fun _ => 0))) := by
    unfold sf135_L1
    dsimp only
    rw [decide_eq_true (by omega), cond_true, yf rfl hz, hmp, show Option.getD (some true) false = true from rfl, cond_true, zp hck]
    rfl
   rw [Yi e1]
   exact jI hn hL hr hN k (j + 1) M mp F (by omega) (by omega) hG (fun p => by rw [hS p, key p]) (fun r b q => by rw [tk]; exact List.mem_append.2 (.inl (hm r b q)))
  ·have hg : Option.getD (mp z) false = false := by
    cases h : mp z with
    | none => rfl
    | some b =>
     cases b with
     | true => exact absurd h hmp
     | false => rfl
   rcases s96 (N := N) (t := t) (lo := lo) (hi := hi) hn hG (hr z hzL) hN with ⟨F', e, G', S'⟩ | ⟨e, S'⟩
   ·have e1 : sf135_L1 N L ((j : Int), mp, (n : Int), t, lo, hi, (n : Int) + 1, F, (0 : Int), (0 : Int), (0 : Int), (0 : Int), (0 : Int), (fun _ => 0)) = some (.inl (((j + 1 : Nat) : Int), upm mp z true, (n : Int), t, lo, hi, (n : Int) + 1, F', (0 : Int), (0 : Int), (0 : Int), (0 : Int), (0 : Int), (fun _ => 0))) := by
     unfold sf135_L1
     dsimp only
     rw [decide_eq_true (by omega), cond_true, yf rfl hz, hg, cond_false, e, zn]
     dsimp only
     rw [Bool.not_true, cond_false, zp hck]
     rfl
    rw [Yi e1]
    exact jI hn hL hr hN k (j + 1) M _ F' (by omega) (by omega) G' (fun p => by rw [S' p, hS p, tk, Xu]; exact ⟨fun ⟨⟨a, b⟩, c⟩ => ⟨a, b, c⟩, fun ⟨a, b, c⟩ => ⟨⟨a, b⟩, c⟩⟩) (fun r b q => by
     unfold upm at q
     rw [tk]
     by_cases hrz : r = z
     ·rw [hrz]; exact List.mem_append.2 (.inr (List.mem_singleton.2 rfl))
     ·rw [if_neg hrz] at q; exact List.mem_append.2 (.inl (hm r b q)))
   ·have e1 : sf135_L1 N L ((j : Int), mp, (n : Int), t, lo, hi, (n : Int) + 1, F, (0 : Int), (0 : Int), (0 : Int), (0 : Int), (0 : Int), (fun _ => 0)) = some (.inr (.inl (upm mp z true, (0 : Int), (0 : Int), (0 : Int), (0 : Int), (0 : Int), (fun _ => 0), (0 : Int), (0 : Int), (0 : Int), (0 : Int), (0 : Int), (fun _ => 0)))) := by
     unfold sf135_L1
     dsimp only
     rw [decide_eq_true (by omega), cond_true, yf rfl hz, hg, cond_false, e, zn]
     rfl
    exact .inr ⟨(upm mp z true, (0 : Int), (0 : Int), (0 : Int), (0 : Int), (0 : Int), (fun _ => 0)), jY e1, fun p hp => S' p ((hS p).2 ⟨hp.1, fun r hr' => hp.2 r (List.mem_of_mem_take hr')⟩) (hp.2 z hzL)⟩
theorem s89 {N n : Nat} {t lo hi : Int} {L : List (Int × Int × Int × Int)} (ht : TubeOk n t lo hi) (hL : L.length ≤ 100) (hr : AllP (RdOk' n) L) (hN : 1000 ≤ N) :
  (∃ F, sf135 N n t lo hi L = some ((n : Int), t, lo, hi, (n : Int) + 1, F, true) ∧ Gd n F ∧ ∀ p, SatF n F p ↔ TruS n t lo hi L p) ∨
  (sf135 N n t lo hi L = some ((0 : Int), (0 : Int), (0 : Int), (0 : Int), (0 : Int), (fun _ => 0), false) ∧ ∀ p, ¬ TruS n t lo hi L p) := by
 have hn : n ≤ 12 := by have := ht.2.1; omega
 obtain ⟨e97, g97, _, _⟩ := s97 (N := N) ht hN
 unfold sf135
 rw [e97, zn]
 dsimp only
 rcases jI (N := N) (t := t) (lo := lo) (hi := hi) hn hL hr hN L.length 0 N (fun _ => none) (unr n t lo hi) (by omega) (by omega) g97 (fun p => by rw [sat_unr ht]; simp) (fun r b q => by cases q) with ⟨mp', F', e, G, S⟩ | ⟨w, e, S⟩
 ·refine .inl ⟨F', ?_, G, S⟩
  rw [show (0 : Int) = ((0 : Nat) : Int) from rfl] at e ⊢
  rw [e]; rfl
 ·refine .inr ⟨?_, S⟩
  rw [show (0 : Int) = ((0 : Nat) : Int) from rfl] at e ⊢
  rw [e]; rfl
def bdF (n : Nat) (F : Nat → Int) : List (Int × Int) := (List.range (n + 1)).map fun (i : Nat) => (-F (i * 13 + 0), F (0 * 13 + i))
theorem Y0 {n : Nat} {F : Nat → Int} : (bdF n F).length = n + 1 := by unfold bdF; simp
theorem bdF_at {n i : Nat} {F : Nat → Int} (h : i ≤ n) : (bdF n F)[i]? = some (-F (i * 13 + 0), F (0 * 13 + i)) := by
 unfold bdF
 rw [List.getElem?_map, List.getElem?_range (by omega)]; rfl
theorem s73F {N n : Nat} {t lo hi : Int} {F : Nat → Int} (hn : n ≤ 12) (gd : Gd n F) (hN : 1000 ≤ N) : sf108 N n t lo hi ((n : Int) + 1) F = some (bdF n F) := by
 unfold sf108
 have e : iter (sf108_L1 N n t lo hi ((n : Int) + 1) F) N (([] : List (Int × Int)), (0 : Int)) = some (bdF n F) := by
  refine yD (fun k => ((List.range k).map (fun i : Nat => (-F (i * 13 + 0), F (0 * 13 + i))), (k : Int))) (n + 1) _ rfl (fun k hk => ?_) ?_ (by omega)
  ·have l1 := gd.lb (i := k) (j := 0) (by omega) (by omega)
   have l2 := gd.ub k 0 (by omega) (by omega)
   have x90 : sf136 N n t lo hi ((n : Int) + 1) F k = some (-F (k * 13 + 0)) := by
    unfold sf136
    rw [zp (by omega), zp (by omega), toN, show Int.toNat 0 = 0 from rfl, zp (by unfold rng; omega)]
   have x91 : sf137 N n t lo hi ((n : Int) + 1) F k = some (F (0 * 13 + k)) := by
    unfold sf137
    rw [zp (by omega), zp (by omega), toN, show Int.toNat 0 = 0 from rfl]
   unfold sf108_L1
   dsimp only
   rw [decide_eq_true (by omega), cond_true, x90, zn, x91, zn, zp (by simp; omega), zp (by unfold rng; omega), List.range_succ, List.map_append]
   rfl
  ·unfold sf108_L1
   dsimp only
   rw [decide_eq_false (by omega), cond_false]
   rfl
 rw [show sf96 N = some () from rfl, zn, zp (by unfold rng; omega), zp (by omega), show List.replicate (Int.toNat 0) ((0 : Int), (0 : Int)) = [] from rfl, e, zn]
theorem s29_ok {N n : Nat} {t lo hi : Int} {L : List (Int × Int × Int × Int)} (ht : TubeOk n t lo hi) (hL : L.length ≤ 12) (hr : AllP (RdOk' n) L) (hN : 1000 ≤ N) :
  (∃ F, sf70 N n t lo hi L = some (bdF n F, 0) ∧ Gd n F ∧ ∀ p, SatF n F p ↔ TruS n t lo hi L p) ∨
  (sf70 N n t lo hi L = some ([], 9) ∧ ∀ p, ¬ TruS n t lo hi L p) := by
 have hn : n ≤ 12 := by have := ht.2.1; omega
 have e64 : sf134 N n t lo hi L = some 0 := by rw [s64 (by omega) hN, if_pos ht, if_pos hL, if_pos hr]
 unfold sf70 sf94
 rw [e64, zn]
 rw [decide_eq_true rfl, Bool.not_true, cond_false, cond_false]
 rcases s89 (N := N) ht (by omega) hr hN with ⟨F, e, G, S⟩ | ⟨e, S⟩
 ·refine .inl ⟨F, ?_, G, S⟩
  rw [e, zn]
  dsimp only
  rw [Bool.not_true, cond_false, zn]
  dsimp only
  rw [decide_eq_true rfl, Bool.not_true, cond_false, s73F hn G hN, zn]
 ·refine .inr ⟨?_, S⟩
  rw [e, zn]
  rfl
theorem low_sat {n : Nat} {F : Nat → Int} (h : Gd n F) : SatF n F fun j => -F (j * 13 + 0) := fun i j hi hj => by
 have := h.tri i j 0 hi hj (Nat.zero_le _)
 show -F (j * 13 + 0) - -F (i * 13 + 0) ≤ _
 omega
theorem high_sat {n : Nat} {F : Nat → Int} (h : Gd n F) : SatF n F fun j => F (0 * 13 + j) := fun i j hi hj => by
 have := h.tri 0 i j (Nat.zero_le _) hi hj
 show F (0 * 13 + j) - F (0 * 13 + i) ≤ _
 omega
def W16 (x : Int) : Prop := 0 ≤ x ∧ x < 65536
theorem tm {a b : Int} (ha : 0 ≤ a) (hb : 0 < b) : 0 ≤ Int.tmod a b ∧ Int.tmod a b < b := by
 rw [Int.tmod_eq_emod_of_nonneg ha]
 exact ⟨Int.emod_nonneg _ (by omega), Int.emod_lt_of_pos _ hb⟩
theorem td {a b : Int} (ha : 0 ≤ a) : Int.tdiv a b = a / b := Int.tdiv_eq_ediv_of_nonneg ha
theorem tme {a b : Int} (ha : 0 ≤ a) : Int.tmod a b = a % b := Int.tmod_eq_emod_of_nonneg ha
theorem uG {x : Int} (h : W16 x) : IntKind.wrap .i64 x = x := by
 unfold W16 at h
 have e : x % 2 ^ IntKind.bits .i64 = x := by
  show x % 18446744073709551616 = x
  omega
 unfold IntKind.wrap
 simp only [e]
 rw [if_neg]
 intro hc
 have hc2 := of_decide_eq_true (Bool.and_eq_true_iff.1 hc).2
 have : (9223372036854775808 : Int) ≤ x := hc2
 omega
theorem s62 {N : Nat} {l : List Int} {k : Int} (hl : AllP W16 l) (hk : 0 ≤ k) : ∃ w, sf133 N l k = some w ∧ W16 w := by
 unfold sf133
 by_cases h : l.length = 0
 ·rw [decide_eq_true (by omega), cond_true]; exact ⟨0, rfl, by unfold W16; omega⟩
 ·rw [decide_eq_false (by omega), cond_false, zp (by omega)]
  have := tm (a := k) (b := l.length) hk (by omega)
  obtain ⟨j, hj⟩ : ∃ j : Nat, Int.tmod k l.length = j := ⟨(Int.tmod k l.length).toNat, by omega⟩
  obtain ⟨z, hz⟩ : ∃ z, l[j]? = some z := ⟨_, yc (by omega)⟩
  have hw := hl z (List.mem_of_getElem? hz)
  rw [hj, yf rfl hz, zp (uG hw)]
  exact ⟨z, rfl, hw⟩
theorem s53 {N n : Nat} {t lo hi : Int} {W : List Int} (ht : TubeOk n t lo hi) (hW : AllP W16 W) (hN : 1000 ≤ N) : ∃ v, sf92 N n t lo hi W = some v ∧ v.length = n ∧ AllP (InV lo hi) v ∧ v.sum = t := by
 obtain ⟨t1, t2, ⟨t3, t4, t5⟩, t6, t7, t8, t9⟩ := ht
 have H := vG (step := sf92_L1 N n lo hi W) (fun x => ∃ k : Nat, x.2.2 = k ∧ k ≤ n ∧ x.1.length = k ∧ AllP (InV lo hi) x.1 ∧ x.1.sum + x.2.1 = t ∧ ((n : Int) - k) * lo ≤ x.2.1 ∧ x.2.1 ≤ ((n : Int) - k) * hi) (fun x => n - x.2.2.toNat) (fun v => v.length = n ∧ AllP (InV lo hi) v ∧ v.sum = t) (by
  rintro ⟨out, left, _⟩ ⟨k, rfl, hk, hl, hA, hsum, b1, b2⟩
  dsimp only at hl hA hsum b1 b2 ⊢
  by_cases hkn : k < n
  ·refine .inl ?_
   have e1 : ((n : Int) - k) * lo = ((n : Int) - 1 - k) * lo + lo := by rw [show (n : Int) - k = ((n : Int) - 1 - k) + 1 by omega, Int.add_mul, Int.one_mul]
   have e2 : ((n : Int) - k) * hi = ((n : Int) - 1 - k) * hi + hi := by rw [show (n : Int) - k = ((n : Int) - 1 - k) + 1 by omega, Int.add_mul, Int.one_mul]
   have m1 := jn (d := (n : Int) - 1 - k) (a := lo) (by omega) (by omega) (by omega) (by omega)
   have m2 := jn (d := (n : Int) - 1 - k) (a := hi) (by omega) (by omega) (by omega) (by omega)
   obtain ⟨w, ew, hw⟩ := s62 (N := N) (l := W) (k := (k : Int)) hW (by omega)
   rw [e1] at b1
   rw [e2] at b2
   have mm : ((n : Int) - 1 - k) * lo ≤ ((n : Int) - 1 - k) * hi := Int.mul_le_mul_of_nonneg_left t4 (by omega)
   generalize hX : ((n : Int) - 1 - k) * lo = X at *
   generalize hY : ((n : Int) - 1 - k) * hi = Y at *
   have hh : 0 < min hi (left - X) - max lo (left - Y) + 1 := by omega
   have tq := tm (a := w) (b := min hi (left - X) - max lo (left - Y) + 1) (by unfold W16 at hw; omega) hh
   unfold sf92_L1
   dsimp only
   generalize hT : Int.tmod w (min hi (left - X) - max lo (left - Y) + 1) = T at *
   refine ⟨(out ++ [max lo (left - Y) + T], left - (max lo (left - Y) + T), ((k + 1 : Nat) : Int)), ?_, ⟨k + 1, rfl, by omega, by simp; omega, ?_, ?_, ?_⟩, by dsimp only; omega⟩
   ·rw [decide_eq_true (by omega), cond_true, zp (by unfold rng; omega), zp (by unfold rng; omega), hY, hX, zp (by unfold rng; omega), zp (by unfold rng; omega), zp (by unfold rng; omega), zp (by unfold rng; omega), ew, zn, zp (by unfold rng; omega), zp (by unfold rng; omega), zp (by omega), hT, zp (by unfold rng; omega), zp (by omega), zp (by unfold rng; omega), zp (by unfold rng; omega)]
    rfl
   ·intro x hx
    rcases List.mem_append.1 hx with q | q
    ·exact hA x q
    ·rw [List.mem_singleton.1 q]; unfold InV; omega
   ·dsimp only
    rw [List.sum_append]; simp; omega
   ·dsimp only
    rw [show ((n : Int) - ((k + 1 : Nat) : Int)) = (n : Int) - 1 - k by omega, hX, hY]
    omega
  ·refine .inr ⟨out, ?_, by omega, hA, ?_⟩
   ·unfold sf92_L1
    dsimp only
    rw [decide_eq_false (by omega), cond_false]
   ·have : k = n := by omega
    subst this
    rw [show (k : Int) - k = 0 by omega, Int.zero_mul] at b1 b2
    omega) N (([] : List Int), t, (0 : Int)) ⟨0, rfl, by omega, rfl, fun x hx => (by cases hx), by simp, by simpa using t8, by simpa using t9⟩ (by dsimp only; omega)
 obtain ⟨v, e, q1, q2, q3⟩ := H
 refine ⟨v, ?_, q1, q2, q3⟩
 unfold sf92
 rw [e, zn]
theorem hs_all {l : List Int} {k : Nat} (h : l.length = k) : hs l k = l.sum := by
 unfold hs
 rw [List.take_of_length_le (by omega)]
theorem vol_of {lo hi : Int} {l : List Int} (h1 : 1 ≤ lo) (h2 : hi ≤ 200) (h : AllP (InV lo hi) l) : AllP Vol l := fun x hx => by
 have := h x hx
 unfold InV at this
 unfold Vol; omega
theorem hs_cell {lo hi : Int} {l : List Int} {n : Nat} (hl : l.length = n) (h : AllP (InV lo hi) l) : CellS n lo hi (hs l) := fun i hi' => by
 obtain ⟨x, hx⟩ : ∃ x, l[i]? = some x := ⟨_, yc (by omega)⟩
 have := h x (List.mem_of_getElem? hx)
 unfold InV at this
 rw [jw hx]; omega
theorem YR {l : List Int} (h : AllP Vol l) (i : Nat) : ∀ d, i + d ≤ l.length → hs l i ≤ hs l (i + d)
 | 0, _ => Int.le_refl _
 | d + 1, hd => by
  have ih := YR h i d (by omega)
  obtain ⟨x, hx⟩ : ∃ x, l[i + d]? = some x := ⟨_, yc (by omega)⟩
  have := h x (List.mem_of_getElem? hx)
  unfold Vol at this
  rw [← Nat.add_assoc, jw hx]; omega
def RdX (n : Nat) (v : List Int) (r : Int × Int × Int × Int) : Prop := RdOk' n r ∧ RdS n r (hs v)
theorem s54 {N n : Nat} {t lo hi : Int} {v W : List Int} (ht : TubeOk n t lo hi) (hl : v.length = n) (hv : AllP (InV lo hi) v) (hs' : v.sum = t) (hW : AllP W16 W) (hN : 1000 ≤ N) : ∃ L, sf93 N n t lo hi v W = some L ∧ L.length ≤ 12 ∧ L.length ≤ W.length ∧ AllP (RdX n v) L := by
 obtain ⟨t1, t2, ⟨t3, t4, t5⟩, t6, t7, t8, t9⟩ := ht
 have hb := vol_of t3 t5 hv
 have ht' : hs v n = t := by rw [hs_all hl, hs']
 have H := vG (step := sf93_L2 N n t v W) (fun x => ∃ k : Nat, x.2 = k ∧ k ≤ 12 ∧ k ≤ W.length ∧ x.1.length = k ∧ AllP (RdX n v) x.1) (fun x => 12 - x.2.toNat) (fun L => L.length ≤ 12 ∧ L.length ≤ W.length ∧ AllP (RdX n v) L) (by
  rintro ⟨out, _⟩ ⟨k, rfl, hk, hkw, hlen, hA⟩
  dsimp only at hlen hA ⊢
  by_cases hc : k < W.length ∧ k < 12
  ·refine .inl ?_
   obtain ⟨w, hw⟩ : ∃ w, W[k]? = some w := ⟨_, yc hc.1⟩
   have w16 := hW w (List.mem_of_getElem? hw)
   have w0 : 0 ≤ w := w16.1
   have tf := tm (a := w) (b := n) w0 (by omega)
   obtain ⟨f, hf⟩ : ∃ f : Nat, Int.tmod w n = f := ⟨(Int.tmod w n).toNat, by omega⟩
   have hfn : f < n := by omega
   have bf := hs_b hb f (by omega)
   have mf := YR hb f (n - f) (by omega)
   rw [show f + (n - f) = n by omega, ht'] at mf
   unfold W16 at w16
   have ea : Int.tdiv w 16 = w / 16 := td w0
   have eb : Int.tmod (Int.tdiv w 16) 256 = w / 16 % 256 := by rw [ea, tme (by omega)]
   have ec : Int.tdiv w 4096 = w / 4096 := td w0
   have ed : Int.tmod (Int.tdiv w 4096) 4 = w / 4096 % 4 := by rw [ec, tme (by omega)]
   have ee : Int.tdiv w 8192 = w / 8192 := td w0
   have ef : Int.tmod (Int.tdiv w 8192) 3 = w / 8192 % 3 := by rw [ee, tme (by omega)]
   obtain ⟨A, hAdef⟩ : ∃ A, A = w / 16 % 256 := ⟨_, rfl⟩
   have A0 : 0 ≤ A ∧ A ≤ 255 := by omega
   obtain ⟨B, hB⟩ : ∃ B, B = t - hs v f + 5 := ⟨_, rfl⟩
   have B0 : 5 ≤ B ∧ B ≤ 2005 := by omega
   have p1 : 0 * B ≤ A * B := Int.mul_le_mul_of_nonneg_right A0.1 (by omega)
   have p2 : A * B ≤ 255 * B := Int.mul_le_mul_of_nonneg_right A0.2 (by omega)
   obtain ⟨T, hT⟩ : ∃ T, Int.tdiv (A * B) 256 = T := ⟨_, rfl⟩
   have T0 : 0 ≤ T ∧ T ≤ 1998 := by rw [td (by omega)] at hT; omega
   obtain ⟨a, ha⟩ : ∃ a, a = w / 4096 % 4 := ⟨_, rfl⟩
   obtain ⟨b, hb'⟩ : ∃ b, b = w / 8192 % 3 := ⟨_, rfl⟩
   have a0 : 0 ≤ a ∧ a ≤ 3 := by omega
   have b0 : 0 ≤ b ∧ b ≤ 2 := by omega
   -- where the thread ends
   have hin : ∃ g : Nat, iter (sf93_L1 N n t v w (hs v f)) N (f : Int) = some (g : Int) ∧ f ≤ g ∧ g ≤ n ∧ hs v g - hs v f ≤ T ∧ (g < n → T < hs v (g + 1) - hs v f) := by
    have H := vG (step := sf93_L1 N n t v w (hs v f)) (fun x => ∃ g : Nat, x = g ∧ f ≤ g ∧ g ≤ n ∧ hs v g - hs v f ≤ T) (fun x => n - x.toNat) (fun y => ∃ g : Nat, y = g ∧ f ≤ g ∧ g ≤ n ∧ hs v g - hs v f ≤ T ∧ (g < n → T < hs v (g + 1) - hs v f)) (by
     rintro _ ⟨g, rfl, g1, g2, g3⟩
     unfold sf93_L1
     rw [hf, eb, ← hAdef, ← hB, hT]
     by_cases hg : g < n
     ·have bg := hs_b hb (g + 1) (by omega)
      rw [decide_eq_true (by omega), cond_true, zp (by unfold rng; omega), show (g : Int) + 1 = ((g + 1 : Nat) : Int) from rfl, s38 (by omega) (by omega) hb hN, zn, s38 (by omega) (by omega) hb hN, zn, zp (by unfold rng; omega)]
      by_cases hd : hs v (g + 1) - hs v f ≤ T
      ·rw [decide_eq_true hd, zn, cond_true, zp (by unfold rng; omega)]
       exact .inl ⟨_, rfl, ⟨g + 1, rfl, by omega, by omega, hd⟩, by omega⟩
      ·rw [decide_eq_false hd, zn, cond_false]
       exact .inr ⟨_, rfl, g, rfl, g1, g2, g3, fun _ => by omega⟩
     ·rw [decide_eq_false (by omega), cond_false, zn, cond_false]
      exact .inr ⟨_, rfl, g, rfl, g1, g2, g3, fun q => absurd q hg⟩) N (f : Int) ⟨f, rfl, Nat.le_refl _, by omega, by omega⟩ (by omega)
    obtain ⟨y, e, g, rfl, q⟩ := H
    exact ⟨g, e, q⟩
   obtain ⟨g, eg, g1, g2, g3, g4⟩ := hin
   refine ⟨(out ++ [((f : Int), (g : Int), max 0 (T - a), min 2000 (T + b))], ((k + 1 : Nat) : Int)), ?_, ⟨k + 1, rfl, by omega, by omega, by simp; omega, ?_⟩, by dsimp only; omega⟩
   ·unfold sf93_L2
    dsimp only
    rw [decide_eq_true (by omega), cond_true, decide_eq_true (by omega), zn, cond_true, zn, sL, yf rfl hw, zp (uG ⟨w0, by omega⟩), zp (by omega), zp (by rw [ea]; unfold rng; omega), zp (by omega), hf, s38 (by omega) (by omega) hb hN, zn, zp (by unfold rng; omega), zp (by unfold rng; omega), eb, ← hAdef, ← hB, zp (by unfold rng; omega), hT, zp (by unfold rng; omega), eg, zn, ed, ef, ← ha, ← hb', zp (by rw [ec]; unfold rng; omega), zp (by omega), zp (by unfold rng; omega), zp (by rw [ee]; unfold rng; omega), zp (by omega), zp (by unfold rng; omega), zp (by omega), zp (by unfold rng; omega)]
    rfl
   ·intro x hx
    rcases List.mem_append.1 hx with q | q
    ·exact hA x q
    ·rw [List.mem_singleton.1 q]
     refine ⟨⟨⟨by dsimp only; omega, by dsimp only; omega⟩, ⟨by dsimp only; omega, by dsimp only; omega⟩, by dsimp only; omega, by dsimp only; omega, by dsimp only; omega⟩, ?_, fun q => ?_⟩
     ·dsimp only [toN]
      show hs v (Int.toNat g) - hs v (Int.toNat f) ≤ _
      rw [toN, toN]; omega
     ·dsimp only at q ⊢
      rw [toN, toN]
      have := g4 (by omega)
      omega
  ·refine .inr ⟨out, ?_, by omega, by omega, hA⟩
   unfold sf93_L2
   dsimp only
   by_cases h1 : k < W.length
   ·rw [decide_eq_true (by omega), cond_true, decide_eq_false (by omega)]; rfl
   ·rw [decide_eq_false (by omega), cond_false]; rfl) N (([] : List (Int × Int × Int × Int)), (0 : Int)) ⟨0, rfl, by omega, by omega, rfl, fun x hx => (by cases hx)⟩ (by dsimp only; omega)
 obtain ⟨L, e, q1, q2, q3⟩ := H
 refine ⟨L, ?_, q1, q2, q3⟩
 unfold sf93
 rw [e, zn]
theorem tru_of {n : Nat} {t lo hi : Int} {v : List Int} {L : List (Int × Int × Int × Int)} (hl : v.length = n) (hv : AllP (InV lo hi) v) (hs' : v.sum = t) (hL : AllP (RdX n v) L) : TruS n t lo hi L (hs v) := by
 refine ⟨⟨hs_cell hl hv, ?_⟩, fun r hr => (hL r hr).2⟩
 rw [hs_all hl, hs']
 show t - hs v 0 = t
 unfold hs; simp
end Go.Hx.V

namespace Go.Hx.V
open Go.Hx
def Pr (z : Int × Int) : Prop := (1 ≤ z.1 ∧ z.1 ≤ 2000) ∧ 1 ≤ z.2 ∧ z.2 ≤ 2000
instance {z : Int × Int} : Decidable (Pr z) := by unfold Pr; infer_instance
def OrdT (l : List (Int × Int)) : Prop := ∀ i a b, l[i]? = some a → l[i + 1]? = some b → a.1 < b.1 ∧ a.2 < b.2
def TbOk (l : List (Int × Int)) : Prop := 2 ≤ l.length ∧ AllP Pr l ∧ OrdT l
theorem q25 {N : Nat} {a b c : Int} : sf25 N a b c = some (decide (b ≤ a ∧ a ≤ c)) := by
 unfold sf25
 by_cases h : b ≤ a <;> simp [h]
theorem q144 {N : Nat} {a b c : Int} : sf144 N a b c = some (decide (a ≤ c ∧ c ≤ b)) := by
 unfold sf144
 by_cases h : a ≤ c <;> simp [h]
theorem q110 {N : Nat} {a b c : Int} : sf110 N a b c = some (decide (a ≤ c ∧ c ≤ b)) := by
 unfold sf110
 by_cases h : a ≤ c <;> simp [h]
theorem q86 {N : Nat} {p q a b : Int} : sf86 N p q a b = some (decide (a ≤ p ∧ p ≤ q ∧ q ≤ b)) := by
 unfold sf86
 rw [q25, zn]
 by_cases h : a ≤ p ∧ p ≤ q
 ·rw [decide_eq_true h, cond_true]; simp [h]
 ·rw [decide_eq_false h, cond_false]
  congr 1
  exact (decide_eq_false fun h' => h ⟨h'.1, h'.2.1⟩).symm
theorem q139 {N : Nat} {p q a b : Int} : sf139 N p q a b = some (decide (a ≤ p ∧ p ≤ q ∧ q ≤ b)) := by
 unfold sf139
 by_cases h : p ≤ q
 ·rw [decide_eq_true h, cond_true, q144, zn]
  by_cases h2 : a ≤ p ∧ p ≤ b
  ·rw [decide_eq_true h2, cond_true, q144, zn]
   refine congrArg some (decide_eq_decide.2 ?_); omega
  ·rw [decide_eq_false h2, cond_false]
   exact congrArg some (decide_eq_false (by omega)).symm
 ·rw [decide_eq_false h, cond_false]
  exact congrArg some (decide_eq_false (by omega)).symm
theorem q102 {N : Nat} {p q a b : Int} : sf102 N p q a b = some (decide (a ≤ p ∧ p ≤ q ∧ q ≤ b)) := by
 unfold sf102
 by_cases h : p ≤ q
 ·rw [decide_eq_true h, cond_true, q110, zn]
  by_cases h2 : a ≤ p ∧ p ≤ b
  ·rw [decide_eq_true h2, cond_true, q110, zn]
   refine congrArg some (decide_eq_decide.2 ?_); omega
  ·rw [decide_eq_false h2, cond_false]
   exact congrArg some (decide_eq_false (by omega)).symm
 ·rw [decide_eq_false h, cond_false]
  exact congrArg some (decide_eq_false (by omega)).symm
theorem q156 {N : Nat} {z : Int × Int} : sf156 N z.1 z.2 = some (decide (Pr z)) := by
 unfold sf156
 rw [q144, zn]
 by_cases h : 1 ≤ z.1 ∧ z.1 ≤ 2000
 ·rw [decide_eq_true h, cond_true, q144, zn]
  refine congrArg some (decide_eq_decide.2 ⟨fun q => ⟨h, q⟩, fun q => q.2⟩)
 ·rw [decide_eq_false h, cond_false]
  exact congrArg some (decide_eq_false fun q => h q.1).symm
theorem q155 {N : Nat} {l : List (Int × Int)} (h : l.length ≤ 100) (hN : 1000 ≤ N) : sf155 N l = some (decide (AllP Pr l)) := by
 unfold sf155
 rcases um (step := sf155_L1 N l) (l := l) (p := Pr) (N := N) (by omega) (by
   intro j z hz hp
   have := yI hz
   unfold sf155_L1
   rw [decide_eq_true (by omega), cond_true, yf rfl hz, q156, zn, decide_eq_true hp, Bool.not_true, cond_false, zp (by unfold rng; omega)]) (by
   intro j z hz hp
   have := yI hz
   unfold sf155_L1
   rw [decide_eq_true (by omega), cond_true, yf rfl hz, q156, zn, decide_eq_false hp]
   rfl) (by
   unfold sf155_L1
   rw [decide_eq_false (by omega), cond_false]) with ⟨hA, e⟩ | ⟨hA, e⟩
 ·rw [e, zn, decide_eq_true hA]; rfl
 ·rw [e, zn, decide_eq_false hA]; rfl
theorem q157 {N : Nat} {l : List (Int × Int)} (h : l.length ≤ 100) (h2 : 2 ≤ l.length) (hN : 1000 ≤ N) : ∃ b : Bool, sf157 N l = some b ∧ (b = true ↔ OrdT l) := by
 haveI : DecidablePred fun (j : Nat) => ∀ a b, l[j]? = some a → l[j + 1]? = some b → a.1 < b.1 ∧ a.2 < b.2 := fun j => Classical.propDecidable _
 have H := jZ (step := sf157_L1 N l) (x := (1 : Int)) (N := N) (fun j => ((j + 1 : Nat) : Int)) (l.length - 1) (fun (j : Nat) => ∀ a b, l[j]? = some a → l[j + 1]? = some b → a.1 < b.1 ∧ a.2 < b.2) (Sum.inr () : Unit ⊕ Unit) (Sum.inl () : Unit ⊕ Unit) rfl (fun j hj hp => by
   obtain ⟨a, ha⟩ : ∃ a, l[j]? = some a := ⟨_, yc (by omega)⟩
   obtain ⟨b, hb⟩ : ∃ b, l[j + 1]? = some b := ⟨_, yc (by omega)⟩
   have := hp a b ha hb
   unfold sf157_L1 sf158
   rw [decide_eq_true (by omega), cond_true, zp (by unfold rng; omega), yf (n := j) (by omega) ha, yf rfl hb, decide_eq_true this.1, cond_true, decide_eq_true this.2, zn, Bool.not_true, cond_false, zp (by unfold rng; omega)]
   rfl) (fun j hj hp => by
   obtain ⟨a, ha⟩ : ∃ a, l[j]? = some a := ⟨_, yc (by omega)⟩
   obtain ⟨b, hb⟩ : ∃ b, l[j + 1]? = some b := ⟨_, yc (by omega)⟩
   have hp' : ¬ (a.1 < b.1 ∧ a.2 < b.2) := fun q => hp fun a' b' e1 e2 => by
    rw [ha] at e1; rw [hb] at e2; cases e1; cases e2; exact q
   unfold sf157_L1 sf158
   rw [decide_eq_true (by omega), cond_true, zp (by unfold rng; omega), yf (n := j) (by omega) ha, yf rfl hb]
   by_cases c : a.1 < b.1
   ·rw [decide_eq_true c, cond_true, decide_eq_false (by omega), zn]; rfl
   ·rw [decide_eq_false c, cond_false, zn]; rfl) (by
   unfold sf157_L1
   rw [show l.length - 1 + 1 = l.length by omega, decide_eq_false (by omega), cond_false]) (by omega)
 unfold sf157
 rcases H with ⟨h1, e⟩ | ⟨h1, e⟩
 ·refine ⟨true, by rw [e]; rfl, fun _ i a b ha hb => ?_, fun _ => rfl⟩
  have := yI hb
  exact h1 i (by omega) a b ha hb
 ·refine ⟨false, by rw [e]; rfl, fun q => (by cases q), fun q => (h1 fun j hj => q j).elim⟩
theorem q138 {N : Nat} {l : List (Int × Int)} (h : l.length ≤ 8) (hN : 1000 ≤ N) : (TbOk l ∧ sf138 N l = some 0) ∨ (¬ TbOk l ∧ sf138 N l = some 1) := by
 unfold sf138
 rw [decide_eq_false (by omega), cond_false]
 by_cases h2 : l.length < 2
 ·rw [decide_eq_true (by omega), cond_true, zn]
  exact .inr ⟨fun q => by have := q.1; omega, rfl⟩
 ·rw [decide_eq_false (by omega), cond_false, q155 (by omega) hN, zn]
  by_cases hA : AllP Pr l
  ·obtain ⟨b, e, hb⟩ := q157 (N := N) (l := l) (by omega) (by omega) hN
   rw [decide_eq_true hA, Bool.not_true, cond_false, e, zn, zn]
   cases b with
   | true => exact .inl ⟨⟨by omega, hA, hb.1 rfl⟩, rfl⟩
   | false => exact .inr ⟨fun q => (by have := hb.2 q.2.2; cases this), rfl⟩
  ·rw [decide_eq_false hA]
   exact .inr ⟨fun q => hA q.2.1, rfl⟩
theorem q85 {N : Nat} {l : List (Int × Int)} (h : l.length ≤ 100) (hN : 1000 ≤ N) : (TbOk l ∧ sf85 N l = some true) ∨ (¬ TbOk l ∧ sf85 N l = some false) := by
 haveI : DecidablePred fun (j : Nat) => ∀ b, l[j]? = some b → Pr b ∧ (0 < j → ∀ a, l[j - 1]? = some a → a.1 < b.1 ∧ a.2 < b.2) := fun j => Classical.propDecidable _
 have H := jZ (step := sf85_L1 N l) (x := (0 : Int)) (N := N) (fun j => (j : Int)) l.length (fun (j : Nat) => ∀ b, l[j]? = some b → Pr b ∧ (0 < j → ∀ a, l[j - 1]? = some a → a.1 < b.1 ∧ a.2 < b.2)) (Sum.inr () : Unit ⊕ Unit) (Sum.inl () : Unit ⊕ Unit) rfl (fun j hj hp => by
   obtain ⟨b, hb⟩ : ∃ b, l[j]? = some b := ⟨_, yc (by omega)⟩
   obtain ⟨⟨q1, q2⟩, q3⟩ := hp b hb
   unfold sf85_L1
   rw [decide_eq_true (by omega), cond_true, yf rfl hb, q25, zn, decide_eq_true q1, Bool.not_true, cond_false, yf rfl hb, q25, zn, decide_eq_true q2, Bool.not_true, cond_false]
   by_cases c : 0 < j
   ·obtain ⟨a, ha⟩ : ∃ a, l[j - 1]? = some a := ⟨_, yc (by omega)⟩
    have := q3 c a ha
    rw [decide_eq_true (by omega), cond_true, yf rfl hb, zp (by unfold rng; omega), yf (n := j - 1) (by omega) ha, decide_eq_false (by omega), cond_false, yf rfl hb, zp (by unfold rng; omega), yf (n := j - 1) (by omega) ha, decide_eq_false (by omega), zn, cond_false, zp (by unfold rng; omega)]
    rfl
   ·rw [decide_eq_false (by omega), cond_false, zn, cond_false, zp (by unfold rng; omega)]
    rfl) (fun j hj hp => by
   obtain ⟨b, hb⟩ : ∃ b, l[j]? = some b := ⟨_, yc (by omega)⟩
   unfold sf85_L1
   rw [decide_eq_true (by omega), cond_true, yf rfl hb, q25, zn]
   by_cases q1 : 1 ≤ b.1 ∧ b.1 ≤ 2000
   ·rw [decide_eq_true q1, Bool.not_true, cond_false, yf rfl hb, q25, zn]
    by_cases q2 : 1 ≤ b.2 ∧ b.2 ≤ 2000
    ·rw [decide_eq_true q2, Bool.not_true, cond_false]
     by_cases c : 0 < j
     ·obtain ⟨a, ha⟩ : ∃ a, l[j - 1]? = some a := ⟨_, yc (by omega)⟩
      have q3 : ¬ (a.1 < b.1 ∧ a.2 < b.2) := fun q => hp fun b' e => by
       rw [hb] at e; cases e
       exact ⟨⟨q1, q2⟩, fun _ a' e => by rw [ha] at e; cases e; exact q⟩
      rw [decide_eq_true (by omega), cond_true, yf rfl hb, zp (by unfold rng; omega), yf (n := j - 1) (by omega) ha]
      by_cases q4 : b.1 ≤ a.1
      ·rw [decide_eq_true q4, cond_true, zn]; rfl
      ·rw [decide_eq_false q4, cond_false, yf rfl hb, zp (by unfold rng; omega), yf (n := j - 1) (by omega) ha, decide_eq_true (by omega), zn]; rfl
     ·exact (hp fun b' e => by rw [hb] at e; cases e; exact ⟨⟨q1, q2⟩, fun c' => absurd c' c⟩).elim
    ·rw [decide_eq_false q2]; rfl
   ·rw [decide_eq_false q1]; rfl) (by
   unfold sf85_L1
   rw [decide_eq_false (by omega), cond_false]) (by omega)
 unfold sf85
 rcases H with ⟨h1, e⟩ | ⟨h1, e⟩
 ·rw [e, zn, sR]
  have hA : AllP Pr l := fun x hx => by
   obtain ⟨j, hj, rfl⟩ := List.getElem_of_mem hx
   exact (h1 j hj _ (yc hj)).1
  have hO : OrdT l := fun i a b ha hb => by
   have := yI hb
   exact (h1 (i + 1) this b hb).2 (by omega) a ha
  by_cases c : 2 ≤ l.length
  ·rw [decide_eq_true (by omega)]; exact .inl ⟨⟨c, hA, hO⟩, rfl⟩
  ·rw [decide_eq_false (by omega)]; exact .inr ⟨fun q => c q.1, rfl⟩
 ·rw [e, zn, sL]
  refine .inr ⟨fun q => h1 fun j hj b hb => ⟨q.2.1 b (List.mem_of_getElem? hb), fun c a ha => ?_⟩, rfl⟩
  exact q.2.2 (j - 1) a b ha (by rw [show j - 1 + 1 = j by omega]; exact hb)
def seg (x y : Int × Int) (p : Int) : Int := x.2 + Int.tdiv ((y.2 - x.2) * (p - x.1)) (y.1 - x.1)
theorem Xi {x y : Int × Int} {p : Int} (hx : Pr x) (hy : Pr y) (h1 : x.1 < y.1) (h2 : x.2 < y.2) (h3 : x.1 ≤ p) (h4 : p ≤ y.1) : 0 ≤ (y.2 - x.2) * (p - x.1) ∧ (y.2 - x.2) * (p - x.1) ≤ 4000000 ∧ 0 ≤ Int.tdiv ((y.2 - x.2) * (p - x.1)) (y.1 - x.1) ∧ Int.tdiv ((y.2 - x.2) * (p - x.1)) (y.1 - x.1) ≤ y.2 - x.2 := by
 unfold Pr at hx hy
 have a1 : 0 ≤ (y.2 - x.2) * (p - x.1) := Int.mul_nonneg (by omega) (by omega)
 have a2 : (y.2 - x.2) * (p - x.1) ≤ (y.2 - x.2) * (y.1 - x.1) := Int.mul_le_mul_of_nonneg_left (by omega) (by omega)
 have a3 : (y.2 - x.2) * (p - x.1) ≤ 2000 * (p - x.1) := Int.mul_le_mul_of_nonneg_right (by omega) (by omega)
 rw [td a1]
 refine ⟨a1, by omega, Int.ediv_nonneg a1 (by omega), ?_⟩
 exact Int.ediv_le_of_le_mul (by omega) a2
theorem q160 {N : Nat} {a b : Int} (h : 0 ≤ a) (hb : 0 < b) (h2 : a ≤ 4000000) : sf160 N a b = some (Int.tdiv a b) := by
 unfold sf160
 have t := tm h hb
 have e : Int.tdiv a b = a / b := td h
 have b1 : 0 ≤ a / b := Int.ediv_nonneg h (by omega)
 have b2 : a / b ≤ a := Int.ediv_le_self _ h
 rw [zp (by rw [e]; unfold rng; omega), zp (by omega), decide_eq_false (by omega), cond_false]
def At (l : List (Int × Int)) (p : Int) (k : Nat) (x y : Int × Int) : Prop := l[k]? = some x ∧ l[k + 1]? = some y ∧ x.1 ≤ p ∧ p ≤ y.1 ∧ ∀ i z, i < k → l[i + 1]? = some z → z.1 < p
theorem at_ex {l : List (Int × Int)} {p : Int} (hl : TbOk l) {a b : Int × Int} (ha : l[0]? = some a) (hb : l[l.length - 1]? = some b) (h1 : a.1 ≤ p) (h2 : p ≤ b.1) : ∃ k x y, At l p k x y := by
 have h2l := hl.1
 have : ∃ k, k + 1 < l.length ∧ ∀ z, l[k + 1]? = some z → p ≤ z.1 := ⟨l.length - 2, by omega, fun z hz => by
  rw [show l.length - 2 + 1 = l.length - 1 by omega, hb] at hz; cases hz; exact h2⟩
 obtain ⟨k, hk, hmin⟩ : ∃ k, (k + 1 < l.length ∧ ∀ z, l[k + 1]? = some z → p ≤ z.1) ∧ ∀ i, i < k → ¬ (i + 1 < l.length ∧ ∀ z, l[i + 1]? = some z → p ≤ z.1) := by
  obtain ⟨k, hk⟩ := this
  induction k using Nat.strongRecOn with
  | ind k ih =>
   by_cases g : ∃ i, i < k ∧ (i + 1 < l.length ∧ ∀ z, l[i + 1]? = some z → p ≤ z.1)
   ·obtain ⟨i, hi, hi2⟩ := g
    exact ih i hi hi2
   ·exact ⟨k, hk, fun i hi q => g ⟨i, hi, q⟩⟩
 obtain ⟨x, hx⟩ : ∃ x, l[k]? = some x := ⟨_, yc (by omega)⟩
 obtain ⟨y, hy⟩ : ∃ y, l[k + 1]? = some y := ⟨_, yc (by omega)⟩
 refine ⟨k, x, y, hx, hy, ?_, hk.2 y hy, fun i z hi hz => ?_⟩
 ·cases k with
  | zero => rw [ha] at hx; cases hx; exact h1
  | succ k =>
   refine Int.le_of_lt (Int.not_le.1 fun q => hmin k (by omega) ⟨by omega, fun z hz => ?_⟩)
   rw [hx] at hz; cases hz; exact q
 ·exact Int.not_le.1 fun q => hmin i hi ⟨yI hz, fun z' hz' => by rw [hz] at hz'; cases hz'; exact q⟩
theorem q73 {N : Nat} {l : List (Int × Int)} {p : Int} {k : Nat} {x y : Int × Int} (hl : TbOk l) (h8 : l.length ≤ 100) (h : At l p k x y) (hN : 1000 ≤ N) : sf73 N l p = some (seg x y p) := by
 obtain ⟨hx, hy, h1, h2, h3⟩ := h
 have hk := yI hy
 have px := hl.2.1 x (List.mem_of_getElem? hx)
 have py := hl.2.1 y (List.mem_of_getElem? hy)
 have o := hl.2.2 k x y hx hy
 have sb := Xi px py o.1 o.2 h1 h2
 have e : iter (sf73_L1 l p) N (0 : Int) = some (k : Int) := by
  refine yD (fun j => (j : Int)) k _ rfl (fun j hj => ?_) ?_ (by omega)
  ·obtain ⟨z, hz⟩ : ∃ z, l[j + 1]? = some z := ⟨_, yc (by omega)⟩
   unfold sf73_L1
   rw [zp (by unfold rng; omega), yf (j := (j : Int) + 1) (n := j + 1) (by omega) hz, decide_eq_true (h3 j z hj hz), cond_true, zp (by unfold rng; omega)]
   rfl
  ·unfold sf73_L1
   rw [zp (by unfold rng; omega), yf (j := (k : Int) + 1) (n := k + 1) (by omega) hy, decide_eq_false (by omega), cond_false]
 unfold sf73
 unfold Pr at px py
 rw [e, zn, yf rfl hx, zp (by unfold rng; omega), yf (j := (k : Int) + 1) (n := k + 1) (by omega) hy, zp (by unfold rng; omega), zp (by unfold rng; omega), zp (by unfold rng; omega), zp (by unfold rng; omega), zp (by unfold rng; omega), zp (by unfold rng; omega)]
 rfl
theorem tb_lt {l : List (Int × Int)} (hl : TbOk l) {i : Nat} {a : Int × Int} (ha : l[i]? = some a) : ∀ (d : Nat) (b : Int × Int), l[i + d + 1]? = some b → a.1 < b.1 ∧ a.2 < b.2
 | 0, b, hb => hl.2.2 i a b ha hb
 | d + 1, b, hb => by
  have := yI hb
  obtain ⟨c, hc⟩ : ∃ c, l[i + d + 1]? = some c := ⟨_, yc (by omega)⟩
  have q1 := tb_lt hl ha d c hc
  have q2 := hl.2.2 (i + d + 1) c b hc (by rw [show i + d + 1 + 1 = i + (d + 1) + 1 by omega]; exact hb)
  omega
theorem seg_end {x y : Int × Int} (h : x.1 < y.1) : seg x y y.1 = y.2 := by
 unfold seg
 rw [Int.mul_tdiv_cancel _ (by omega)]; omega
theorem Y5 {x y : Int × Int} : seg x y x.1 = x.2 := by
 unfold seg
 rw [Int.sub_self, Int.mul_zero, Int.zero_tdiv]; omega
theorem q140 {N : Nat} {l : List (Int × Int)} {a b : Int × Int} (h : l.length ≤ 100) (ha : l[0]? = some a) (hb : l[l.length - 1]? = some b) : sf140 N l = some (a.1, b.1) := by
 have := yI ha
 unfold sf140
 rw [ix_0 ha, zp (by unfold rng; omega), yf (n := l.length - 1) (by omega) hb]
theorem q141 {N : Nat} {l : List (Int × Int)} {p : Int} {k : Nat} {x y : Int × Int} (hl : TbOk l) (h8 : l.length ≤ 100) (h : At l p k x y) (hN : 1000 ≤ N) : sf141 N l p = some (seg x y p) := by
 obtain ⟨hx, hy, h1, h2, h3⟩ := h
 have hk := yI hy
 have px := hl.2.1 x (List.mem_of_getElem? hx)
 have py := hl.2.1 y (List.mem_of_getElem? hy)
 have o := hl.2.2 k x y hx hy
 have hp : 1 ≤ p ∧ p ≤ 2000 := by unfold Pr at px py; omega
 have e : iter (sf141_L1 N l p) N ((1 : Int), (0 : Int)) = some (seg x y p) := by
  refine yD (fun j => (((j + 1 : Nat) : Int), if j ≤ k then (0 : Int) else seg x y p)) (l.length - 1) _ (by simp) (fun j hj => ?_) ?_ (by omega)
  ·obtain ⟨a, ha⟩ : ∃ a, l[j]? = some a := ⟨_, yc (by omega)⟩
   obtain ⟨b, hb⟩ : ∃ b, l[j + 1]? = some b := ⟨_, yc (by omega)⟩
   have pa := hl.2.1 a (List.mem_of_getElem? ha)
   have pb := hl.2.1 b (List.mem_of_getElem? hb)
   have ob := hl.2.2 j a b ha hb
   have e2 : (l.drop (Int.toNat (((j + 1 : Nat) : Int) - 1))).take ((Int.toNat (((j + 1 : Nat) : Int) + 1)) - (Int.toNat (((j + 1 : Nat) : Int) - 1))) = [a, b] := by
    rw [show Int.toNat (((j + 1 : Nat) : Int) - 1) = j by omega, show Int.toNat (((j + 1 : Nat) : Int) + 1) - j = 2 by omega]
    apply List.ext_getElem?
    intro i
    rw [List.getElem?_take]
    by_cases c : i < 2
    ·rw [if_pos c, List.getElem?_drop]
     rcases show i = 0 ∨ i = 1 by omega with rfl | rfl
     ·exact ha
     ·exact hb
    ·rw [if_neg c, List.getElem?_eq_none (by simp; omega)]
   have e3 : sf140 N [a, b] = some (a.1, b.1) := q140 (by simp) rfl rfl
   unfold sf141_L1
   dsimp only
   rw [decide_eq_true (by omega), cond_true, zp (by unfold rng; omega), zp (by unfold rng; omega), zp (by omega), e2, e3, zn, q144, zn]
   dsimp only
   by_cases c : a.1 ≤ p ∧ p ≤ b.1
   ·have sb := Xi pa pb ob.1 ob.2 c.1 c.2
    have hv : seg a b p = seg x y p := by
     rcases Nat.lt_trichotomy j k with q | q | q
     ·have := h3 j b q hb; omega
     ·subst q
      rw [hx] at ha; cases ha
      rw [hy] at hb; cases hb
      rfl
     ·rcases Nat.lt_or_ge j (k + 2) with q2 | q2
      ·obtain rfl : j = k + 1 := by omega
       rw [hy] at ha; cases ha
       have : p = y.1 := by omega
       rw [this, Y5, seg_end o.1]
      ·have := tb_lt hl hy (j - k - 2) a (by rw [show k + 1 + (j - k - 2) + 1 = j by omega]; exact ha)
       omega
    have hjk : k ≤ j := by
     rcases Nat.lt_or_ge j k with q | q
     ·have := h3 j b q hb; omega
     ·exact q
    unfold Pr at pa pb
    rw [decide_eq_true c, cond_true, zp (by unfold rng; omega), yf (n := j) (by omega) ha, yf rfl hb, zp (by unfold rng; omega), zp (by unfold rng; omega), zp (by unfold rng; omega), zp (by unfold rng; omega), q160 sb.1 (by omega) sb.2.1, zn, zp (by unfold rng; omega), zp (by unfold rng; omega)]
    rw [if_neg (by omega)]
    show some (Sum.inl (_, seg a b p)) = _
    rw [hv]
    rfl
   ·rw [decide_eq_false c, cond_false, zp (by unfold rng; omega)]
    have hne : j ≠ k := fun q => by
     subst q
     rw [hx] at ha; cases ha
     rw [hy] at hb; cases hb
     exact c ⟨h1, h2⟩
    have e5 : (if j + 1 ≤ k then (0 : Int) else seg x y p) = if j ≤ k then (0 : Int) else seg x y p := by
     by_cases q : j ≤ k
     ·rw [if_pos q, if_pos (by omega)]
     ·rw [if_neg q, if_neg (by omega)]
    rw [e5]
    rfl
  ·unfold sf141_L1
   dsimp only
   rw [show l.length - 1 + 1 = l.length by omega, decide_eq_false (by omega), cond_false, if_neg (by omega)]
 unfold sf141
 rw [e, zn]
end Go.Hx.V

