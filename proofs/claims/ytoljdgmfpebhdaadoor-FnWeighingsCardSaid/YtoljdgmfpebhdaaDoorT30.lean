/- Chapter 30: MissingPart, TwiceIn. -/
import Derived.Test.YtoljdgmfpebhdaaDoorAs30
import Derived.Test.YtoljdgmfpebhdaaDoorE30
import Derived.Test.YtoljdgmfpebhdaaDoorW02
import Derived.Test.YtoljdgmfpebhdaaDoorQuietL
namespace Go.Proofs.YtoljdgmfpebhdaaDoor
open Go.ChangeShapes Go.WideShapes Go.ChangeAt Go.RowKit
set_option linter.unusedVariables false
set_option linter.unusedSimpArgs false
set_option maxHeartbeats 2000000

def tl4 (x y z off : Int) : Int := if off = 0 then 0 else if x = off then 1 else if y = off then 2 else if z = off then 3 else 4
theorem tl4_in (x y z off : Int) : 0 ≤ tl4 x y z off ∧ tl4 x y z off ≤ 4 := by unfold tl4; split <;> (try split) <;> (try split) <;> (try split) <;> omega
def tpV (x y z off : Int) : Value := if tl4 x y z off = 4 then .tuple #[.int .i64 0, .iface 61 (.agg #[.int .i64 off])] else .tuple #[.int .i64 (tl4 x y z off), .nilIface]
set_option maxHeartbeats 2000000 in
theorem itellPart (g : Nat) (f x y z off : Int) (w : World) (c0 : w.cell? ⟨g, 0, none⟩ = some (.int .i64 f)) (c1 : w.cell? ⟨g, 1, none⟩ = some (.int .i64 x)) (c2 : w.cell? ⟨g, 2, none⟩ = some (.int .i64 y)) (c3 : w.cell? ⟨g, 3, none⟩ = some (.int .i64 z)) :
    Calls Tryd.prog 55 #[.slice (some ⟨g, 0, none⟩) 4 4, .int .i64 off] w (Same (tpV x y z off) w) := by
  by_cases h0 : off = 0
  · have HV := Lib.hid (show tpV x y z off = .tuple #[.int .i64 0, .nilIface] by unfold tpV tl4; rw [if_pos h0]; rfl)
    subst h0
    clear c0 c1 c2 c3
    go_enter Tryd.func55, Tryd.ntmps55
    go_wp2
    go_ret2
    exact ⟨by rw [HV.out]; rfl, rfl⟩
  go_enter Tryd.func55, Tryd.ntmps55
  go_wp2
  refine wp_loop_rounds 5 ?_
  rw [rounds_succ]
  go_wp2
  rw [rounds_succ]
  by_cases h1 : x = off
  · have HV := Lib.hid (show tpV x y z off = .tuple #[.int .i64 1, .nilIface] by unfold tpV tl4; rw [if_neg h0, if_pos h1]; rfl)
    subst h1
    go_wp2
    go_ret2
    exact ⟨by rw [HV.out]; rfl, rfl⟩
  go_wp2
  rw [rounds_succ]
  by_cases h2 : y = off
  · have HV := Lib.hid (show tpV x y z off = .tuple #[.int .i64 2, .nilIface] by unfold tpV tl4; rw [if_neg h0, if_neg h1, if_pos h2]; rfl)
    subst h2
    go_wp2
    go_ret2
    exact ⟨by rw [HV.out]; rfl, rfl⟩
  go_wp2
  rw [rounds_succ]
  by_cases h3 : z = off
  · have HV := Lib.hid (show tpV x y z off = .tuple #[.int .i64 3, .nilIface] by unfold tpV tl4; rw [if_neg h0, if_neg h1, if_neg h2, if_pos h3]; rfl)
    subst h3
    go_wp2
    go_ret2
    exact ⟨by rw [HV.out]; rfl, rfl⟩
  have HV := Lib.hid (show tpV x y z off = .tuple #[.int .i64 0, .iface 61 (.agg #[.int .i64 off])] by unfold tpV tl4; rw [if_neg h0, if_neg h1, if_neg h2, if_neg h3]; rfl)
  go_wp2
  rw [rounds_succ]
  go_wp2
  go_ret2
  exact ⟨by rw [HV.out]; rfl, rfl⟩
theorem amounts_c {a b c f : Int} (W : World) :
    Calls Tryd.prog 56 #[.agg #[.int .i64 a, .int .i64 b, .int .i64 c], .int .i64 f] W (fun e w' => ∃ g, e = .returned (.slice (some ⟨g, 0, none⟩) 4 4) ∧ Below W.heap.size W w' ∧ w'.cell? ⟨g, 0, none⟩ = some (.int .i64 f) ∧ w'.cell? ⟨g, 1, none⟩ = some (.int .i64 (partV f a)) ∧ w'.cell? ⟨g, 2, none⟩ = some (.int .i64 (partV f b)) ∧ w'.cell? ⟨g, 3, none⟩ = some (.int .i64 (partV f c))) := by
  refine (iamounts a b c f W).mono ?_
  rintro e w' ⟨g, rfl, ho, hb⟩
  have R := cellsR4 ho
  exact ⟨g, rfl, hb, R.1, R.2.1, R.2.2.1, R.2.2.2⟩
set_option maxHeartbeats 4000000 in
theorem ianswerFor (a b c f off : Int) (w : World) (hg : HasErrT w) :
    Calls Tryd.prog 40 #[.agg #[.int .i64 a, .int .i64 b, .int .i64 c], .int .i64 f, .int .i64 off] w (Val (i64 (tl4 (partV f a) (partV f b) (partV f c) off)) w) := by
  have HG := Lib.hid hg
  clear hg
  have hv : tpV (partV f a) (partV f b) (partV f c) off = if tl4 (partV f a) (partV f b) (partV f c) off = 4 then .tuple #[.int .i64 0, .iface 61 (.agg #[.int .i64 off])] else .tuple #[.int .i64 (tl4 (partV f a) (partV f b) (partV f c) off), .nilIface] := rfl
  have HAM := Lib.hid (fun W => amounts_c (a := a) (b := b) (c := c) (f := f) W)
  generalize partV f a = x at *
  generalize partV f b = y at *
  generalize partV f c = z at *
  have HTP := Lib.hid (fun g W c0 c1 c2 c3 => itellPart g f x y z off W c0 c1 c2 c3)
  generalize tpV x y z off = T at hv HTP
  generalize tl4 x y z off = t at hv ⊢
  have i0 : In w.heap.size w (w.alloc (.cells #[.int .i64 a, .int .i64 b, .int .i64 c] 34)) := (In.refl w).alloc _
  by_cases ht : t = 4
  · rw [if_pos ht] at hv
    subst hv
    subst ht
    go_enter Tryd.func40, Tryd.ntmps40
    go_wp2_with fail
    refine (HAM.out _).mono ?_
    rintro _ w1 ⟨g, rfl, hb1, c0, c1, c2, c3⟩
    have i1 := i0.step hb1
    clear hb1 i0
    go_wp2_with fail
    refine (HTP.out g _ c0 c1 c2 c3).mono ?_
    rintro _ w2 ⟨rfl, rfl⟩
    clear c0 c1 c2 c3
    go_wp2_with fail
    refine (as_hit off w1.heap.size (.int .i64 0) _ (HG.out.in_ (i1.alloc _)) ((Blk.new w1 _ _).cell 0) ((Blk.new w1 _ _).frozen 0)).mono ?_
    rintro _ w3 ⟨rfl, rfl⟩
    go_wp2
    go_ret
    exact Val.mk' rfl (by (repeat (first | exact In.refl _ | assumption | apply In.alloc | apply In.drewN | apply In.drew | (refine In.step ?_ (by assumption)))))
  · rw [if_neg ht] at hv
    subst hv
    go_enter Tryd.func40, Tryd.ntmps40
    go_wp2_with fail
    refine (HAM.out _).mono ?_
    rintro _ w1 ⟨g, rfl, hb1, c0, c1, c2, c3⟩
    have i1 := i0.step hb1
    clear hb1 i0
    go_wp2_with fail
    refine (HTP.out g _ c0 c1 c2 c3).mono ?_
    rintro _ w2 ⟨rfl, rfl⟩
    clear c0 c1 c2 c3
    go_wp2_with fail
    refine (as_nil _ _).mono ?_
    rintro _ w3 ⟨rfl, rfl⟩
    go_wp2
    go_ret
    exact Val.mk' rfl (i1.alloc _)
end Go.Proofs.YtoljdgmfpebhdaaDoor
