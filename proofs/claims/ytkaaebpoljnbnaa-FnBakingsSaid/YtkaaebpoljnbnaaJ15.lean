/- Chapter 15: BestBake. -/
import Derived.Test.YtkaaebpoljnbnaaG15
import Derived.Test.YtkaaebpoljnbnaaGi
import Derived.Test.YtkaaebpoljnbnaaIntI
namespace Go.Proofs.Ytkaaebpoljnbnaa
open Go.ChangeShapes Go.WideShapes Go.ChangeAt Go.RowKit
set_option linter.unusedVariables false
set_option linter.unusedSimpArgs false

def bF (n : Nat) (xs : List OddsR) (g d : Int) (k : Nat) : Int := gainS n xs (k : Int) g d
def bestBV (n : Nat) (xs : List OddsR) (g d : Int) : Int := if planB n xs g d then (amax (bF n xs g d) 1001 : Nat) else -1
theorem plan_ok {n : Nat} {xs : List OddsR} {g d : Int} (h : planB n xs g d = true) (b : Int) (hb : 0 ≤ b ∧ b ≤ 1000) : ok15 n xs b g d = true := by
  simp only [planB, ok15, Bool.and_eq_true] at h ⊢
  exact ⟨⟨⟨h.1.1, inB_t hb⟩, h.1.2⟩, h.2⟩
theorem plan_0 (n : Nat) (xs : List OddsR) (g d : Int) : ok15 n xs 0 g d = planB n xs g d := by simp [planB, ok15, inB_t (show (0 : Int) ≤ 0 ∧ (0 : Int) ≤ 1000 by omega)]
theorem gain_F {n : Nat} {xs : List OddsR} {g d : Int} (h : planB n xs g d = true) (k : Nat) (hk : (k : Int) ≤ 1000) : gainV n xs (k : Int) g d = bF n xs g d k := by
  rw [gainV, plan_ok h k ⟨by omega, hk⟩]; rfl
set_option maxRecDepth 100000 in
set_option maxHeartbeats 4000000 in
theorem ibest (A : Option Addr) (n c : Nat) (xs : List OddsR) (g d : Int) (p1 p2 p3 : Nat) (w : World) (hB : planB n xs g d = true) (hx : ReadsOdds w A n xs)
    (k1 : w.cell? ⟨p1, 0, none⟩ = some (.slice A n c)) (k2 : w.cell? ⟨p2, 0, none⟩ = some (.int .i64 g)) (k3 : w.cell? ⟨p3, 0, none⟩ = some (.int .i64 d)) :
    Calls Try.prog 55 #[.agg #[.func (Fn.func 64) #[] #[.pointer (some ⟨p1, 0, none⟩), .pointer (some ⟨p2, 0, none⟩), .pointer (some ⟨p3, 0, none⟩)]]] w (Val (i64 ((amax (bF n xs g d) 1001 : Nat) : Int)) w) := by
  obtain ⟨i0, hi0, hz0, hz1, hz2⟩ := info_parts infoI
  have HC := Lib.hid (fun (b : Int) (W : World) (hW : In w.heap.size w W) (hb : 0 ≤ b ∧ b ≤ 1000) => iplan A n c xs b g d p1 p2 p3 W (plan_ok hB b hb) (hx.in_ hW) (cell_in k1 hW) (cell_in k2 hW) (cell_in k3 hW))
  have q0 : Blk (w.alloc (.cells #[.func (Fn.func 64) #[] #[.pointer (some ⟨p1, 0, none⟩), .pointer (some ⟨p2, 0, none⟩), .pointer (some ⟨p3, 0, none⟩)]] 63)) w.heap.size 63 #[.func (Fn.func 64) #[] #[.pointer (some ⟨p1, 0, none⟩), .pointer (some ⟨p2, 0, none⟩), .pointer (some ⟨p3, 0, none⟩)]] := Blk.new w _ _
  generalize hW0 : w.alloc (.cells #[.func (Fn.func 64) #[] #[.pointer (some ⟨p1, 0, none⟩), .pointer (some ⟨p2, 0, none⟩), .pointer (some ⟨p3, 0, none⟩)]] 63) = w0 at q0
  have i0' : In w.heap.size w w0 := by rw [← hW0]; (repeat (first | exact In.refl _ | assumption | apply In.alloc | apply In.drewN | apply In.drew | (refine In.step ?_ (by assumption))))
  have hl0 := q0.lt
  clear k1 k2 k3
  go_enter Try.func55, Try.ntmps55
  go_wp2_with (at_make; refine wpList_make_full _ rfl (.const (.int .i64 1001)) (.const (.int .i64 1001)) 32 rfl w0.heap.size 3 i0 (.int .i64 0) 1 Try.underlying32 hi0 hz0 hz1 .i64 .i64 (1001 : Int) (1001 : Int) 1001 rfl rfl rfl rfl ?h2 ?h3 ?h4 ?_)
  case h2 => rw [hz2]; decide
  case h3 => unfold maxLen; omega
  case h4 => exact Nat.le_refl _
  intro w1 hown0 hgrow0
  have hb0 : Below w0.heap.size w0 w1 := (Below.refl _ _).grown hgrow0 (Nat.le_refl _) (fun j hj => by cases hj)
  clear hgrow0
  have q1 := Blk.step q0 hb0
  have hown1 : w1.ownsRow w0.heap.size 3 1 (.slice (some ⟨w0.heap.size, 0, none⟩) 1001 1001) 1001 (iv (List.replicate 1001 0)) := by
    rw [toList_madeCells_one, iv_zeros] at hown0; exact hown0
  clear hown0
  generalize hN : (1001 : Nat) = N at hown1 ⊢
  have HN := Lib.hid hN
  have hN1 : (N : Int) ≤ 1001 := by omega
  have hN0 : N ≠ 0 := by omega
  clear hN
  go_wp2
  go_loopw [8] (fun i wr => ∃ (k : Nat) (l : List Int), k ≤ N ∧ i = .int .i64 k ∧ l.length = N ∧ wr.ownsRow w0.heap.size 3 1 (.slice (some ⟨w0.heap.size, 0, none⟩) N N) N (iv l) ∧ (∀ t, t < k → l.getD t 0 = bF n xs g d t) ∧ Below w0.heap.size w0 wr) (fun i _ => N - (intOf i).toNat)
  case atStart => exact ⟨0, _, Nat.zero_le _, rfl, by simp, hown1, fun t ht => absurd ht (Nat.not_lt_zero _), hb0⟩
  case round =>
    clear hown1 hb0 q1
    obtain ⟨k, l, hk, rfl, hl, hown, hs, hb⟩ := hrel
    have HL := Lib.hid hl
    have HS := Lib.hid hs
    clear hl hs
    have iwr : In w.heap.size w wr := i0'.wide (hb.mono i0'.size)
    by_cases hlt : k < N
    · have q2 := q0.below hb hl0
      have c2 : wr.cell? ⟨w.heap.size, 0, none⟩ = some (.func (Fn.func 64) #[] #[.pointer (some ⟨p1, 0, none⟩), .pointer (some ⟨p2, 0, none⟩), .pointer (some ⟨p3, 0, none⟩)]) := q2.cell 0
      have hbF : Hid (gainS n xs (k : Int) g d = bF n xs g d k) := Lib.hid rfl
      clear q2
      go_wp2_with fail
      refine (HC.out (k : Int) _ iwr ⟨by omega, by omega⟩).mono ?_
      rintro _ w2 ⟨rfl, hb2⟩
      rw [hbF.out]
      have hown2 := own_step hown hb2
      have hb3 : Below w0.heap.size w0 w2 := hb.trans (hb2.mono hb.size)
      clear hown c2 hb2 iwr hb
      obtain ⟨y, hy⟩ : ∃ y, bF n xs g d k = y := ⟨_, rfl⟩
      have HY := Lib.hid hy
      rw [hy]
      clear hy hbF
      have hc := hown2.cellAt k (by omega)
      rw [iv_at l k (by have := HL.out; omega)] at hc
      have hf := hown2.frozenAt k
      have hst := (hown2.stored k (.int .i64 y)).1
      rw [← iv_set] at hst
      have hb4 : Below w0.heap.size w0 (w2.setCell ⟨w0.heap.size, k, none⟩ (.int .i64 y)) := hb3.setCell (Nat.le_refl _) _
      generalize l.getD k 0 = y0 at hc
      clear hown2
      go_wp2
      have HCC := Lib.hid hc
      clear hc hf
      go_roundw
      case rel => exact ⟨k + 1, l.set k y, by omega, by go_num, by have := HL.out; simp; omega, hst, fun t ht => by
          by_cases e : t = k
          · subst e; have := HL.out; rw [HY.out]; simp [show t < l.length from by omega]
          · have := HS.out t (by omega); rw [← this]; simp [show ¬ k = t from fun h => e h.symm], hb4⟩
      case measure => simp [intOf]; omega
    · obtain rfl : k = N := by omega
      have HG : Hid (gidx l k = (amax (bF n xs g d) k : Nat)) := Lib.hid (by rw [gidx, if_neg hN0, amax_congr (gF l) (bF n xs g d) k fun i hi => HS.out i hi])
      go_wp2_with fail
      refine (iGreatest _ k k l _ (by unfold maxLen; omega) (reads_own_i hown)).mono ?_
      rintro _ w2 ⟨rfl, hb2⟩
      rw [HG.out]
      go_wp2
      go_ret
      exact Val.mk' (by rw [HN.out]; rfl) (by (repeat (first | exact In.refl _ | assumption | apply In.alloc | apply In.drewN | apply In.drew | (refine In.step ?_ (by assumption)))))
set_option maxHeartbeats 1000000 in
theorem iBestBake (A : Option Addr) (n c : Nat) (xs : List OddsR) (g d : Int) (w : World) (hn : n ≤ maxLen) (hx : ReadsOdds w A n xs) : Calls Try.prog 25 #[.slice A n c, .int .i64 g, .int .i64 d] w (Val (i64 (bestBV n xs g d)) w) := by
  cases hB : planB n xs g d
  · have HV : Hid (bestBV n xs g d = -1) := Lib.hid (by rw [bestBV, hB]; rfl)
    go_enter Try.func25, Try.ntmps25
    go_wp2_with fail
    refine (icanPlan A n c xs g d _ hn hx).mono ?_
    rintro _ w1 ⟨rfl, hb1⟩
    rw [hB]
    go_wp2
    go_ret
    exact Val.mk' (v_int HV.out.symm) (by (repeat (first | exact In.refl _ | assumption | apply In.alloc | apply In.drewN | apply In.drew | (refine In.step ?_ (by assumption)))))
  have HV : Hid (bestBV n xs g d = (amax (bF n xs g d) 1001 : Nat)) := Lib.hid (by rw [bestBV, hB]; rfl)
  generalize hN : ((amax (bF n xs g d) 1001 : Nat) : Int) = N at HV
  go_enter Try.func25, Try.ntmps25
  go_wp2_with fail
  refine (icanPlan A n c xs g d _ hn hx).mono ?_
  rintro _ w1 ⟨rfl, hb1⟩
  have i1 : In w.heap.size w w1 := In.step (by (repeat (first | exact In.refl _ | assumption | apply In.alloc | apply In.drewN | apply In.drew | (refine In.step ?_ (by assumption))))) hb1
  clear hb1
  rw [hB]
  go_wp2_with fail
  refine (iplanFor A n c g d _).mono ?_
  rintro e w2 ⟨rfl, hb2, c1, c2, c3⟩
  have i2 : In w.heap.size w w2 := In.step (by (repeat (first | exact In.refl _ | assumption | apply In.alloc | apply In.drewN | apply In.drew | (refine In.step ?_ (by assumption))))) hb2
  clear hb2 i1
  go_wp2_with fail
  refine (ibest A n c xs g d _ _ _ _ hB (hx.in_ i2) c1 c2 c3).mono ?_
  rintro e w3 ⟨rfl, hb3⟩
  rw [hN]
  go_wp2
  go_ret
  exact Val.mk' (v_int HV.out.symm) (by (repeat (first | exact In.refl _ | assumption | apply In.alloc | apply In.drewN | apply In.drew | (refine In.step ?_ (by assumption)))))
end Go.Proofs.Ytkaaebpoljnbnaa
