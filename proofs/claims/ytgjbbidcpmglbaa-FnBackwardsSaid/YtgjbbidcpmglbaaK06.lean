/- Chapter 6: WorkClash. -/
import Derived.Test.YtgjbbidcpmglbaaT06
namespace Go.Proofs.Ytgjbbidcpmglbaa
open Go.ChangeShapes Go.WideShapes Go.ChangeAt Go.RowKit
set_option linter.unusedVariables false
set_option linter.unusedSimpArgs false

def ovl (p q x y : Int) : Int := max 0 (min (p + x) (q + y) - max p q)
theorem ovl_in (p q x y : Int) (hx : 1 ≤ x ∧ x ≤ 300) (hy : 1 ≤ y ∧ y ≤ 300) : 0 ≤ ovl p q x y ∧ ovl p q x y ≤ 300 := by unfold ovl; omega
def ovG (n : Nat) (xs : List StepR) (ra : Int) (m : Nat) (ys : List StepR) (rb : Int) (i k : Nat) : Int := ovl (stV n xs ra i) (stV m ys rb k) (xs.getD i ⟨0, 0⟩).f0 (ys.getD k ⟨0, 0⟩).f0
def clI (n : Nat) (xs : List StepR) (ra : Int) (m : Nat) (ys : List StepR) (rb : Int) (i : Nat) : Int := sumTo (ovG n xs ra m ys rb i) m
def clashV (n : Nat) (xs : List StepR) (m : Nat) (ys : List StepR) (ra rb : Int) : Int := if okB n xs ra && okB m ys rb then sumTo (clI n xs ra m ys rb) n else -1
theorem stV_in {n : Nat} {xs : List StepR} {r : Int} (h : okB n xs r = true) (k : Nat) (hk : k ≤ n) : -20000 ≤ stV n xs r k ∧ stV n xs r k ≤ 20000 := by
  obtain ⟨_, r1, r2, h12, hs, _⟩ := ok_at h
  have h1 := sumTo_bd (stG xs) 1300 n hs
  have h2 := sumTo_bd (stG xs) 1300 k fun i hi => hs i (by omega)
  unfold stV; omega
theorem f0_in {n : Nat} {xs : List StepR} {r : Int} (h : okB n xs r = true) (k : Nat) (hk : k < n) : 1 ≤ (xs.getD k ⟨0, 0⟩).f0 ∧ (xs.getD k ⟨0, 0⟩).f0 ≤ 300 := by
  have := (steps_at (ok_at h).1).2 k hk
  omega
set_option maxHeartbeats 4000000 in
theorem iWorkClash (A : Option Addr) (n c : Nat) (xs : List StepR) (B : Option Addr) (m d : Nat) (ys : List StepR) (ra rb : Int) (w : World) (hn : n ≤ maxLen) (hx : ReadsStep w A n xs) (hm : m ≤ maxLen) (hy : ReadsStep w B m ys) :
    Calls Try.prog 23 #[.slice A n c, .slice B m d, .int .i64 ra, .int .i64 rb] w (Val (i64 (clashV n xs m ys ra rb)) w) := by
  cases h1 : okB n xs ra
  · have HV : Hid (clashV n xs m ys ra rb = -1) := Lib.hid (by simp [clashV, h1])
    go_enter Try.func23, Try.ntmps23
    go_wp2_with fail
    refine (icanStart A n c xs ra _ hn (by exact hx.in_ (by (repeat (first | exact In.refl _ | assumption | apply In.alloc | apply In.drewN | apply In.drew | (refine In.step ?_ (by assumption))))))).mono ?_
    rintro _ w1 ⟨rfl, hb1⟩
    rw [h1]
    go_wp2
    go_ret
    exact Val.mk' (v_int HV.out.symm) (by (repeat (first | exact In.refl _ | assumption | apply In.alloc | apply In.drewN | apply In.drew | (refine In.step ?_ (by assumption)))))
  cases h2 : okB m ys rb
  · have HV : Hid (clashV n xs m ys ra rb = -1) := Lib.hid (by simp [clashV, h2])
    go_enter Try.func23, Try.ntmps23
    go_wp2_with fail
    refine (icanStart A n c xs ra _ hn (by exact hx.in_ (by (repeat (first | exact In.refl _ | assumption | apply In.alloc | apply In.drewN | apply In.drew | (refine In.step ?_ (by assumption))))))).mono ?_
    rintro _ w1 ⟨rfl, hb1⟩
    rw [h1]
    have i1 : In w.heap.size w w1 := In.step (by (repeat (first | exact In.refl _ | assumption | apply In.alloc | apply In.drewN | apply In.drew | (refine In.step ?_ (by assumption))))) hb1
    clear hb1
    go_wp2_with fail
    refine (icanStart B m d ys rb _ hm (by exact hy.in_ (by (repeat (first | exact In.refl _ | assumption | apply In.alloc | apply In.drewN | apply In.drew | (refine In.step ?_ (by assumption))))))).mono ?_
    rintro _ w2 ⟨rfl, hb2⟩
    rw [h2]
    go_wp2
    go_ret
    exact Val.mk' (v_int HV.out.symm) (by (repeat (first | exact In.refl _ | assumption | apply In.alloc | apply In.drewN | apply In.drew | (refine In.step ?_ (by assumption)))))
  have HV : Hid (clashV n xs m ys ra rb = sumTo (clI n xs ra m ys rb) n) := Lib.hid (by simp [clashV, h1, h2])
  have HX : Hid (StartL n xs ra = stL n xs ra n) := Lib.hid (by simp [StartL, h1])
  have HY : Hid (StartL m ys rb = stL m ys rb m) := Lib.hid (by simp [StartL, h2])
  have HSX := Lib.hid (fun k hk => stV_in h1 k hk)
  have HSY := Lib.hid (fun k hk => stV_in h2 k hk)
  have HFX := Lib.hid (fun k hk => f0_in h1 k hk)
  have HFY := Lib.hid (fun k hk => f0_in h2 k hk)
  have n12 := (ok_at h1).2.2.2.1
  have m12 := (ok_at h2).2.2.2.1
  go_enter Try.func23, Try.ntmps23
  go_wp2_with fail
  refine (icanStart A n c xs ra _ hn (by exact hx.in_ (by (repeat (first | exact In.refl _ | assumption | apply In.alloc | apply In.drewN | apply In.drew | (refine In.step ?_ (by assumption))))))).mono ?_
  rintro _ w1 ⟨rfl, hb1⟩
  rw [h1]
  have i1 : In w.heap.size w w1 := In.step (by (repeat (first | exact In.refl _ | assumption | apply In.alloc | apply In.drewN | apply In.drew | (refine In.step ?_ (by assumption))))) hb1
  clear hb1
  go_wp2_with fail
  refine (icanStart B m d ys rb _ hm (by exact hy.in_ (by (repeat (first | exact In.refl _ | assumption | apply In.alloc | apply In.drewN | apply In.drew | (refine In.step ?_ (by assumption))))))).mono ?_
  rintro _ w2 ⟨rfl, hb2⟩
  rw [h2]
  have i2 : In w.heap.size w w2 := In.step (by (repeat (first | exact In.refl _ | assumption | apply In.alloc | apply In.drewN | apply In.drew | (refine In.step ?_ (by assumption))))) hb2
  clear hb2 i1
  go_wp2_with fail
  refine (iStartTimes A n c xs ra _ hn (by exact hx.in_ (by (repeat (first | exact In.refl _ | assumption | apply In.alloc | apply In.drewN | apply In.drew | (refine In.step ?_ (by assumption))))))).mono ?_
  rintro _ w3 ⟨A3, c3, rfl, ho3, hb3⟩
  have x3 : ReadsI w3 A3 (StartL n xs ra).length (StartL n xs ra) := reads_own_i ho3
  have i3 : In w.heap.size w w3 := In.step (by (repeat (first | exact In.refl _ | assumption | apply In.alloc | apply In.drewN | apply In.drew | (refine In.step ?_ (by assumption))))) hb3
  rw [HX.out, stL_len] at x3
  rw [HX.out, stL_len]
  clear hb3 i2 ho3
  go_wp2_with fail
  refine (iStartTimes B m d ys rb _ hm (by exact hy.in_ (by (repeat (first | exact In.refl _ | assumption | apply In.alloc | apply In.drewN | apply In.drew | (refine In.step ?_ (by assumption))))))).mono ?_
  rintro _ w4 ⟨A4, c4, rfl, ho4, hb4⟩
  have y4 : ReadsI w4 A4 (StartL m ys rb).length (StartL m ys rb) := reads_own_i ho4
  have x4 : ReadsI w4 A3 n (stL n xs ra n) := ReadsI.step (by (with_reducible (repeat (first | assumption | apply ReadsI.drewN | apply ReadsI.drew | apply ReadsI.alloc | apply ReadsStep.drew | apply ReadsStep.alloc)))) hb4
  have i4 : In w.heap.size w w4 := In.step (by (repeat (first | exact In.refl _ | assumption | apply In.alloc | apply In.drewN | apply In.drew | (refine In.step ?_ (by assumption))))) hb4
  rw [HY.out, stL_len] at y4
  rw [HY.out, stL_len]
  clear hb4 i3 ho4 x3 h1 h2
  have RX := Lib.hid x4
  have RY := Lib.hid y4
  have SX := Lib.hid (hx.in_ i4)
  have SY := Lib.hid (hy.in_ i4)
  clear x4 y4 hx hy
  go_wp2
  go_loopw [11, 36] (fun s i wr => ∃ k : Nat, k ≤ n ∧ i = .int .i64 k ∧ s = .int .i64 (sumTo (clI n xs ra m ys rb) k) ∧ In w4.heap.size w4 wr) (fun _ i _ => n - (intOf i).toNat)
  case atStart => exact ⟨0, Nat.zero_le _, rfl, rfl, In.refl _⟩
  case round =>
    obtain ⟨i, hi, rfl, rfl, hI⟩ := hrel
    obtain ⟨wo, rfl⟩ : ∃ wo : World, wo = wr := ⟨_, rfl⟩
    obtain ⟨s1, s2⟩ := sumTo_bd (clI n xs ra m ys rb) 3600 i fun j hj => by
      have h := sumTo_bd (ovG n xs ra m ys rb j) 300 m fun k hk => ovl_in _ _ _ _ (HFX.out j (by omega)) (HFY.out k hk)
      unfold clI; omega
    have HU := Lib.hid (sumTo_succ (clI n xs ra m ys rb) i)
    have HC : Hid (clI n xs ra m ys rb i = sumTo (ovG n xs ra m ys rb i) m) := Lib.hid rfl
    by_cases hlt : i < n
    · obtain ⟨aa, rfl, ca, ca1⟩ := (SX.out.in_ hI).2 i hlt
      have kb := Blk.new wo 42 #[.int .i64 (xs.getD i ⟨0, 0⟩).f0, .int .i64 (xs.getD i ⟨0, 0⟩).f1]
      have hI2 : In w4.heap.size w4 (wo.alloc (.cells #[.int .i64 (xs.getD i ⟨0, 0⟩).f0, .int .i64 (xs.getD i ⟨0, 0⟩).f1] 42)) := hI.alloc _
      have HFI := Lib.hid (HFX.out i hlt)
      have HGG : Hid (∀ k, ovG n xs ra m ys rb i k = ovl (stV n xs ra i) (stV m ys rb k) (xs.getD i ⟨0, 0⟩).f0 (ys.getD k ⟨0, 0⟩).f0) := Lib.hid (fun _ => rfl)
      generalize hxx : xs.getD i ⟨0, 0⟩ = xx at ca ca1 kb hI2 HFI HGG
      clear hxx
      obtain ⟨x, x1⟩ := xx
      simp only at ca ca1 kb hI2
      clear hI
      go_wp2
      go_loopw [11, 43] (fun s j wr => ∃ k : Nat, k ≤ m ∧ j = .int .i64 k ∧ s = .int .i64 (sumTo (clI n xs ra m ys rb) i + sumTo (ovG n xs ra m ys rb i) k) ∧ In w4.heap.size w4 wr ∧ Blk wr wo.heap.size 42 #[.int .i64 x, .int .i64 x1]) (fun _ j _ => m - (intOf j).toNat)
      case atStart => exact ⟨0, Nat.zero_le _, rfl, v_int (by simp [sumTo]), hI2, kb⟩
      case round =>
        clear hI2 kb ca ca1
        obtain ⟨k, hk, rfl, rfl, hI, kb⟩ := hrel
        obtain ⟨t1, t2⟩ := sumTo_bd (ovG n xs ra m ys rb i) 300 k fun j hj => ovl_in _ _ _ _ (HFX.out i hlt) (HFY.out j (by omega))
        have HT := Lib.hid (sumTo_succ (ovG n xs ra m ys rb i) k)
        by_cases hlk : k < m
        · obtain ⟨ax, rfl, cx⟩ := (RX.out.below hI.below (Nat.le_refl _)).2 i hlt
          obtain ⟨ay, rfl, cy⟩ := (RY.out.below hI.below (Nat.le_refl _)).2 k hlk
          obtain ⟨ab, rfl, cb, cb1⟩ := (SY.out.in_ hI).2 k hlk
          rw [stL_at _ _ _ _ _ hlt] at cx
          rw [stL_at _ _ _ _ _ hlk] at cy
          have HG := Lib.hid (HGG.out k)
          obtain ⟨p1, p2⟩ := HSX.out i (by omega)
          obtain ⟨q1, q2⟩ := HSY.out k (by omega)
          have HFK := Lib.hid (HFY.out k hlk)
          generalize ys.getD k ⟨0, 0⟩ = yy at cb cb1 HG HFK
          obtain ⟨y, y1⟩ := yy
          simp only at cb cb1
          have hu : 1 ≤ x ∧ x ≤ 300 := HFI.out
          have hv : 1 ≤ y ∧ y ≤ 300 := HFK.out
          obtain ⟨u1, u2⟩ := hu
          obtain ⟨v1, v2⟩ := hv
          have HG2 : Hid (ovG n xs ra m ys rb i k = ovl (stV n xs ra i) (stV m ys rb k) x y) := Lib.hid HG.out
          generalize stV n xs ra i = p at cx HG2 p1 p2
          generalize stV m ys rb k = q at cy HG2 q1 q2
          have W1 : IntKind.i64.wrap (p + x) = p + x := IntWalk.i64_in _ (by omega)
          have W2 : IntKind.i64.wrap (q + y) = q + y := IntWalk.i64_in _ (by omega)
          have c0 : wr.cell? ⟨wo.heap.size, 0, none⟩ = some (.int .i64 x) := kb.cell 0
          have hl := kb.lt
          have cxl := cell_lt cx
          have cyl := cell_lt cy
          have k2 := kb.alloc (.cells #[.int .i64 y, .int .i64 y1] 42)
          by_cases hpq : p < q <;> by_cases hxy : q + y < p + x
          all_goals
            go_wp2
            go_quiet (fail)
            all_goals
              go_wp2
              go_quiet (fail)
            all_goals go_wp2
            all_goals
              go_roundw
              case rel => exact ⟨k + 1, by omega, by go_num, v_int (by rw [HT.out, HG2.out]; unfold ovl; omega), by (repeat (first | exact In.refl _ | assumption | apply In.alloc | apply In.drewN | apply In.drew | (refine In.step ?_ (by assumption)))), by (with_reducible (repeat (first | assumption | apply Blk.drewN | apply Blk.drew | apply Blk.alloc)))⟩
              case measure => simp [intOf]; omega
        · obtain rfl : k = m := by omega
          go_wp2
          go_roundw
          case rel => exact ⟨i + 1, by omega, by go_num, v_int (by rw [HU.out, HC.out]), hI⟩
          case measure => simp [intOf]; omega
    · obtain rfl : i = n := by omega
      go_wp2
      go_ret
      exact Val.mk' (v_int HV.out.symm) (i4.trans hI)
end Go.Proofs.Ytgjbbidcpmglbaa
