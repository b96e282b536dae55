/- Chapter 10: LongestShared. -/
import Derived.Test.YtgjbbidcpmglbaaC10
namespace Go.Proofs.Ytgjbbidcpmglbaa
open Go.ChangeShapes Go.WideShapes Go.ChangeAt Go.RowKit
set_option linter.unusedVariables false
set_option linter.unusedSimpArgs false

def shG (xs : List BreadR) (h : Int) (i : Nat) : Int := if inB h (xs.getD i z10).f0 (xs.getD i z10).f1 then (xs.getD i z10).f2 else 0
def shM (xs : List BreadR) (h : Int) : Nat → Int
  | 0 => 0
  | k + 1 => if inB h (xs.getD k z10).f0 (xs.getD k z10).f1 then max (shM xs h k) (xs.getD k z10).f2 else shM xs h k
theorem shM_succ (xs : List BreadR) (h : Int) (k : Nat) : shM xs h (k + 1) = if inB h (xs.getD k z10).f0 (xs.getD k z10).f1 then max (shM xs h k) (xs.getD k z10).f2 else shM xs h k := rfl
def shF (n : Nat) (xs : List BreadR) (h : Int) : Int := sumTo (shG xs h) n - shM xs h n
def maxT (f : Int → Int) : Nat → Int
  | 0 => 0
  | k + 1 => max (maxT f k) (f (100 + (k : Int)))
theorem maxT_succ (f : Int → Int) (k : Nat) : maxT f (k + 1) = max (maxT f k) (f (100 + (k : Int))) := rfl
def longV (n : Nat) (xs : List BreadR) : Int := if breadsB n xs then maxT (shF n xs) 251 else -1
theorem shS_in {n : Nat} {xs : List BreadR} (hs : ∀ i, i < n → 100 ≤ (xs.getD i z10).f0 ∧ (xs.getD i z10).f0 ≤ (xs.getD i z10).f1 ∧ (xs.getD i z10).f1 ≤ 350 ∧ 1 ≤ (xs.getD i z10).f2 ∧ (xs.getD i z10).f2 ≤ 200) (h : Int) (k : Nat) (hk : k ≤ n) :
    0 ≤ sumTo (shG xs h) k ∧ sumTo (shG xs h) k ≤ k * 200 ∧ 0 ≤ shM xs h k ∧ shM xs h k ≤ sumTo (shG xs h) k := by
  induction k with
  | zero => simp [sumTo, shM]
  | succ k ih =>
    have h1 := ih (by omega)
    have h2 := hs k (by omega)
    have hg : shG xs h k = if inB h (xs.getD k z10).f0 (xs.getD k z10).f1 then (xs.getD k z10).f2 else 0 := rfl
    rw [sumTo_succ, shM_succ, hg]
    clear hg
    have : ((k + 1 : Nat) : Int) * 200 = k * 200 + 200 := by omega
    cases hb : inB h (xs.getD k z10).f0 (xs.getD k z10).f1
    · simp only [Bool.false_eq_true, if_false]; omega
    · simp only [if_true]; omega
theorem shF_in {n : Nat} {xs : List BreadR} (hB : breadsB n xs = true) (h : Int) : 0 ≤ shF n xs h ∧ shF n xs h ≤ 2000 := by
  obtain ⟨h1, hs⟩ := breads_at hB
  have := shS_in hs h n (Nat.le_refl _)
  unfold shF; omega
theorem maxT_in {f : Int → Int} (h : ∀ x, 0 ≤ f x ∧ f x ≤ 2000) (k : Nat) : 0 ≤ maxT f k ∧ maxT f k ≤ 2000 := by
  induction k with
  | zero => simp [maxT]
  | succ k ih => have := h (100 + (k : Int)); rw [maxT_succ]; omega
theorem ibakesAtE (a b c h : Int) (w : World) : Calls Try.prog 110 #[.agg #[.int .i64 a, .int .i64 b, .int .i64 c], .int .i64 h] w (Val (.bool (inB h a b)) w) := by
  go_enter Try.func110, Try.ntmps110
  go_wp2_with (first | (go_at_call 66; refine (iIn _ _ _ _).mono ?_; rintro e w' ⟨rfl, rfl⟩) | go_in | (go_end0; simp only []; go_at_K))
  go_ret
  exact Val.mk' rfl (by (repeat (first | exact In.refl _ | assumption | apply In.alloc | apply In.drewN | apply In.drew | (refine In.step ?_ (by assumption)))))
set_option maxHeartbeats 2000000 in
theorem isharedAt (A : Option Addr) (n c : Nat) (xs : List BreadR) (h : Int) (w : World) (hB : breadsB n xs = true) (hx : ReadsBread w A n xs) : Calls Try.prog 73 #[.slice A n c, .int .i64 h] w (Val (i64 (shF n xs h)) w) := by
  obtain ⟨n10, hs⟩ := breads_at hB
  have HI := Lib.hid (fun k hk => shS_in hs h k hk)
  clear hs hB
  go_enter Try.func73, Try.ntmps73
  go_wp2
  go_loopw [5, 6, 11] (fun s m i wr => ∃ k : Nat, k ≤ n ∧ i = .int .i64 k ∧ s = .int .i64 (sumTo (shG xs h) k) ∧ m = .int .i64 (shM xs h k) ∧ In w.heap.size w wr) (fun _ _ i _ => n - (intOf i).toNat)
  case atStart => exact ⟨0, Nat.zero_le _, rfl, rfl, rfl, In.refl _⟩
  case round =>
    obtain ⟨k, hk, rfl, rfl, rfl, hi⟩ := hrel
    obtain ⟨b1, b2, b3, b4⟩ := HI.out k hk
    by_cases hlt : k < n
    · obtain ⟨a, rfl, ha0, ha1, ha2⟩ := (hx.in_ hi).2 k hlt
      have h2 := HI.out (k + 1) hlt
      have HS := Lib.hid (sumTo_succ (shG xs h) k)
      have HG : Hid (shG xs h k = if inB h (xs.getD k z10).f0 (xs.getD k z10).f1 then (xs.getD k z10).f2 else 0) := Lib.hid rfl
      have HM := Lib.hid (shM_succ xs h k)
      have hg := HG.out
      have hs2 := HS.out
      generalize xs.getD k z10 = x at *
      obtain ⟨x0, x1, x2⟩ := x
      simp only at ha0 ha1 ha2 HG HM hg
      have q0 : Blk (wr.alloc (.cells #[.int .i64 x0, .int .i64 x1, .int .i64 x2] 51)) wr.heap.size 51 #[.int .i64 x0, .int .i64 x1, .int .i64 x2] := Blk.new wr _ _
      go_wp2_with fail
      refine (ibakesAtE x0 x1 x2 h _).mono ?_
      rintro _ w2 ⟨rfl, hb2⟩
      have i2 : In w.heap.size w w2 := In.step (by (repeat (first | exact In.refl _ | assumption | apply In.alloc | apply In.drewN | apply In.drew | (refine In.step ?_ (by assumption))))) hb2
      have k2 := Blk.step q0 hb2
      have c2 : w2.cell? ⟨wr.heap.size, 2, none⟩ = some (.int .i64 x2) := k2.cell 2
      have l2 := k2.lt
      clear hb2 q0
      cases hb : inB h x0 x1
      · rw [hb] at HG HM hg
        simp only [Bool.false_eq_true, if_false] at HG HM hg
        generalize sumTo (shG xs h) k = s at *
        generalize shM xs h k = m at *
        clear hg hs2 h2
        go_wp2
        go_roundw
        case rel => exact ⟨k + 1, by omega, by go_num, v_int (by rw [HS.out, HG.out]; simp), v_int (by rw [HM.out]), by (repeat (first | exact In.refl _ | assumption | apply In.alloc | apply In.drewN | apply In.drew | (refine In.step ?_ (by assumption))))⟩
        case measure => simp [intOf]; omega
      · rw [hb] at HG HM hg
        simp only [if_true] at HG HM hg
        rw [hs2, hg] at h2
        generalize sumTo (shG xs h) k = s at *
        generalize shM xs h k = m at *
        clear hs2
        have h5 : ((k + 1 : Nat) : Int) * 200 = k * 200 + 200 := by omega
        have h6 : 0 ≤ s + x2 ∧ s + x2 ≤ 100000 := by omega
        obtain ⟨h7, h8⟩ := h6
        clear h2 h5
        by_cases g1 : m < x2
        · go_wp2
          go_roundw
          case rel => exact ⟨k + 1, by omega, by go_num, v_int (by rw [HS.out, HG.out]), v_int (by rw [HM.out]; omega), by (repeat (first | exact In.refl _ | assumption | apply In.alloc | apply In.drewN | apply In.drew | (refine In.step ?_ (by assumption))))⟩
          case measure => simp [intOf]; omega
        · go_wp2
          go_roundw
          case rel => exact ⟨k + 1, by omega, by go_num, v_int (by rw [HS.out, HG.out]), v_int (by rw [HM.out]; omega), by (repeat (first | exact In.refl _ | assumption | apply In.alloc | apply In.drewN | apply In.drew | (refine In.step ?_ (by assumption))))⟩
          case measure => simp [intOf]; omega
    · obtain rfl : k = n := by omega
      have HR : Hid (shF k xs h = sumTo (shG xs h) k - shM xs h k) := Lib.hid rfl
      generalize sumTo (shG xs h) k = s at *
      generalize shM xs h k = m at *
      go_wp2
      go_ret
      exact Val.mk' (v_int HR.out.symm) (by (repeat (first | exact In.refl _ | assumption | apply In.alloc | apply In.drewN | apply In.drew | (refine In.step ?_ (by assumption)))))
set_option maxHeartbeats 4000000 in
theorem iLongestShared (A : Option Addr) (n c : Nat) (xs : List BreadR) (w : World) (hn : n ≤ maxLen) (hx : ReadsBread w A n xs) : Calls Try.prog 29 #[.slice A n c] w (Val (i64 (longV n xs)) w) := by
  cases hB : breadsB n xs
  · have HV : Hid (longV n xs = -1) := Lib.hid (by rw [longV, hB]; rfl)
    go_enter Try.func29, Try.ntmps29
    go_wp2_with fail
    refine (ibreadsOk A n c xs _ hn hx).mono ?_
    rintro _ w1 ⟨rfl, hb1⟩
    rw [hB]
    go_wp2
    go_ret
    exact Val.mk' (v_int HV.out.symm) (by (repeat (first | exact In.refl _ | assumption | apply In.alloc | apply In.drewN | apply In.drew | (refine In.step ?_ (by assumption)))))
  have HV : Hid (longV n xs = maxT (shF n xs) 251) := Lib.hid (by rw [longV, hB]; rfl)
  have HF := Lib.hid (fun h => shF_in hB h)
  have HB := Lib.hid hB
  obtain ⟨n10, hs⟩ := breads_at hB
  have HI := Lib.hid (fun h k hk => shS_in hs h k hk)
  clear hs
  go_enter Try.func29, Try.ntmps29
  go_wp2_with fail
  refine (ibreadsOk A n c xs _ hn hx).mono ?_
  rintro _ w1 ⟨rfl, hb1⟩
  have i1 : In w.heap.size w w1 := In.step (by (repeat (first | exact In.refl _ | assumption | apply In.alloc | apply In.drewN | apply In.drew | (refine In.step ?_ (by assumption))))) hb1
  clear hb1
  rw [hB]
  clear hB
  go_wp2
  go_loopw [3, 4] (fun b i wr => ∃ k : Nat, (k : Int) ≤ 251 ∧ i = .int .i64 (100 + (k : Int)) ∧ b = .int .i64 (maxT (shF n xs) k) ∧ In w.heap.size w wr) (fun _ i _ => (351 - intOf i).toNat)
  case atStart => exact ⟨0, by decide, rfl, rfl, i1⟩
  case round =>
    clear i1
    obtain ⟨k, hk, rfl, rfl, hi⟩ := hrel
    obtain ⟨m1, m2⟩ := maxT_in (f := shF n xs) HF.out k
    have HM := Lib.hid (maxT_succ (shF n xs) k)
    obtain ⟨h, hh⟩ : ∃ h, h = 100 + (k : Int) := ⟨_, rfl⟩
    have HH := Lib.hid hh
    rw [← hh] at HM ⊢
    by_cases hlt : h ≤ 350
    · have h100 : 100 ≤ h := by omega
      clear hh
      obtain ⟨f1, f2⟩ := HF.out h
      go_wp2_with fail
      refine (isharedAt A n c xs h _ HB.out (hx.in_ (by (repeat (first | exact In.refl _ | assumption | apply In.alloc | apply In.drewN | apply In.drew | (refine In.step ?_ (by assumption))))))).mono ?_
      rintro _ w2 ⟨rfl, hb2⟩
      have i2 : In w.heap.size w w2 := In.step (by (repeat (first | exact In.refl _ | assumption | apply In.alloc | apply In.drewN | apply In.drew | (refine In.step ?_ (by assumption))))) hb2
      clear hb2
      generalize shF n xs h = f at *
      generalize maxT (shF n xs) k = b at *
      by_cases g : b < f
      all_goals
        go_wp2
        go_roundw
        case rel => exact ⟨k + 1, by have := HH.out; omega, v_int (by have := HH.out; omega), v_int (by rw [HM.out]; omega), by (repeat (first | exact In.refl _ | assumption | apply In.alloc | apply In.drewN | apply In.drew | (refine In.step ?_ (by assumption))))⟩
        case measure => simp [intOf]; omega
    · have HK : Hid (k = 251) := Lib.hid (by omega)
      clear hh
      go_wp2
      go_ret
      exact Val.mk' (v_int (by rw [HV.out, HK.out])) (by (repeat (first | exact In.refl _ | assumption | apply In.alloc | apply In.drewN | apply In.drew | (refine In.step ?_ (by assumption)))))
end Go.Proofs.Ytgjbbidcpmglbaa
