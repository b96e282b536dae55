/- Chapter 3: LoavesFrom and DoughForAll. -/
import Derived.Test.YtfnkbbiphloaeaaD03
import Derived.Test.YtfnkbbiphloaeaaSLoaf
import Derived.Test.YtfnkbbiphloaeaaIntR
import Derived.Test.YtfnkbbiphloaeaaSum
namespace Go.Proofs.Ytfnkbbiphloaeaa
open Go.ChangeShapes Go.WideShapes Go.ChangeAt Go.RowKit
set_option linter.unusedVariables false
set_option linter.unusedSimpArgs false

theorem firstG_at (p : Int → Bool) (k : Nat) : ∀ g : Int, p (g + k) = true → g ≤ firstG p k g ∧ firstG p k g ≤ g + k ∧ p (firstG p k g) = true := by
  induction k with
  | zero => intro g h; simp only [firstG]; refine ⟨by omega, by omega, ?_⟩; simpa using h
  | succ k ih =>
    intro g h
    by_cases e : p g = true
    · rw [firstG, if_pos e]; exact ⟨by omega, by omega, e⟩
    · rw [firstG, if_neg e]
      have := ih (g + 1) (by rw [show g + 1 + (k : Int) = g + ((k + 1 : Nat) : Int) from by omega]; exact h)
      exact ⟨by omega, by omega, this.2.2⟩
theorem dough_in (a l : Int) (h : loafB a l = true) : 10 ≤ doughV a l ∧ doughV a l ≤ 10000 := by
  have hl := loaf_in h
  have h1 := firstG_at (leastP a l) 10000 0 (by have := bk_top a l h; simp [leastP]; exact this)
  rw [doughV, if_pos h]
  have h2 : a ≤ bk (firstG (leastP a l) 10000 0) l := by simpa [leastP] using h1.2.2
  have h3 := bk_le (firstG (leastP a l) 10000 0) l h1.1 hl.2.2.1
  omega
def loavesV (a l d : Int) : Int := if loafB a l && inB d 0 1000000 then d / doughV a l else -1
theorem iLoavesFrom (a l d : Int) (w : World) : Calls Try.prog 33 #[.agg #[.int .i64 a, .int .i64 l], .int .i64 d] w (Val (i64 (loavesV a l d)) w) := by
  have q0 : Blk (w.alloc (.cells #[.int .i64 a, .int .i64 l] 48)) w.heap.size 48 #[.int .i64 a, .int .i64 l] := Blk.new w _ _
  cases h : loafB a l
  · have HV : Hid (loavesV a l d = -1) := Lib.hid (by simp [loavesV, h])
    go_enter Try.func33, Try.ntmps33
    go_wp2_with fail
    refine (iLoafOk a l _).mono ?_
    rintro _ w1 ⟨rfl, hb1⟩
    go_wp2_with (first | (go_at_call 50; refine (iIn _ _ _ _).mono ?_; rintro e w' ⟨rfl, rfl⟩) | go_in | (go_end0; simp only []; go_at_K))
    go_ret
    exact Val.mk' (v_int HV.out.symm) (by (repeat (first | exact In.refl _ | assumption | apply In.alloc | apply In.drewN | apply In.drew | (refine In.step ?_ (by assumption)))))
  obtain ⟨b1, b2⟩ := dough_in a l h
  cases h2 : inB d 0 1000000
  · have HV : Hid (loavesV a l d = -1) := Lib.hid (by simp [loavesV, h, h2])
    go_enter Try.func33, Try.ntmps33
    go_wp2_with fail
    refine (iLoafOk a l _).mono ?_
    rintro _ w1 ⟨rfl, hb1⟩
    go_wp2_with (first | (go_at_call 50; refine (iIn _ _ _ _).mono ?_; rintro e w' ⟨rfl, rfl⟩) | go_in | (go_end0; simp only []; go_at_K))
    go_ret
    exact Val.mk' (v_int HV.out.symm) (by (repeat (first | exact In.refl _ | assumption | apply In.alloc | apply In.drewN | apply In.drew | (refine In.step ?_ (by assumption)))))
  have HV : Hid (loavesV a l d = d / doughV a l) := Lib.hid (by simp [loavesV, h, h2])
  obtain ⟨b3, b4⟩ := inB_tt h2
  go_enter Try.func33, Try.ntmps33
  go_wp2_with fail
  refine (iLoafOk a l _).mono ?_
  rintro _ w1 ⟨rfl, hb1⟩
  have k1 := Blk.step q0 hb1
  have c0 : w1.cell? ⟨w.heap.size, 0, none⟩ = some (.int .i64 a) := k1.cell 0
  have c1 : w1.cell? ⟨w.heap.size, 1, none⟩ = some (.int .i64 l) := k1.cell 1
  go_wp2_with (first | (go_at_call 50; refine (iIn _ _ _ _).mono ?_; rintro e w' ⟨rfl, rfl⟩) | (go_at_call 32; refine (iDoughFor a l _).mono ?_; rintro _ w2 ⟨rfl, hb2⟩) | go_in | (go_end0; simp only []; go_at_K))
  go_ret
  exact Val.mk' (v_int HV.out.symm) (by (repeat (first | exact In.refl _ | assumption | apply In.alloc | apply In.drewN | apply In.drew | (refine In.step ?_ (by assumption)))))

def zL : LoafR := ⟨0, 0⟩
def lOk (xs : List LoafR) (ys : List Int) (i : Nat) : Bool := loafB (xs.getD i ⟨0, 0⟩).f0 (xs.getD i ⟨0, 0⟩).f1 && inB (ys.getD i 0) 0 500
def lG (xs : List LoafR) (ys : List Int) (i : Nat) : Int := doughV (xs.getD i ⟨0, 0⟩).f0 (xs.getD i ⟨0, 0⟩).f1 * ys.getD i 0
def allV (n m : Nat) (xs : List LoafR) (ys : List Int) : Int := if n ≤ 12 ∧ m = n ∧ allOk (lOk xs ys) n = true then sumTo (lG xs ys) n else -1
theorem lG_in (xs : List LoafR) (ys : List Int) (i : Nat) (h : lOk xs ys i = true) : 0 ≤ lG xs ys i ∧ lG xs ys i ≤ 5000000 := by
  simp only [lOk, Bool.and_eq_true] at h
  have h1 := dough_in _ _ h.1
  have h2 := inB_tt h.2
  exact mul_in (by omega) h1.2 h2.1 h2.2
theorem h3held {w w' : World} {p q r : Addr} {x y z : Value} (hi : In w.heap.size w w') (h0 : w.cell? p = some x) (h1 : w.cell? q = some y) (h2 : w.cell? r = some z) :
    In w.heap.size w w' ∧ w'.cell? p = some x ∧ w'.cell? q = some y ∧ w'.cell? r = some z := ⟨hi, cell_in h0 hi, cell_in h1 hi, cell_in h2 hi⟩
theorem h3box {w w' : World} {g : Nat} {t : TypeId} {r : Addr} {x y z : Value} (hi : In w.heap.size w w') (hk : Blk w' g t #[x, y]) (h2 : w.cell? r = some z) :
    In w.heap.size w w' ∧ Blk w' g t #[x, y] ∧ w'.cell? ⟨g, 0, none⟩ = some x ∧ w'.cell? ⟨g, 1, none⟩ = some y ∧ w'.cell? r = some z := ⟨hi, hk, hk.cell 0, hk.cell 1, cell_in h2 hi⟩
set_option maxHeartbeats 2000000 in
theorem iDoughForAll (A : Option Addr) (n c : Nat) (xs : List LoafR) (B : Option Addr) (m d : Nat) (ys : List Int) (w : World) (hn : n ≤ maxLen) (hx : ReadsLoaf w A n xs) (hm : m ≤ maxLen) (hy : ReadsI w B m ys) :
    Calls Try.prog 35 #[.slice A n c, .slice B m d] w (Val (i64 (allV n m xs ys)) w) := by
  unfold maxLen at hn hm
  by_cases h1 : n ≤ 12
  rotate_left
  · have HV : Hid (allV n m xs ys = -1) := Lib.hid (if_neg (by omega))
    have h1' : 12 < n := by omega
    go_enter Try.func35, Try.ntmps35
    go_wp2
    go_ret
    exact Val.mk' (v_int HV.out.symm) (by (repeat (first | exact In.refl _ | assumption | apply In.alloc | apply In.drewN | apply In.drew | (refine In.step ?_ (by assumption)))))
  by_cases h2 : m = n
  rotate_left
  · have HV : Hid (allV n m xs ys = -1) := Lib.hid (if_neg (by omega))
    have h2' : ((m : Int) == (n : Int)) = false := by simp; omega
    have h2'' : ((m : Int) != (n : Int)) = true := by simp; omega
    go_enter Try.func35, Try.ntmps35
    go_wp2
    go_ret
    exact Val.mk' (v_int HV.out.symm) (by (repeat (first | exact In.refl _ | assumption | apply In.alloc | apply In.drewN | apply In.drew | (refine In.step ?_ (by assumption)))))
  subst h2
  have HVd : Hid (∀ v, allV m m xs ys = v ↔ (if allOk (lOk xs ys) m = true then sumTo (lG xs ys) m else -1) = v) := Lib.hid (fun v => by unfold allV; simp [h1])
  go_enter Try.func35, Try.ntmps35
  go_wp2
  go_loopw [5, 20] (fun s i wr => ∃ k : Nat, k ≤ m ∧ i = .int .i64 k ∧ s = .int .i64 (sumTo (lG xs ys) k) ∧ (∀ i, i < k → lOk xs ys i = true) ∧ In w.heap.size w wr) (fun _ i _ => m - (intOf i).toNat)
  case atStart => exact ⟨0, Nat.zero_le _, rfl, rfl, fun i hi => absurd hi (Nat.not_lt_zero _), by (repeat (first | exact In.refl _ | assumption | apply In.alloc | apply In.drewN | apply In.drew | (refine In.step ?_ (by assumption))))⟩
  case round =>
    obtain ⟨k, hk, rfl, rfl, ho, hi⟩ := hrel
    have HO := Lib.hid ho
    clear ho
    by_cases hlt : k < m
    · obtain ⟨a, rfl, ha0, ha1⟩ := hx.2 k hlt
      obtain ⟨b, rfl, hc⟩ := hy.2 k hlt
      have HS := Lib.hid (sumTo_succ (lG xs ys) k)
      have HOK : Hid (lOk xs ys k = (loafB (xs.getD k ⟨0, 0⟩).f0 (xs.getD k ⟨0, 0⟩).f1 && inB (ys.getD k 0) 0 500)) := Lib.hid rfl
      have HG : Hid (lG xs ys k = doughV (xs.getD k ⟨0, 0⟩).f0 (xs.getD k ⟨0, 0⟩).f1 * ys.getD k 0) := Lib.hid rfl
      have hsb := sumTo_bd (lG xs ys) 5000000 k fun i hi => lG_in xs ys i (HO.out i hi)
      generalize xs.getD k ⟨0, 0⟩ = x at ha0 ha1 HOK HG
      obtain ⟨x0, x1⟩ := x
      generalize ys.getD k 0 = y at hc HOK HG
      simp only at ha0 ha1
      have A0 := Lib.hid ha0
      have A1 := Lib.hid ha1
      have C0 := Lib.hid hc
      have e0 := cell_in ha0 hi
      have e1 := cell_in ha1 hi
      clear ha0 ha1 hc
      cases hL : loafB x0 x1
      · have HF : Hid (lOk xs ys k = false) := Lib.hid (by rw [HOK.out]; simp [hL])
        go_wp2_with fail
        refine (iLoafOk x0 x1 _).mono ?_
        rintro _ w2 ⟨rfl, hb2⟩
        go_wp2_with (first | (go_at_call 50; refine (iIn _ _ _ _).mono ?_; rintro e w' ⟨rfl, rfl⟩) | go_in | (go_end0; simp only []; go_at_K))
        go_ret
        exact Val.mk' (v_int ((HVd.out _).2 (by rw [allOk_f _ _ k hlt HF.out]; rfl)).symm) (by (repeat (first | exact In.refl _ | assumption | apply In.alloc | apply In.drewN | apply In.drew | (refine In.step ?_ (by assumption)))))
      · go_wp2_with fail
        refine (iLoafOk x0 x1 _).mono ?_
        rintro _ w2 ⟨rfl, hb2⟩
        have i2 : In w.heap.size w w2 := In.step (by (repeat (first | exact In.refl _ | assumption | apply In.alloc | apply In.drewN | apply In.drew | (refine In.step ?_ (by assumption))))) hb2
        have k2 : Blk w2 wr.heap.size 48 #[.int .i64 x0, .int .i64 x1] := Blk.step (Blk.new wr _ _) hb2
        clear hb2 hi e0 e1
        have f2 := cell_in C0.out i2
        have f0 : w2.cell? ⟨wr.heap.size, 0, none⟩ = some (.int .i64 x0) := k2.cell 0
        have f1 : w2.cell? ⟨wr.heap.size, 1, none⟩ = some (.int .i64 x1) := k2.cell 1
        cases hI : inB y 0 500
        · have HF : Hid (lOk xs ys k = false) := Lib.hid (by rw [HOK.out]; simp [hI])
          go_wp2_with (first | (go_at_call 50; refine (iIn _ _ _ _).mono ?_; rintro e w' ⟨rfl, rfl⟩) | go_in | (go_end0; simp only []; go_at_K))
          go_ret
          exact Val.mk' (v_int ((HVd.out _).2 (by rw [allOk_f _ _ k hlt HF.out]; rfl)).symm) (by (repeat (first | exact In.refl _ | assumption | apply In.alloc | apply In.drewN | apply In.drew | (refine In.step ?_ (by assumption)))))
        · have HT : Hid (lOk xs ys k = true) := Lib.hid (by rw [HOK.out]; simp [hI, hL])
          obtain ⟨b1, b2⟩ := dough_in x0 x1 hL
          obtain ⟨b3, b4⟩ := inB_tt hI
          obtain ⟨b5, b6⟩ := mul_in (by omega : 0 ≤ doughV x0 x1) b2 b3 b4
          have W1 : Hid (IntKind.i64.wrap (y * doughV x0 x1) = y * doughV x0 x1) := Lib.hid (IntWalk.i64_in _ (by rw [Int.mul_comm]; omega))
          have W2 : Hid (IntKind.i64.wrap (sumTo (lG xs ys) k + y * doughV x0 x1) = sumTo (lG xs ys) k + doughV x0 x1 * y) := Lib.hid (by rw [Int.mul_comm y]; exact IntWalk.i64_in _ (by omega))
          rw [hL]
          clear hL
          go_wp2_with (first | (go_at_call 50; refine (iIn _ _ _ _).mono ?_; rintro e w' ⟨rfl, rfl⟩) | go_in | (go_end0; simp only []; go_at_K))
          go_region_held3 (fun w' => In w.heap.size w w' ∧ Blk w' wr.heap.size 48 #[.int .i64 x0, .int .i64 x1] ∧ w'.cell? ⟨wr.heap.size, 0, none⟩ = some (.int .i64 x0) ∧ w'.cell? ⟨wr.heap.size, 1, none⟩ = some (.int .i64 x1) ∧ w'.cell? (b.add k) = some (.int .i64 y))
            (first | assumption | exact h3box (In.step (And.left (by assumption)) hb1) (Blk.step (And.left (And.right (by assumption))) hb1) C0.out | exact h3box (by (repeat (first | exact In.refl _ | assumption | apply In.alloc | apply In.drewN | apply In.drew | (refine In.step ?_ (by assumption))))) (by (with_reducible (repeat (first | assumption | apply Blk.drewN | apply Blk.drew | apply Blk.alloc)))) C0.out)
            (first | (go_at_call 32; ((with_reducible refine (iDoughFor x0 x1 _).mono ?_); rintro e w1 ⟨rfl, hb1⟩)))
          obtain ⟨i3, hz⟩ := ‹In w.heap.size w _ ∧ _›
          clear hz
          go_wp2
          go_roundw
          case rel => exact ⟨k + 1, by omega, by go_num, v_int (by rw [HS.out, HG.out, W1.out, W2.out]), fun i hi => by
            by_cases e : i = k
            · subst e; exact HT.out
            · exact HO.out i (by omega), by (repeat (first | exact In.refl _ | assumption | apply In.alloc | apply In.drewN | apply In.drew | (refine In.step ?_ (by assumption))))⟩
          case measure => simp [intOf]; omega
    · obtain rfl : k = m := by omega
      go_wp2
      go_ret
      exact Val.mk' (v_int ((HVd.out _).2 (by rw [allOk_t _ _ HO.out]; rfl)).symm) (by (repeat (first | exact In.refl _ | assumption | apply In.alloc | apply In.drewN | apply In.drew | (refine In.step ?_ (by assumption)))))
end Go.Proofs.Ytfnkbbiphloaeaa
