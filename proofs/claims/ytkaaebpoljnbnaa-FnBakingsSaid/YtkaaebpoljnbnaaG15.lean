/- Chapter 15: GainFor, IsBetter. -/
import Derived.Test.YtkaaebpoljnbnaaC15
import Derived.Deep.RegionHeld3
import Derived.Laws.EntriesVeiled
namespace Go.Proofs.Ytkaaebpoljnbnaa
open Go.ChangeShapes Go.WideShapes Go.ChangeAt Go.RowKit
set_option linter.unusedVariables false
set_option linter.unusedSimpArgs false

def gG (xs : List OddsR) (b g d : Int) (i : Nat) : Int := (xs.getD i z15).f1 * (g * min b (xs.getD i z15).f0 - d * b)
def gainS (n : Nat) (xs : List OddsR) (b g d : Int) : Int := sumTo (gG xs b g d) n
def gainV (n : Nat) (xs : List OddsR) (b g d : Int) : Int := if ok15 n xs b g d then gainS n xs b g d else 0
theorem sumTo_abs (g : Nat → Int) (M : Int) (k : Nat) (h : ∀ i, i < k → -M ≤ g i ∧ g i ≤ M) : -(k * M) ≤ sumTo g k ∧ sumTo g k ≤ k * M := by
  induction k with
  | zero => simp [sumTo]
  | succ k ih =>
    have h1 := ih fun i hi => h i (by omega)
    have h2 := h k (by omega)
    rw [sumTo_succ]
    have : ((k + 1 : Nat) : Int) * M = k * M + M := by rw [Int.natCast_add, Int.add_mul]; simp
    omega
theorem gmul_in {x1 g m d b : Int} (h1 : 1 ≤ x1) (h2 : x1 ≤ 100) (h3 : 0 ≤ g) (h4 : g ≤ 100) (h5 : 0 ≤ m) (h6 : m ≤ 1000) (h7 : 0 ≤ d) (h8 : d ≤ 100) (h9 : 0 ≤ b) (h10 : b ≤ 1000) :
    0 ≤ g * m ∧ g * m ≤ 100000 ∧ 0 ≤ d * b ∧ d * b ≤ 100000 ∧ -10000000 ≤ x1 * (g * m - d * b) ∧ x1 * (g * m - d * b) ≤ 10000000 := by
  have e1 := mul_in (a := g) (b := m) (A := 100) (B := 1000) h3 h4 h5 h6
  have e2 := mul_in (a := d) (b := b) (A := 100) (B := 1000) h7 h8 h9 h10
  generalize g * m = p at *
  generalize d * b = q at *
  have e3 : (x1 * (p - q)).natAbs ≤ 100 * 100000 := by
    rw [Int.natAbs_mul]
    exact Nat.mul_le_mul (by omega) (by omega)
  omega
theorem gG_in {n : Nat} {xs : List OddsR} {b g d : Int} (h : ok15 n xs b g d = true) (i : Nat) (hi : i < n) : -10000000 ≤ gG xs b g d i ∧ gG xs b g d i ≤ 10000000 := by
  simp only [ok15, Bool.and_eq_true] at h
  have h1 := (odds_at h.1.1.1).2.2 i hi
  have h2 := inB_tt h.1.1.2
  have h3 := inB_tt h.1.2
  have h4 := inB_tt h.2
  have := gmul_in (x1 := (xs.getD i z15).f1) (g := g) (m := min b (xs.getD i z15).f0) (d := d) (b := b) (by omega) (by omega) (by omega) (by omega) (by omega) (by omega) (by omega) (by omega) (by omega) (by omega)
  unfold gG; omega
theorem gainS_in {n : Nat} {xs : List OddsR} {b g d : Int} (h : ok15 n xs b g d = true) : -200000000 ≤ gainS n xs b g d ∧ gainS n xs b g d ≤ 200000000 := by
  have h1 := sumTo_abs (gG xs b g d) 10000000 n fun i hi => gG_in h i hi
  simp only [ok15, Bool.and_eq_true] at h
  have h2 := (odds_at h.1.1.1).2.1
  unfold gainS; omega
set_option maxHeartbeats 2000000 in
theorem iplan (A : Option Addr) (n c : Nat) (xs : List OddsR) (b g d : Int) (p1 p2 p3 : Nat) (w : World) (hB : ok15 n xs b g d = true) (hx : ReadsOdds w A n xs)
    (k1 : w.cell? ⟨p1, 0, none⟩ = some (.slice A n c)) (k2 : w.cell? ⟨p2, 0, none⟩ = some (.int .i64 g)) (k3 : w.cell? ⟨p3, 0, none⟩ = some (.int .i64 d)) :
    Calls Try.prog 64 #[.int .i64 b, .pointer (some ⟨p1, 0, none⟩), .pointer (some ⟨p2, 0, none⟩), .pointer (some ⟨p3, 0, none⟩)] w (Val (i64 (gainS n xs b g d)) w) := by
  have hB2 := hB
  simp only [ok15, Bool.and_eq_true] at hB2
  have HSG := Lib.hid (fun i hi => gG_in hB i hi)
  obtain ⟨n1, n2, hs⟩ := odds_at hB2.1.1.1
  have HS := Lib.hid hs
  obtain ⟨e1, e2⟩ := inB_tt hB2.1.1.2
  obtain ⟨e3, e4⟩ := inB_tt hB2.1.2
  obtain ⟨e5, e6⟩ := inB_tt hB2.2
  clear hs hB2
  clear hB
  have l2 := cell_lt k2
  have l3 := cell_lt k3
  simp only at l2 l3
  go_enter Try.func64, Try.ntmps64
  go_wp2
  go_loopw [6, 11] (fun s i wr => ∃ k : Nat, k ≤ n ∧ i = .int .i64 k ∧ s = .int .i64 (sumTo (gG xs b g d) k) ∧ In w.heap.size w wr) (fun _ i _ => n - (intOf i).toNat)
  case atStart => exact ⟨0, Nat.zero_le _, rfl, rfl, In.refl _⟩
  case round =>
    obtain ⟨k, hk, rfl, rfl, hi⟩ := hrel
    have HU := Lib.hid (sumTo_succ (gG xs b g d) k)
    obtain ⟨b1, b2⟩ := sumTo_abs (gG xs b g d) 10000000 k fun i hi => HSG.out i (by omega)
    have hk2 := cell_in k2 hi
    have hk3 := cell_in k3 hi
    have hsz := hi.size
    have hp2 : p2 < wr.heap.size := by omega
    have hp3 : p3 < wr.heap.size := by omega
    have hq2 : ¬ p2 = wr.heap.size := by omega
    have hq3 : ¬ p3 = wr.heap.size := by omega
    clear hsz
    by_cases hlt : k < n
    · obtain ⟨a, rfl, ha0, ha1⟩ := (hx.in_ hi).2 k hlt
      obtain ⟨d1, d2, d3, d4⟩ := HS.out k hlt
      have HG : Hid (gG xs b g d k = (xs.getD k z15).f1 * (g * min b (xs.getD k z15).f0 - d * b)) := Lib.hid rfl
      generalize xs.getD k z15 = x at *
      generalize sumTo (gG xs b g d) k = s at *
      obtain ⟨x0, x1⟩ := x
      simp only at ha0 ha1 d1 d2 d3 d4 HG
      by_cases hg : x0 < b
      · have hm : min b x0 = x0 := by omega
        rw [hm] at HG
        obtain ⟨m1, m2, m3, m4, m5, m6⟩ := gmul_in (x1 := x1) (g := g) (m := x0) (d := d) (b := b) d3 d4 e3 e4 d1 d2 e5 e6 e1 e2
        have w1 : IntKind.i64.wrap (g * x0) = g * x0 := IntWalk.i64_in _ (by omega)
        have w2 : IntKind.i64.wrap (d * b) = d * b := IntWalk.i64_in _ (by omega)
        have w3 : IntKind.i64.wrap (g * x0 - d * b) = g * x0 - d * b := IntWalk.i64_in _ (by omega)
        have w4 : IntKind.i64.wrap (x1 * (g * x0 - d * b)) = x1 * (g * x0 - d * b) := IntWalk.i64_in _ (by omega)
        have w5 : IntKind.i64.wrap (s + x1 * (g * x0 - d * b)) = s + x1 * (g * x0 - d * b) := IntWalk.i64_in _ (by omega)
        clear hm
        go_wp2
        go_roundw
        case rel => exact ⟨k + 1, by omega, by go_num, v_int (by rw [HU.out, HG.out]), by (repeat (first | exact In.refl _ | assumption | apply In.alloc | apply In.drewN | apply In.drew | (refine In.step ?_ (by assumption))))⟩
        case measure => simp [intOf]; omega
      · have hm : min b x0 = b := by omega
        rw [hm] at HG
        obtain ⟨m1, m2, m3, m4, m5, m6⟩ := gmul_in (x1 := x1) (g := g) (m := b) (d := d) (b := b) d3 d4 e3 e4 e1 e2 e5 e6 e1 e2
        have w1 : IntKind.i64.wrap (g * b) = g * b := IntWalk.i64_in _ (by omega)
        have w2 : IntKind.i64.wrap (d * b) = d * b := IntWalk.i64_in _ (by omega)
        have w3 : IntKind.i64.wrap (g * b - d * b) = g * b - d * b := IntWalk.i64_in _ (by omega)
        have w4 : IntKind.i64.wrap (x1 * (g * b - d * b)) = x1 * (g * b - d * b) := IntWalk.i64_in _ (by omega)
        have w5 : IntKind.i64.wrap (s + x1 * (g * b - d * b)) = s + x1 * (g * b - d * b) := IntWalk.i64_in _ (by omega)
        clear hm
        go_wp2
        go_roundw
        case rel => exact ⟨k + 1, by omega, by go_num, v_int (by rw [HU.out, HG.out]), by (repeat (first | exact In.refl _ | assumption | apply In.alloc | apply In.drewN | apply In.drew | (refine In.step ?_ (by assumption))))⟩
        case measure => simp [intOf]; omega
    · obtain rfl : k = n := by omega
      go_wp2
      go_ret
      exact Val.mk' rfl (by (repeat (first | exact In.refl _ | assumption | apply In.alloc | apply In.drewN | apply In.drew | (refine In.step ?_ (by assumption)))))
theorem fieldPlan (F : Value) (w : World) : (Instr.field 63 (.agg #[F]) 0).run Try.prog w = .ok F w := by first | rfl | kernel_rfl
theorem iplanFor (A : Option Addr) (n c : Nat) (g d : Int) (w : World) : Calls Try.prog 54 #[.slice A n c, .int .i64 g, .int .i64 d] w fun e w' => e = .returned (.agg #[.func (Fn.func 64) #[] #[.pointer (some ⟨w.heap.size, 0, none⟩), .pointer (some ⟨w.heap.size + 1, 0, none⟩), .pointer (some ⟨w.heap.size + 1 + 1, 0, none⟩)]]) ∧ Below w.heap.size w w' ∧
    w'.cell? ⟨w.heap.size, 0, none⟩ = some (.slice A n c) ∧ w'.cell? ⟨w.heap.size + 1, 0, none⟩ = some (.int .i64 g) ∧ w'.cell? ⟨w.heap.size + 1 + 1, 0, none⟩ = some (.int .i64 d) := by
  have k1 : Blk ((((w.alloc (.cells #[.slice A n c] 38)).alloc (.cells #[.int .i64 g] 3)).alloc (.cells #[.int .i64 d] 3)).alloc (.cells #[.nilFunc] 63)) w.heap.size 38 #[.slice A n c] := (((Blk.new w _ _).alloc _).alloc _).alloc _
  have k2 : Blk ((((w.alloc (.cells #[.slice A n c] 38)).alloc (.cells #[.int .i64 g] 3)).alloc (.cells #[.int .i64 d] 3)).alloc (.cells #[.nilFunc] 63)) (w.heap.size + 1) 3 #[.int .i64 g] := (show Blk ((w.alloc (.cells #[.slice A n c] 38)).alloc (.cells #[.int .i64 g] 3)) (w.heap.size + 1) _ _ by have h := Blk.new (w.alloc (.cells #[.slice A n c] 38)) 3 #[.int .i64 g]; simpa using h).alloc _ |>.alloc _
  have k3 : Blk ((((w.alloc (.cells #[.slice A n c] 38)).alloc (.cells #[.int .i64 g] 3)).alloc (.cells #[.int .i64 d] 3)).alloc (.cells #[.nilFunc] 63)) (w.heap.size + 1 + 1) 3 #[.int .i64 d] := (show Blk (((w.alloc (.cells #[.slice A n c] 38)).alloc (.cells #[.int .i64 g] 3)).alloc (.cells #[.int .i64 d] 3)) (w.heap.size + 1 + 1) _ _ by have h := Blk.new ((w.alloc (.cells #[.slice A n c] 38)).alloc (.cells #[.int .i64 g] 3)) 3 #[.int .i64 d]; simpa using h).alloc _
  have k4 : Blk ((((w.alloc (.cells #[.slice A n c] 38)).alloc (.cells #[.int .i64 g] 3)).alloc (.cells #[.int .i64 d] 3)).alloc (.cells #[.nilFunc] 63)) (w.heap.size + 1 + 1 + 1) 63 #[.nilFunc] := by have h := Blk.new (((w.alloc (.cells #[.slice A n c] 38)).alloc (.cells #[.int .i64 g] 3)).alloc (.cells #[.int .i64 d] 3)) 63 #[.nilFunc]; simpa using h
  have c4 : ((((w.alloc (.cells #[.slice A n c] 38)).alloc (.cells #[.int .i64 g] 3)).alloc (.cells #[.int .i64 d] 3)).alloc (.cells #[.nilFunc] 63)).cell? ⟨w.heap.size + 1 + 1 + 1, 0, none⟩ = some .nilFunc := k4.cell 0
  have z4 := k4.frozen 0
  have c1 : ((((w.alloc (.cells #[.slice A n c] 38)).alloc (.cells #[.int .i64 g] 3)).alloc (.cells #[.int .i64 d] 3)).alloc (.cells #[.nilFunc] 63)).cell? ⟨w.heap.size, 0, none⟩ = some (.slice A n c) := k1.cell 0
  have c2 : ((((w.alloc (.cells #[.slice A n c] 38)).alloc (.cells #[.int .i64 g] 3)).alloc (.cells #[.int .i64 d] 3)).alloc (.cells #[.nilFunc] 63)).cell? ⟨w.heap.size + 1, 0, none⟩ = some (.int .i64 g) := k2.cell 0
  have c3 : ((((w.alloc (.cells #[.slice A n c] 38)).alloc (.cells #[.int .i64 g] 3)).alloc (.cells #[.int .i64 d] 3)).alloc (.cells #[.nilFunc] 63)).cell? ⟨w.heap.size + 1 + 1, 0, none⟩ = some (.int .i64 d) := k3.cell 0
  have i4 : In w.heap.size w ((((w.alloc (.cells #[.slice A n c] 38)).alloc (.cells #[.int .i64 g] 3)).alloc (.cells #[.int .i64 d] 3)).alloc (.cells #[.nilFunc] 63)) := by (repeat (first | exact In.refl _ | assumption | apply In.alloc | apply In.drewN | apply In.drew | (refine In.step ?_ (by assumption))))
  go_enter Try.func54, Try.ntmps54
  go_wp2
  exact bodyPost_ret (v := .agg #[.func (Fn.func 64) #[] #[.pointer (some ⟨w.heap.size, 0, none⟩), .pointer (some ⟨w.heap.size + 1, 0, none⟩), .pointer (some ⟨w.heap.size + 1 + 1, 0, none⟩)]]) (by simp [results, Try.results54, go_sem, c4]) rfl ⟨rfl, (show In w.heap.size w _ by (repeat (first | exact In.refl _ | assumption | apply In.alloc | apply In.drewN | apply In.drew | (refine In.step ?_ (by assumption))))).below, (Blk.cell (i := 0) ((((Blk.new w _ _).alloc _).alloc _).alloc _)).trans rfl, (Blk.cell (i := 0) ((show Blk ((w.alloc (.cells #[.slice A n c] 38)).alloc (.cells #[.int .i64 g] 3)) (w.heap.size + 1) _ _ by have h := Blk.new (w.alloc (.cells #[.slice A n c] 38)) 3 #[.int .i64 g]; simpa using h).alloc _ |>.alloc _)).trans rfl, (Blk.cell (i := 0) ((show Blk (((w.alloc (.cells #[.slice A n c] 38)).alloc (.cells #[.int .i64 g] 3)).alloc (.cells #[.int .i64 d] 3)) (w.heap.size + 1 + 1) _ _ by have h := Blk.new ((w.alloc (.cells #[.slice A n c] 38)).alloc (.cells #[.int .i64 g] 3)) 3 #[.int .i64 d]; simpa using h).alloc _)).trans rfl⟩
set_option maxHeartbeats 2000000 in
theorem iGainFor (A : Option Addr) (n c : Nat) (xs : List OddsR) (b g d : Int) (w : World) (hn : n ≤ maxLen) (hx : ReadsOdds w A n xs) : Calls Try.prog 26 #[.slice A n c, .int .i64 b, .int .i64 g, .int .i64 d] w (Val (i64 (gainV n xs b g d)) w) := by
  cases h1 : planB n xs g d
  · have HV : Hid (gainV n xs b g d = 0) := Lib.hid (by
      have : ok15 n xs b g d = false := by simp only [planB, Bool.and_eq_false_iff] at h1; rcases h1 with (h | h) | h <;> simp [ok15, h]
      rw [gainV, this]; rfl)
    go_enter Try.func26, Try.ntmps26
    go_wp2_with fail
    refine (icanPlan A n c xs g d _ hn hx).mono ?_
    rintro _ w1 ⟨rfl, hb1⟩
    rw [h1]
    go_wp2
    go_ret
    exact Val.mk' (v_int HV.out.symm) (by (repeat (first | exact In.refl _ | assumption | apply In.alloc | apply In.drewN | apply In.drew | (refine In.step ?_ (by assumption)))))
  cases h2 : inB b 0 1000
  · have HV : Hid (gainV n xs b g d = 0) := Lib.hid (by simp [gainV, ok15, h2])
    go_enter Try.func26, Try.ntmps26
    go_wp2_with fail
    refine (icanPlan A n c xs g d _ hn hx).mono ?_
    rintro _ w1 ⟨rfl, hb1⟩
    rw [h1]
    go_wp2_with (first | (go_at_call 45; refine (sIn _ _ _ _).mono ?_; rintro e w' ⟨rfl, rfl⟩) | (go_at_call 40; refine (iIn _ _ _ _).mono ?_; rintro e w' ⟨rfl, rfl⟩) | (go_at_call 56; refine (ibakedOk b _).mono ?_; rintro e w' ⟨rfl, rfl⟩) | go_in | (go_end0; simp only []; go_at_K))
    go_ret
    exact Val.mk' (v_int HV.out.symm) (by (repeat (first | exact In.refl _ | assumption | apply In.alloc | apply In.drewN | apply In.drew | (refine In.step ?_ (by assumption)))))
  have hB : ok15 n xs b g d = true := by simp only [planB, ok15, Bool.and_eq_true] at h1 ⊢; exact ⟨⟨⟨h1.1.1, h2⟩, h1.1.2⟩, h1.2⟩
  have HV : Hid (gainV n xs b g d = gainS n xs b g d) := Lib.hid (by rw [gainV, hB]; rfl)
  go_enter Try.func26, Try.ntmps26
  go_wp2_with fail
  refine (icanPlan A n c xs g d _ hn hx).mono ?_
  rintro _ w1 ⟨rfl, hb1⟩
  rw [h1]
  have i1 : In w.heap.size w w1 := In.step (by (repeat (first | exact In.refl _ | assumption | apply In.alloc | apply In.drewN | apply In.drew | (refine In.step ?_ (by assumption))))) hb1
  clear hb1
  have hfp := fieldPlan
  go_wp2_with (first | (go_at_call 56; refine (ibakedOk b _).mono ?_; rintro e w' ⟨rfl, rfl⟩) | (go_at_call 54; refine (iplanFor A n c g d _).mono ?_; rintro e w2 ⟨rfl, hb2, c1, c2, c3⟩))
  have i2 : In w.heap.size w w2 := In.step (by (repeat (first | exact In.refl _ | assumption | apply In.alloc | apply In.drewN | apply In.drew | (refine In.step ?_ (by assumption))))) hb2
  clear hb2 i1
  refine (iplan A n c xs b g d _ _ _ _ hB (hx.in_ i2) c1 c2 c3).mono ?_
  rintro e w3 ⟨rfl, hb3⟩
  go_wp2
  go_ret
  exact Val.mk' (v_int HV.out.symm) (by (repeat (first | exact In.refl _ | assumption | apply In.alloc | apply In.drewN | apply In.drew | (refine In.step ?_ (by assumption)))))
end Go.Proofs.Ytkaaebpoljnbnaa
