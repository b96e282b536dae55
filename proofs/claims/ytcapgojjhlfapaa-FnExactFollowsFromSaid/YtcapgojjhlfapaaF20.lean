/- Chapter 20: FollowsFrom. -/
import Derived.Test.YtcapgojjhlfapaaD20
namespace Go.Proofs.Ytcapgojjhlfapaa
open Go.ChangeShapes Go.WideShapes Go.ChangeAt Go.RowKit
set_option linter.unusedVariables false
set_option linter.unusedSimpArgs false
set_option maxHeartbeats 2000000

def pairOf (a b : Int) : List Int := if a = b then [a] else if a < b then [a, b] else [b, a]
def folV (n : Nat) (xs : List BasketR) (a b p : Int) : Bool :=
  if bsB n xs && (inB a 1 9 && (inB b 1 9 && inB p 0 100)) then decide (0 < cntTo (hasI xs [a] 1) n) && decide (p * cntTo (hasI xs [a] 1) n ≤ 100 * cntTo (hasI xs [a, b] 2) n) else false
theorem hasAll_two (bs : List Int) (a b : Int) : hasAllB bs [a, b] 2 = (hasN bs a && hasN bs b) := by simp [hasAllB, allOk]
theorem hasAll_one (bs : List Int) (a : Int) : hasAllB bs [a] 1 = hasN bs a := by simp [hasAllB, allOk]
theorem cnt_pair (xs : List BasketR) (a b : Int) (n : Nat) : cntTo (hasI xs (pairOf a b) (pairOf a b).length) n = cntTo (hasI xs [a, b] 2) n := by
  apply cntTo_congr
  intro i _
  unfold hasI pairOf
  by_cases h : a = b
  · subst h
    rw [if_pos rfl]
    show hasAllB _ [a] 1 = _
    rw [hasAll_one, hasAll_two, Bool.and_self]
  · rw [if_neg h]
    split
    · rfl
    · show hasAllB _ [b, a] 2 = _
      rw [hasAll_two, hasAll_two, Bool.and_comm]
theorem ris_pair {a b : Int} (ha : 1 ≤ a ∧ a ≤ 9) (hb : 1 ≤ b ∧ b ≤ 9) : risB (pairOf a b) 1 9 (pairOf a b).length = true := by
  have e1 : ∀ x : Int, 1 ≤ x ∧ x ≤ 9 → inB x 1 9 = true := fun x h => inB_t h
  unfold pairOf
  by_cases h : a = b
  · rw [if_pos h]
    simp [risB, allOk, risAt, inAt, prevLt, e1 a ha]
  · rw [if_neg h]
    split
    · rename_i hl
      simp [risB, allOk, risAt, inAt, prevLt, e1 a ha, e1 b hb, hl]
    · rename_i hl
      simp [risB, allOk, risAt, inAt, prevLt, e1 a ha, e1 b hb]
      omega
theorem cntV_ok {n : Nat} {xs : List BasketR} {ts : List Int} (h1 : bsB n xs = true) (h2 : risB ts 1 9 ts.length = true) : cntV n xs ts.length ts = cntTo (hasI xs ts ts.length) n := by
  rw [cntV, h1, h2]; rfl
theorem zeroI20 (w : World) : (zeroValue 3).run Try.prog w = .ok (.int .i64 0) w := by kernel_rfl
theorem clr1 (g : Nat) (W : World) (v : Value) (c1 : W.cell? ⟨g, 1, none⟩ = some v) (z1 : W.frozen? ⟨g, 1, none⟩ = false) :
    Sem.run Try.prog (Builtin.clear_ #[29] 0 #[.slice (some ⟨g, 1, none⟩) 1 1]) W = .ok (.tuple #[]) (W.setCell ⟨g, 1, none⟩ (.int .i64 0)) := by
  have hz := zeroI20 W
  simp [Builtin.clear_, go_sem, Try.underlying29, run_underlying Try.underlying29, hz, c1, z1]
  rw [show (Builtin.zeroCells #[Value.int .i64 0] 1).toList = [Value.int .i64 0] from by simp [Builtin.zeroCells]]
  simp [storeCells, go_sem, c1, z1, Result.andThen, Value.oneCell']
/-- two numbers made compact -/
theorem iCompact2 (g : Nat) (a b : Int) (w0 : World) (hg : g = w0.heap.size) :
    Calls Try.prog 47 #[.slice (some ⟨g, 0, none⟩) 2 2] (w0.alloc (.cells #[.int .i64 a, .int .i64 b] 3)) (fun e w' => ∃ A c, e = .returned (.slice A (if a = b then 1 else 2) c) ∧ ReadsI w' A (if a = b then 1 else 2) (if a = b then [a] else [a, b]) ∧ Below w0.heap.size w0 w') := by
  have k0 : Blk (w0.alloc (.cells #[.int .i64 a, .int .i64 b] 3)) g 3 #[.int .i64 a, .int .i64 b] := Blk.new' hg
  have i0 : In w0.heap.size w0 (w0.alloc (.cells #[.int .i64 a, .int .i64 b] 3)) := by (repeat (first | exact In.refl _ | assumption | apply In.alloc | apply In.drewN | apply In.drew | (refine In.step ?_ (by assumption))))
  have hgw : w0.heap.size ≤ g := by omega
  generalize (w0.alloc (.cells #[.int .i64 a, .int .i64 b] 3)) = w at *
  have c0 := k0.cell 0
  have c1 := k0.cell 1
  have z1 := k0.frozen 1
  simp at c0 c1
  clear hg
  by_cases h : a = b
  · subst h
    simp only [if_true]
    have HCLR : Hid (∀ q, Sem.run Try.prog (Builtin.clear_ #[29] 0 #[.slice (some ⟨g, 1, none⟩) 1 1]) (w.drewN q) = .ok (.tuple #[]) ((w.drewN q).setCell ⟨g, 1, none⟩ (.int .i64 0))) := Lib.hid fun q => clr1 g (w.drewN q) _ (by simpa using c1) (by simpa using z1)
    go_enter Try.func47, Try.ntmps47
    go_wp2
    refine wp_loop_rounds 2 ?_
    rw [rounds_succ]
    go_wp2
    go_quiet (fail)
    go_wp2
    refine wp_loop_rounds 1 ?_
    rw [rounds_succ]
    go_wp2
    rw [HCLR.out]
    go_wp2
    go_ret
    have kf := (k0.drewN nq).set_ 1 (.int .i64 0)
    have i9 : In w0.heap.size w0 ((w.drewN nq).setCell ⟨g, 1, none⟩ (.int .i64 0)) := (i0.drewN nq).set_ (p := ⟨g, 1, none⟩) hgw _
    refine ⟨_, _, rfl, ⟨rfl, fun i hi => ⟨_, rfl, ?_⟩⟩, i9.below⟩
    obtain rfl : i = 0 := by omega
    have hk := kf.cell 0
    simpa [Addr.add_lit] using hk
  · simp only [if_neg h]
    go_enter Try.func47, Try.ntmps47
    go_wp2
    refine wp_loop_rounds 2 ?_
    rw [rounds_succ]
    go_wp2
    go_quiet (fail)
    go_wp2
    rw [rounds_succ]
    go_wp2
    go_ret
    refine ⟨_, _, rfl, ⟨rfl, fun i hi => ⟨_, rfl, ?_⟩⟩, (by (repeat (first | exact In.refl _ | assumption | apply In.alloc | apply In.drewN | apply In.drew | (refine In.step ?_ (by assumption)))) : In w0.heap.size w0 _).below⟩
    rcases (by omega : i = 0 ∨ i = 1) with rfl | rfl
    · simpa [Addr.add_lit] using c0
    · simpa [Addr.add_lit] using c1
set_option maxHeartbeats 4000000 in
theorem sFollowsFrom (A : Option Addr) (n c : Nat) (xs : List BasketR) (a b p : Int) (w : World) (hn : n ≤ maxLen) (hx : ReadsBasket w A n xs) : Calls Try.prog 28 #[.slice A n c, .int .i64 a, .int .i64 b, .int .i64 p] w (Val (.bool (folV n xs a b p)) w) := by
  have HV : Hid (folV n xs a b p = if bsB n xs && (inB a 1 9 && (inB b 1 9 && inB p 0 100)) then decide (0 < cntTo (hasI xs [a] 1) n) && decide (p * cntTo (hasI xs [a] 1) n ≤ 100 * cntTo (hasI xs [a, b] 2) n) else false) := Lib.hid rfl
  have HXX := Lib.hid hx
  go_enter Try.func28, Try.ntmps28
  go_wp2_with fail
  refine (sBasketsOk A n c xs _ hn hx).mono ?_
  rintro _ w1 ⟨rfl, hb1⟩
  have i1 : In w.heap.size w w1 := by (repeat (first | exact In.refl _ | assumption | apply In.alloc | apply In.drewN | apply In.drew | (refine In.step ?_ (by assumption))))
  clear hx hb1
  cases h1 : bsB n xs
  · go_wp2
    go_ret
    exact Val.mk' (v_bool (by rw [HV.out, h1]; simp)) (by (repeat (first | exact In.refl _ | assumption | apply In.alloc | apply In.drewN | apply In.drew | (refine In.step ?_ (by assumption)))))
  go_wp2_with fail
  refine (sIn a 1 9 _).mono ?_
  rintro _ _ ⟨rfl, rfl⟩
  cases h2 : inB a 1 9
  · go_wp2
    go_ret
    exact Val.mk' (v_bool (by rw [HV.out, h1, h2]; simp)) (by (repeat (first | exact In.refl _ | assumption | apply In.alloc | apply In.drewN | apply In.drew | (refine In.step ?_ (by assumption)))))
  go_wp2_with fail
  refine (sIn b 1 9 _).mono ?_
  rintro _ _ ⟨rfl, rfl⟩
  cases h3 : inB b 1 9
  · go_wp2
    go_ret
    exact Val.mk' (v_bool (by rw [HV.out, h1, h2, h3]; simp)) (by (repeat (first | exact In.refl _ | assumption | apply In.alloc | apply In.drewN | apply In.drew | (refine In.step ?_ (by assumption)))))
  go_wp2_with fail
  refine (sIn p 0 100 _).mono ?_
  rintro _ _ ⟨rfl, rfl⟩
  cases h4 : inB p 0 100
  · go_wp2
    go_ret
    exact Val.mk' (v_bool (by rw [HV.out, h1, h2, h3, h4]; simp)) (by (repeat (first | exact In.refl _ | assumption | apply In.alloc | apply In.drewN | apply In.drew | (refine In.step ?_ (by assumption)))))
  have hn30 := (bsB_at h1).1
  have HOK := Lib.hid (bsB_at h1).2
  have ha := inB_tt h2
  have hb := inB_tt h3
  have hp := inB_tt h4
  obtain ⟨X, rfl⟩ : ∃ X : Nat, a = (X : Int) := ⟨a.toNat, by omega⟩
  obtain ⟨Y, rfl⟩ : ∃ Y : Nat, b = (Y : Int) := ⟨b.toNat, by omega⟩
  have HE : Hid (folV n xs X Y p = (decide (0 < cntTo (hasI xs [(X : Int)] 1) n) && decide (p * cntTo (hasI xs [(X : Int)] 1) n ≤ 100 * cntTo (hasI xs [(X : Int), (Y : Int)] 2) n))) := Lib.hid (by rw [HV.out, h1, h2, h3, h4]; rfl)
  have hx10 : 2 ^ X < 1024 := Nat.pow_lt_pow_right (n := 10) (by decide) (by omega)
  have hy10 : 2 ^ Y < 1024 := Nat.pow_lt_pow_right (n := 10) (by decide) (by omega)
  have e1 : cntTo (setI xs (2 ^ X)) n = cntTo (hasI xs [(X : Int)] 1) n := by
    rw [← setI_has (ts := [(X : Int)]) (m := 1) HOK.out (fun i hi => by obtain rfl : i = 0 := by omega
                                                                        simp; omega)]
    simp [setN]
  have e2 : cntTo (setI xs (2 ^ X ||| 2 ^ Y)) n = cntTo (hasI xs [(X : Int), (Y : Int)] 2) n := by
    rw [← setI_has (ts := [(X : Int), (Y : Int)]) (m := 2) HOK.out (fun i hi => by rcases (by omega : i = 0 ∨ i = 1) with rfl | rfl <;> simp <;> omega)]
    simp [setN]
  have hor := Nat.or_lt_two_pow (n := 10) hx10 hy10
  have hbo := bits_orN hx10 hy10
  have hq64 : ∀ P : Nat, P < 1024 → wrap64 (P : Int) = P := fun P h => w64 (by omega)
  have hwr : ∀ z, IntKind.i64.wrap z = wrap64 z := fun z => by rw [IntWalk.i64_left]
  have HWX : wrap64 ((2 : Int) ^ X) = ((2 ^ X : Nat) : Int) := by
    rw [show ((2 : Int) ^ X) = ((2 ^ X : Nat) : Int) from (Int.natCast_pow 2 X).symm]; exact hq64 _ hx10
  have HWY : wrap64 ((2 : Int) ^ Y) = ((2 ^ Y : Nat) : Int) := by
    rw [show ((2 : Int) ^ Y) = ((2 ^ Y : Nat) : Int) from (Int.natCast_pow 2 Y).symm]; exact hq64 _ hy10
  have hc1 := cntTo_in (hasI xs [(X : Int)] 1) n
  have hc2 := cntTo_in (hasI xs [(X : Int), (Y : Int)] 2) n
  have HC1 : Hid (∀ W, In w.heap.size w W → Calls Try.prog 37 #[.slice A n c, .int .i64 (wrap64 ((2 : Int) ^ X))] W (Val (.int .i64 (cntTo (hasI xs [(X : Int)] 1) n)) W)) := Lib.hid fun W h => by
    rw [HWX, ← e1]; exact sCount A n c xs _ W hn hx10 HOK.out (HXX.out.in_ h)
  have HC2 : Hid (∀ W, In w.heap.size w W → Calls Try.prog 37 #[.slice A n c, .int .i64 (bits .or .i64 (IntKind.i64.wrap ((2 : Int) ^ X)) (IntKind.i64.wrap ((2 : Int) ^ Y)))] W (Val (.int .i64 (cntTo (hasI xs [(X : Int), (Y : Int)] 2) n)) W)) := Lib.hid fun W h => by
    rw [hwr, hwr, HWX, HWY, hbo, ← e2]; exact sCount A n c xs _ W hn hor HOK.out (HXX.out.in_ h)
  generalize cntTo (hasI xs [(X : Int)] 1) n = N at *
  generalize cntTo (hasI xs [(X : Int), (Y : Int)] 2) n = M at *
  clear hwr hq64 e1 e2 hor hbo HWX HWY hx10 hy10 h1 h2 h3 h4 HV
  go_wp2_with fail
  refine (HC1.out _ i1).mono ?_
  rintro _ w2 ⟨rfl, hb2⟩
  have i2 := i1.step hb2
  clear hb2 i1 HC1
  by_cases hN : 0 < N
  · have m1 := mul_in (a := p) (b := N) (A := 100) (B := 30) (by omega) (by omega) (by omega) (by omega)
    have wa : IntKind.i64.wrap (p * N) = p * N := IntWalk.i64_in _ (by omega)
    have wb : IntKind.i64.wrap (100 * M) = 100 * M := IntWalk.i64_in _ (by omega)
    have wc : wrap64 (p * N) = p * N := w64 (by omega)
    go_wp2
    refine wp_region_S (C := (fun w' => In w.heap.size w w')) (by kernel_rfl) (by kernel_rfl) ?_ ?_
    · exact i2.drew
    repeat (first | go_big_quiet_skip | (go_big_quiet_want; first | (refine quiet_ex ?_; apply Exists.intro; refine ⟨fun W hW => ?_, ?_⟩; (· (obtain i3 := hW; go_simp; (first | done | with_reducible rfl | rfl))); simp only [Act.put, List.setIfInBounds_toArray, List.set_cons_zero, List.set_cons_succ]; go_big_quiet_on) | (refine quiet_ex ?_; apply Exists.intro; refine ⟨fun W hW => ?_, ?_⟩; (· (go_simp; first | (go_at_call 37; (with_reducible refine (HC2.out _ hW).mono ?_); rintro e w2 ⟨rfl, hb2⟩; exact ⟨rfl, hW.step hb2⟩))); simp only [Act.put, List.setIfInBounds_toArray, List.set_cons_zero, List.set_cons_succ]; go_big_quiet_on)))
    refine wpQuiet_nil ?_
    rintro w' i3
    go_wp2
    go_ret
    exact Val.mk' (v_bool (by rw [HE.out]; simp [hN])) (by (repeat (first | exact In.refl _ | assumption | apply In.alloc | apply In.drewN | apply In.drew | (refine In.step ?_ (by assumption)))))
  · obtain rfl : N = 0 := by omega
    clear hN
    go_wp2
    go_quiet (fail)
    go_wp2
    go_ret
    exact Val.mk' (v_bool (by rw [HE.out]; simp)) (by (repeat (first | exact In.refl _ | assumption | apply In.alloc | apply In.drewN | apply In.drew | (refine In.step ?_ (by assumption)))))
theorem pairOf_len (a b : Int) : (pairOf a b).length ≤ 2 := by
  unfold pairOf
  split
  · simp
  · split <;> simp
theorem all_two (a b : Int) : allIn [a, b] 1 9 2 = (inB a 1 9 && inB b 1 9) := by simp [allIn, allOk, inAt]
set_option maxHeartbeats 4000000 in
theorem iFollowsFrom (A : Option Addr) (n c : Nat) (xs : List BasketR) (a b p : Int) (w : World) (hn : n ≤ maxLen) (hx : ReadsBasket w A n xs) : Calls Try.prog 29 #[.slice A n c, .int .i64 a, .int .i64 b, .int .i64 p] w (Val (.bool (folV n xs a b p)) w) := by
  have HV : Hid (folV n xs a b p = if bsB n xs && (inB a 1 9 && (inB b 1 9 && inB p 0 100)) then decide (0 < cntTo (hasI xs [a] 1) n) && decide (p * cntTo (hasI xs [a] 1) n ≤ 100 * cntTo (hasI xs [a, b] 2) n) else false) := Lib.hid rfl
  have HXX := Lib.hid hx
  go_enter Try.func29, Try.ntmps29
  go_wp2_with fail
  refine (iBasketsOk A n c xs _ hn hx).mono ?_
  rintro _ w1 ⟨rfl, hb1⟩
  have i1 : In w.heap.size w w1 := by (repeat (first | exact In.refl _ | assumption | apply In.alloc | apply In.drewN | apply In.drew | (refine In.step ?_ (by assumption))))
  clear hx hb1
  cases h1 : bsB n xs
  · go_wp2
    go_ret
    exact Val.mk' (v_bool (by rw [HV.out, h1]; simp)) (by (repeat (first | exact In.refl _ | assumption | apply In.alloc | apply In.drewN | apply In.drew | (refine In.step ?_ (by assumption)))))
  go_wp2_with fail
  refine (iAll _ 2 2 [a, b] 1 9 _ (by unfold maxLen; omega) (by exact reads_at w1 _ #[.int .i64 a, .int .i64 b] [a, b] w1.heap.size rfl rfl)).mono ?_
  rintro _ _ ⟨rfl, rfl⟩
  rw [all_two]
  have i2 : In w.heap.size w (w1.alloc (.cells #[.int .i64 a, .int .i64 b] 3)) := i1.alloc _
  generalize (w1.alloc (.cells #[.int .i64 a, .int .i64 b] 3)) = w2 at *
  clear i1
  cases h2 : inB a 1 9
  · go_wp2
    go_ret
    exact Val.mk' (v_bool (by rw [HV.out, h1, h2]; simp)) (by (repeat (first | exact In.refl _ | assumption | apply In.alloc | apply In.drewN | apply In.drew | (refine In.step ?_ (by assumption)))))
  cases h3 : inB b 1 9
  · go_wp2
    go_ret
    exact Val.mk' (v_bool (by rw [HV.out, h1, h2, h3]; simp)) (by (repeat (first | exact In.refl _ | assumption | apply In.alloc | apply In.drewN | apply In.drew | (refine In.step ?_ (by assumption)))))
  go_wp2_with fail
  refine (iIn p 0 100 _).mono ?_
  rintro _ _ ⟨rfl, rfl⟩
  cases h4 : inB p 0 100
  · go_wp2
    go_ret
    exact Val.mk' (v_bool (by rw [HV.out, h1, h2, h3, h4]; simp)) (by (repeat (first | exact In.refl _ | assumption | apply In.alloc | apply In.drewN | apply In.drew | (refine In.step ?_ (by assumption)))))
  have hbs := h1
  have hn30 := (bsB_at h1).1
  have ha := inB_tt h2
  have hb := inB_tt h3
  have hp := inB_tt h4
  have HE : Hid (folV n xs a b p = (decide (0 < cntTo (hasI xs [a] 1) n) && decide (p * cntTo (hasI xs [a] 1) n ≤ 100 * cntTo (hasI xs [a, b] 2) n))) := Lib.hid (by rw [HV.out, h1, h2, h3, h4]; rfl)
  have r1 : risB [a] 1 9 [a].length = true := by simp [risB, allOk, risAt, inAt, prevLt, h2]
  have e1 : cntV n xs 1 [a] = cntTo (hasI xs [a] 1) n := cntV_ok (ts := [a]) h1 r1
  have e2 : cntV n xs (pairOf a b).length (pairOf a b) = cntTo (hasI xs [a, b] 2) n := by rw [cntV_ok h1 (ris_pair ha hb), cnt_pair]
  have hc1 := cntTo_in (hasI xs [a] 1) n
  have hc2 := cntTo_in (hasI xs [a, b] 2) n
  have HC1 : Hid (∀ W B d, In w.heap.size w W → ReadsI W B 1 [a] → Calls Try.prog 16 #[.slice A n c, .slice B 1 d] W (Val (.int .i64 (cntTo (hasI xs [a] 1) n)) W)) := Lib.hid fun W B d h hr => by
    rw [← e1]; exact iCountWith A n c xs B 1 d [a] W hn (HXX.out.in_ h) (by unfold maxLen; omega) hr
  have HC2 : Hid (∀ W B m d, m = (pairOf a b).length → In w.heap.size w W → ReadsI W B m (pairOf a b) → Calls Try.prog 16 #[.slice A n c, .slice B m d] W (Val (.int .i64 (cntTo (hasI xs [a, b] 2) n)) W)) := Lib.hid fun W B m d hml h hr => by
    rw [← e2]; subst hml; exact iCountWith A n c xs B _ d (pairOf a b) W hn (HXX.out.in_ h) (by have := pairOf_len a b; unfold maxLen; omega) hr
  generalize cntTo (hasI xs [a] 1) n = N at *
  generalize cntTo (hasI xs [a, b] 2) n = M at *
  clear e1 e2 h1 h2 h3 h4 HV r1
  have m1 := mul_in (a := p) (b := N) (A := 100) (B := 30) (by omega) (by omega) (by omega) (by omega)
  have wc : wrap64 (p * N) = p * N := w64 (by omega)
  have hra : ReadsI (w2.alloc (.cells #[.int .i64 a] 3)) (some ⟨w2.heap.size, 0, none⟩) 1 [a] := reads_at w2 _ #[.int .i64 a] [a] w2.heap.size rfl rfl
  go_wp2_with fail
  refine (HC1.out _ _ _ (i2.alloc _) hra).mono ?_
  rintro _ w3 ⟨rfl, hb3⟩
  have i3 : In w.heap.size w w3 := (i2.alloc _).step hb3
  clear hb3 i2 hra HC1
  have step : ∀ x y : Int, (if x = y then [x] else [x, y]) = pairOf a b → (if x = y then 1 else 2) = (pairOf a b).length := fun x y h => by rw [← h]; split <;> rfl
  rcases Int.lt_trichotomy a b with hab | hab | hab
  · have hlt : ¬ b < a := by omega
    have HP : Hid ((if a = b then [a] else [a, b]) = pairOf a b) := Lib.hid (by rw [pairOf, if_neg (by omega), if_neg (by omega), if_pos hab])
    have HL := Lib.hid (step a b HP.out)
    clear step
    go_wp2_with fail
    refine (iCompact2 w3.heap.size a b w3 rfl).mono ?_
    rintro _ w4 ⟨B, d, rfl, hr, hb4⟩
    rw [HP.out] at hr
    have i4 := i3.step hb4
    generalize (if a = b then 1 else 2) = q at *
    go_wp2_with fail
    refine (HC2.out _ _ _ _ HL.out i4 hr).mono ?_
    rintro _ w5 ⟨rfl, hb5⟩
    have i5 := i4.step hb5
    go_wp2
    all_goals go_ret
    all_goals exact Val.mk' (v_bool (by rw [HE.out]; simp; try omega)) (by (repeat (first | exact In.refl _ | assumption | apply In.alloc | apply In.drewN | apply In.drew | (refine In.step ?_ (by assumption)))))
  · subst hab
    have HP : Hid (pairOf a a = [a]) := Lib.hid (by rw [pairOf, if_pos rfl])
    have HL : Hid (1 = (pairOf a a).length) := Lib.hid (by rw [HP.out]; rfl)
    clear step
    go_wp2_with fail
    refine (iCompact2 w3.heap.size a a w3 rfl).mono ?_
    rintro _ w4 ⟨B, d, rfl, hr, hb4⟩
    rw [if_pos rfl, if_pos rfl, ← HP.out] at hr
    rw [if_pos rfl]
    have i4 := i3.step hb4
    go_wp2_with fail
    refine (HC2.out _ _ _ _ HL.out i4 hr).mono ?_
    rintro _ w5 ⟨rfl, hb5⟩
    have i5 := i4.step hb5
    go_wp2
    all_goals go_ret
    all_goals exact Val.mk' (v_bool (by rw [HE.out]; simp; try omega)) (by (repeat (first | exact In.refl _ | assumption | apply In.alloc | apply In.drewN | apply In.drew | (refine In.step ?_ (by assumption)))))
  · have hlt : b < a := by omega
    have HP : Hid ((if b = a then [b] else [b, a]) = pairOf a b) := Lib.hid (by rw [pairOf, if_neg (by omega), if_neg (by omega), if_neg (by omega)])
    have HL := Lib.hid (step b a HP.out)
    clear step
    go_wp2_with fail
    refine (iCompact2 w3.heap.size b a w3 rfl).mono ?_
    rintro _ w4 ⟨B, d, rfl, hr, hb4⟩
    rw [HP.out] at hr
    have i4 := i3.step hb4
    generalize (if b = a then 1 else 2) = q at *
    go_wp2_with fail
    refine (HC2.out _ _ _ _ HL.out i4 hr).mono ?_
    rintro _ w5 ⟨rfl, hb5⟩
    have i5 := i4.step hb5
    go_wp2
    all_goals go_ret
    all_goals exact Val.mk' (v_bool (by rw [HE.out]; simp; try omega)) (by (repeat (first | exact In.refl _ | assumption | apply In.alloc | apply In.drewN | apply In.drew | (refine In.step ?_ (by assumption)))))
end Go.Proofs.Ytcapgojjhlfapaa
