/- Chapter 30: MissingPart, TwiceIn: the contracts. -/
import Derived.Test.YtoljdgmfpebhdaaDoorT30
import Derived.BigQuiet
import Derived.Deep.QuietTactic
namespace Go.Proofs.YtoljdgmfpebhdaaDoor
open Go.ChangeShapes Go.WideShapes Go.ChangeAt Go.RowKit
set_option linter.unusedVariables false
set_option linter.unusedSimpArgs false
set_option maxHeartbeats 2000000

def pOk (a b c f : Int) : Prop := dOk a b c = true ∧ 0 ≤ f ∧ f ≤ 1000000
instance (a b c f : Int) : Decidable (pOk a b c f) := by unfold pOk; exact inferInstance
def partW (a b c f g off : Int) : Int := if pOk a b c f then (if inB g 0 5000000 = true then tl4 (partV f a) (partV f b) (partV f c) off else -1) else -1
def missV (a b c f g : Int) : Int := partW a b c f g (weightV a b c f - g)
def twiceV (a b c f g : Int) : Int := partW a b c f g (g - weightV a b c f)
theorem weight_lo (a b c f : Int) : (pOk a b c f → 0 ≤ weightV a b c f ∧ weightV a b c f ≤ 10000000) ∧ (¬ pOk a b c f → weightV a b c f = -1) := by
  refine ⟨fun h => ?_, fun h => weight_no h⟩
  have hd := d_in h.1
  rw [weight_is h.1 h.2.1 h.2.2]
  have p1 := partV_in (f := f) (p := a) h.2 (by omega)
  have p2 := partV_in (f := f) (p := b) h.2 (by omega)
  have p3 := partV_in (f := f) (p := c) h.2 (by omega)
  have h3 := h.2
  omega
def canB (a b c f g : Int) : Bool := decide (pOk a b c f) && inB g 0 5000000
set_option maxHeartbeats 2000000 in
theorem icanWeigh (a b c f g : Int) (w : World) : Calls Tryd.prog 39 #[.agg #[.int .i64 a, .int .i64 b, .int .i64 c], .int .i64 f, .int .i64 g] w (Val (.bool (canB a b c f g)) w) := by
  have HW := Lib.hid (fun W => iDoughWeight a b c f W)
  obtain ⟨q1, q2⟩ := weight_lo a b c f
  generalize weightV a b c f = v at *
  have i0 : In w.heap.size w (w.alloc (.cells #[.int .i64 a, .int .i64 b, .int .i64 c] 34)) := (In.refl w).alloc _
  by_cases hp : pOk a b c f
  · have hq := q1 hp
    have HV := Lib.hid (show canB a b c f g = inB g 0 5000000 by unfold canB; rw [decide_eq_true hp]; rfl)
    clear q1 q2
    go_enter Tryd.func39, Tryd.ntmps39
    go_wp2_with fail
    refine (HW.out _).mono ?_
    rintro _ w1 ⟨rfl, hb1⟩
    have i1 := i0.step hb1
    clear hb1
    go_wp2_with (first | (go_at_call 30; refine (sIn _ _ _ _).mono ?_; rintro e w' ⟨rfl, rfl⟩) | (go_at_call 37; refine (iIn _ _ _ _).mono ?_; rintro e w' ⟨rfl, rfl⟩))
    go_ret
    exact Val.mk' (by rw [HV.out]; rfl) i1
  · have hq := q2 hp
    have HV := Lib.hid (show canB a b c f g = false by unfold canB; rw [decide_eq_false hp]; rfl)
    clear q1 q2
    subst hq
    go_enter Tryd.func39, Tryd.ntmps39
    go_wp2_with fail
    refine (HW.out _).mono ?_
    rintro _ w1 ⟨rfl, hb1⟩
    have i1 := i0.step hb1
    clear hb1
    go_wp2
    go_ret
    exact Val.mk' (by rw [HV.out]; rfl) i1
set_option maxHeartbeats 4000000 in
set_option maxRecDepth 20000 in
theorem iMissingPart (a b c f g : Int) (w : World) (hg : HasErrT w) : Calls Tryd.prog 21 #[.agg #[.int .i64 a, .int .i64 b, .int .i64 c], .int .i64 f, .int .i64 g] w (Val (i64 (missV a b c f g)) w) := by
  have HG := Lib.hid hg
  clear hg
  have HW := Lib.hid (fun W => iDoughWeight a b c f W)
  have HC := Lib.hid (fun W => icanWeigh a b c f g W)
  have hwl := (weight_lo a b c f).1
  have hvv : missV a b c f g = partW a b c f g (weightV a b c f - g) := rfl
  generalize weightV a b c f = v at *
  have i0 : In w.heap.size w (w.alloc (.cells #[.int .i64 a, .int .i64 b, .int .i64 c] 34)) := (In.refl w).alloc _
  have k0 : Blk (w.alloc (.cells #[.int .i64 a, .int .i64 b, .int .i64 c] 34)) w.heap.size 34 #[.int .i64 a, .int .i64 b, .int .i64 c] := Blk.new w _ _
  by_cases hc : pOk a b c f ∧ inB g 0 5000000 = true
  · have hcb : canB a b c f g = true := by unfold canB; rw [decide_eq_true hc.1, hc.2]; rfl
    rw [hcb] at HC
    have HV := Lib.hid (show missV a b c f g = tl4 (partV f a) (partV f b) (partV f c) (v - g) by rw [hvv, partW, if_pos hc.1, if_pos hc.2])
    have HA := Lib.hid (fun W h => ianswerFor a b c f (v - g) W h)
    generalize tl4 (partV f a) (partV f b) (partV f c) (v - g) = t at HV HA
    have hv := hwl hc.1
    have hg := inB_tt hc.2
    have W1 : IntKind.i64.wrap (v - g) = v - g := IntWalk.i64_in _ (by omega)
    clear hwl hvv hc hcb hv hg
    go_enter Tryd.func21, Tryd.ntmps21
    go_wp2_with fail
    refine (HC.out _).mono ?_
    rintro _ w1 ⟨rfl, hb1⟩
    have i1 := i0.step hb1
    have k1 := k0.step hb1
    have c0 := k1.cell 0
    have c1 := k1.cell 1
    have c2 := k1.cell 2
    simp at c0 c1 c2
    clear hb1 k1 k0 i0 HC
    go_wp2
    refine wp_region_S (C := (fun w' => In w.heap.size w w' ∧ w'.cell? ⟨w.heap.size, 0, none⟩ = some (.int .i64 a) ∧ w'.cell? ⟨w.heap.size, 1, none⟩ = some (.int .i64 b) ∧ w'.cell? ⟨w.heap.size, 2, none⟩ = some (.int .i64 c))) (by kernel_rfl) (by kernel_rfl) ?_ ?_
    · exact ⟨i1.drew, c0, c1, c2⟩
    repeat (first | go_big_quiet_skip | (go_big_quiet_want; first | (refine quiet_ex ?_; apply Exists.intro; refine ⟨fun W hW => ?_, ?_⟩; (· (obtain ⟨i2, d0, d1, d2⟩ := hW; go_simp; (first | done | with_reducible rfl | rfl))); simp only [Act.put, List.setIfInBounds_toArray, List.set_cons_zero, List.set_cons_succ]; go_big_quiet_on) | (refine quiet_ex ?_; apply Exists.intro; refine ⟨fun W hW => ?_, ?_⟩; (· (go_simp; first | (go_at_call 41; (with_reducible refine (HW.out _).mono ?_); rintro e w2 ⟨rfl, hb2⟩; exact ⟨rfl, hW.1.step hb2, cell_in hW.2.1 ⟨hb2, hb2.size⟩, cell_in hW.2.2.1 ⟨hb2, hb2.size⟩, cell_in hW.2.2.2 ⟨hb2, hb2.size⟩⟩) | (go_at_call 40; (with_reducible refine (HA.out _ (HG.out.in_ hW.1)).mono ?_); rintro e w2 ⟨rfl, hb2⟩; exact ⟨rfl, hW.1.step hb2, cell_in hW.2.1 ⟨hb2, hb2.size⟩, cell_in hW.2.2.1 ⟨hb2, hb2.size⟩, cell_in hW.2.2.2 ⟨hb2, hb2.size⟩⟩))); simp only [Act.put, List.setIfInBounds_toArray, List.set_cons_zero, List.set_cons_succ]; go_big_quiet_on)))
    refine wpQuiet_nil ?_
    rintro w' ⟨i2, d0, d1, d2⟩
    go_wp2
    go_ret
    exact Val.mk' (v_int HV.out.symm) i2
  · have hcb : canB a b c f g = false := by
      unfold canB
      by_cases hp : pOk a b c f
      · rw [decide_eq_true hp]
        have : ¬ inB g 0 5000000 = true := fun e => hc ⟨hp, e⟩
        simpa using this
      · rw [decide_eq_false hp]; rfl
    rw [hcb] at HC
    have HV := Lib.hid (show missV a b c f g = -1 by
      rw [hvv, partW]
      by_cases hp : pOk a b c f
      · rw [if_pos hp, if_neg (fun e => hc ⟨hp, e⟩)]
      · rw [if_neg hp])
    clear hwl hvv hc hcb
    go_enter Tryd.func21, Tryd.ntmps21
    go_wp2_with fail
    refine (HC.out _).mono ?_
    rintro _ w1 ⟨rfl, hb1⟩
    have i1 := i0.step hb1
    go_wp2
    go_ret
    exact Val.mk' (v_int HV.out.symm) i1
set_option maxHeartbeats 4000000 in
set_option maxRecDepth 20000 in
theorem iTwiceIn (a b c f g : Int) (w : World) (hg : HasErrT w) : Calls Tryd.prog 23 #[.agg #[.int .i64 a, .int .i64 b, .int .i64 c], .int .i64 f, .int .i64 g] w (Val (i64 (twiceV a b c f g)) w) := by
  have HG := Lib.hid hg
  clear hg
  have HW := Lib.hid (fun W => iDoughWeight a b c f W)
  have HC := Lib.hid (fun W => icanWeigh a b c f g W)
  have hwl := (weight_lo a b c f).1
  have hvv : twiceV a b c f g = partW a b c f g (g - weightV a b c f) := rfl
  generalize weightV a b c f = v at *
  have i0 : In w.heap.size w (w.alloc (.cells #[.int .i64 a, .int .i64 b, .int .i64 c] 34)) := (In.refl w).alloc _
  have k0 : Blk (w.alloc (.cells #[.int .i64 a, .int .i64 b, .int .i64 c] 34)) w.heap.size 34 #[.int .i64 a, .int .i64 b, .int .i64 c] := Blk.new w _ _
  by_cases hc : pOk a b c f ∧ inB g 0 5000000 = true
  · have hcb : canB a b c f g = true := by unfold canB; rw [decide_eq_true hc.1, hc.2]; rfl
    rw [hcb] at HC
    have HV := Lib.hid (show twiceV a b c f g = tl4 (partV f a) (partV f b) (partV f c) (g - v) by rw [hvv, partW, if_pos hc.1, if_pos hc.2])
    have HA := Lib.hid (fun W h => ianswerFor a b c f (g - v) W h)
    generalize tl4 (partV f a) (partV f b) (partV f c) (g - v) = t at HV HA
    have hv := hwl hc.1
    have hg := inB_tt hc.2
    have W1 : IntKind.i64.wrap (g - v) = g - v := IntWalk.i64_in _ (by omega)
    clear hwl hvv hc hcb hv hg
    go_enter Tryd.func23, Tryd.ntmps23
    go_wp2_with fail
    refine (HC.out _).mono ?_
    rintro _ w1 ⟨rfl, hb1⟩
    have i1 := i0.step hb1
    have k1 := k0.step hb1
    have c0 := k1.cell 0
    have c1 := k1.cell 1
    have c2 := k1.cell 2
    simp at c0 c1 c2
    clear hb1 k1 k0 i0 HC
    go_wp2
    refine wp_region_S (C := (fun w' => In w.heap.size w w' ∧ w'.cell? ⟨w.heap.size, 0, none⟩ = some (.int .i64 a) ∧ w'.cell? ⟨w.heap.size, 1, none⟩ = some (.int .i64 b) ∧ w'.cell? ⟨w.heap.size, 2, none⟩ = some (.int .i64 c))) (by kernel_rfl) (by kernel_rfl) ?_ ?_
    · exact ⟨i1.drew, c0, c1, c2⟩
    repeat (first | go_big_quiet_skip | (go_big_quiet_want; first | (refine quiet_ex ?_; apply Exists.intro; refine ⟨fun W hW => ?_, ?_⟩; (· (obtain ⟨i2, d0, d1, d2⟩ := hW; go_simp; (first | done | with_reducible rfl | rfl))); simp only [Act.put, List.setIfInBounds_toArray, List.set_cons_zero, List.set_cons_succ]; go_big_quiet_on) | (refine quiet_ex ?_; apply Exists.intro; refine ⟨fun W hW => ?_, ?_⟩; (· (go_simp; first | (go_at_call 41; (with_reducible refine (HW.out _).mono ?_); rintro e w2 ⟨rfl, hb2⟩; exact ⟨rfl, hW.1.step hb2, cell_in hW.2.1 ⟨hb2, hb2.size⟩, cell_in hW.2.2.1 ⟨hb2, hb2.size⟩, cell_in hW.2.2.2 ⟨hb2, hb2.size⟩⟩) | (go_at_call 40; (with_reducible refine (HA.out _ (HG.out.in_ hW.1)).mono ?_); rintro e w2 ⟨rfl, hb2⟩; exact ⟨rfl, hW.1.step hb2, cell_in hW.2.1 ⟨hb2, hb2.size⟩, cell_in hW.2.2.1 ⟨hb2, hb2.size⟩, cell_in hW.2.2.2 ⟨hb2, hb2.size⟩⟩))); simp only [Act.put, List.setIfInBounds_toArray, List.set_cons_zero, List.set_cons_succ]; go_big_quiet_on)))
    refine wpQuiet_nil ?_
    rintro w' ⟨i2, d0, d1, d2⟩
    go_wp2
    go_ret
    exact Val.mk' (v_int HV.out.symm) i2
  · have hcb : canB a b c f g = false := by
      unfold canB
      by_cases hp : pOk a b c f
      · rw [decide_eq_true hp]
        have : ¬ inB g 0 5000000 = true := fun e => hc ⟨hp, e⟩
        simpa using this
      · rw [decide_eq_false hp]; rfl
    rw [hcb] at HC
    have HV := Lib.hid (show twiceV a b c f g = -1 by
      rw [hvv, partW]
      by_cases hp : pOk a b c f
      · rw [if_pos hp, if_neg (fun e => hc ⟨hp, e⟩)]
      · rw [if_neg hp])
    clear hwl hvv hc hcb
    go_enter Tryd.func23, Tryd.ntmps23
    go_wp2_with fail
    refine (HC.out _).mono ?_
    rintro _ w1 ⟨rfl, hb1⟩
    have i1 := i0.step hb1
    go_wp2
    go_ret
    exact Val.mk' (v_int HV.out.symm) i1
theorem samounts_c {a b c f : Int} (h : pOk a b c f) (W : World) :
    Calls Tryd.prog 25 #[.agg #[.int .i64 a, .int .i64 b, .int .i64 c], .int .i64 f] W (fun e w' => ∃ g, e = .returned (.slice (some ⟨g, 0, none⟩) 4 4) ∧ Below W.heap.size W w' ∧ ReadsI w' (some ⟨g, 0, none⟩) 4 (amtV a b c f) ∧ w'.cell? ⟨g, 1, none⟩ = some (.int .i64 (partV f a)) ∧ w'.cell? ⟨g, 2, none⟩ = some (.int .i64 (partV f b)) ∧ w'.cell? ⟨g, 3, none⟩ = some (.int .i64 (partV f c))) := by
  refine (sAmounts_yes a b c f h.1 h.2.1 h.2.2 W).mono ?_
  rintro e w' ⟨g, rfl, ho, hb⟩
  have R := cellsR4 ho
  exact ⟨g, rfl, hb, reads_own ho, R.2.1, R.2.2.1, R.2.2.2⟩
set_option maxHeartbeats 8000000 in
set_option maxRecDepth 20000 in
theorem sPart (a b c f g sg : Int) (hs : sg = 1 ∨ sg = -1) (w : World) : Calls Tryd.prog 38 #[.agg #[.int .i64 a, .int .i64 b, .int .i64 c], .int .i64 f, .int .i64 g, .int .i64 sg] w (Val (i64 (partW a b c f g ((g - weightV a b c f) * sg))) w) := by
  have i0 : In w.heap.size w (w.alloc (.cells #[.int .i64 a, .int .i64 b, .int .i64 c] 34)) := (In.refl w).alloc _
  by_cases hp : pOk a b c f
  · have HA := Lib.hid (fun W => samounts_c hp W)
    have HSM := Lib.hid (fun A W hx => sSum A 4 4 (amtV a b c f) W (by omega) hx (fun i hi => by have := amt_in hp.1 hp.2 i hi; omega))
    rw [← weight_yes hp.1 hp.2.1 hp.2.2] at HSM
    have hvl := (weight_lo a b c f).1 hp
    cases hin : inB g 0 5000000
    · have HV := Lib.hid (show partW a b c f g ((g - weightV a b c f) * sg) = -1 by rw [partW, if_pos hp, if_neg (by rw [hin]; simp)])
      generalize weightV a b c f = v at *
      clear HSM hvl
      go_enter Tryd.func38, Tryd.ntmps38
      go_wp2_with fail
      refine (HA.out _).mono ?_
      rintro _ w1 ⟨q, rfl, hb1, rd, c1, c2, c3⟩
      have i1 := i0.step hb1
      go_wp2_with (first | (go_at_call 30; refine (sIn _ _ _ _).mono ?_; rintro e w' ⟨rfl, rfl⟩) | (go_at_call 37; refine (iIn _ _ _ _).mono ?_; rintro e w' ⟨rfl, rfl⟩))
      go_ret
      exact Val.mk' (v_int HV.out.symm) i1
    · have hV0 : partW a b c f g ((g - weightV a b c f) * sg) = tl4 (partV f a) (partV f b) (partV f c) ((g - weightV a b c f) * sg) := by rw [partW, if_pos hp, if_pos hin]
      have hgr := inB_tt hin
      generalize weightV a b c f = v at *
      generalize partV f a = x at *
      generalize partV f b = y at *
      generalize partV f c = z at *
      obtain ⟨n, hn⟩ : ∃ n, (g - v) * sg = n := ⟨_, rfl⟩
      have W1 : wrap64 (g - v) = g - v := w64 ⟨by omega, by omega⟩
      have W2 : wrap64 ((g - v) * sg) = n := by rw [hn]; rcases hs with rfl | rfl <;> exact w64 ⟨by omega, by omega⟩
      rw [hn] at hV0 ⊢
      generalize partW a b c f g n = R at hV0 ⊢
      clear hn hs
      have H0 := Lib.hid hV0
      clear hV0
      go_enter Tryd.func38, Tryd.ntmps38
      go_wp2_with fail
      refine (HA.out _).mono ?_
      rintro _ w1 ⟨q, rfl, hb1, rd, c1, c2, c3⟩
      have i1 := i0.step hb1
      have RD := Lib.hid rd
      clear rd hb1 i0
      go_wp2_with (first | (go_at_call 30; refine (sIn _ _ _ _).mono ?_; rintro e w' ⟨rfl, rfl⟩) | (go_at_call 37; refine (iIn _ _ _ _).mono ?_; rintro e w' ⟨rfl, rfl⟩))
      refine (HSM.out _ _ RD.out).mono ?_
      rintro _ w2 ⟨rfl, hb2⟩
      have i2 := i1.step hb2
      have e1 := cell_in c1 ⟨hb2, hb2.size⟩
      have e2 := cell_in c2 ⟨hb2, hb2.size⟩
      have e3 := cell_in c3 ⟨hb2, hb2.size⟩
      clear c1 c2 c3 hb2 i1 RD
      by_cases h0 : n = 0
      · have HV := Lib.hid (H0.out.trans (show tl4 x y z n = 0 from if_pos h0))
        subst h0
        go_wp2
        go_ret
        exact Val.mk' (v_int HV.out.symm) i2
      have h0' : ¬ (0 : Int) = n := fun e => h0 e.symm
      have HL : Hid (R = if x = n then 1 else if y = n then 2 else if z = n then 3 else 4) := Lib.hid (by rw [H0.out, tl4, if_neg h0])
      clear H0
      go_wp2
      refine wp_loop_rounds 4 ?_
      rw [rounds_succ]
      by_cases h1 : x = n
      · have HV := Lib.hid (show R = 1 by rw [HL.out, if_pos h1])
        subst h1
        have n1 : (x != 0) = true := by simpa using h0
        go_wp2
        go_ret
        exact Val.mk' (v_int HV.out.symm) i2
      have m1 : (n == x) = false := by simp; omega
      cases z1 : (x != 0 : Bool)
      · skip
        go_wp2
        rw [rounds_succ]
        by_cases h2 : y = n
        · have HV := Lib.hid (show R = 2 by rw [HL.out, if_neg h1, if_pos h2])
          subst h2
          have n2 : (y != 0) = true := by simpa using h0
          go_wp2
          go_ret
          exact Val.mk' (v_int HV.out.symm) i2
        have m2 : (n == y) = false := by simp; omega
        cases z2 : (y != 0 : Bool)
        · skip
          go_wp2
          rw [rounds_succ]
          by_cases h3 : z = n
          · have HV := Lib.hid (show R = 3 by rw [HL.out, if_neg h1, if_neg h2, if_pos h3])
            subst h3
            have n3 : (z != 0) = true := by simpa using h0
            go_wp2
            go_ret
            exact Val.mk' (v_int HV.out.symm) i2
          have m3 : (n == z) = false := by simp; omega
          cases z3 : (z != 0 : Bool)
          · skip
            go_wp2
            rw [rounds_succ]
            have HV := Lib.hid (show R = 4 by rw [HL.out, if_neg h1, if_neg h2, if_neg h3])
            go_wp2
            go_ret
            exact Val.mk' (v_int HV.out.symm) i2
          · skip
            go_wp2
            rw [rounds_succ]
            have HV := Lib.hid (show R = 4 by rw [HL.out, if_neg h1, if_neg h2, if_neg h3])
            go_wp2
            go_ret
            exact Val.mk' (v_int HV.out.symm) i2
        · skip
          go_wp2
          rw [rounds_succ]
          by_cases h3 : z = n
          · have HV := Lib.hid (show R = 3 by rw [HL.out, if_neg h1, if_neg h2, if_pos h3])
            subst h3
            have n3 : (z != 0) = true := by simpa using h0
            go_wp2
            go_ret
            exact Val.mk' (v_int HV.out.symm) i2
          have m3 : (n == z) = false := by simp; omega
          cases z3 : (z != 0 : Bool)
          · skip
            go_wp2
            rw [rounds_succ]
            have HV := Lib.hid (show R = 4 by rw [HL.out, if_neg h1, if_neg h2, if_neg h3])
            go_wp2
            go_ret
            exact Val.mk' (v_int HV.out.symm) i2
          · skip
            go_wp2
            rw [rounds_succ]
            have HV := Lib.hid (show R = 4 by rw [HL.out, if_neg h1, if_neg h2, if_neg h3])
            go_wp2
            go_ret
            exact Val.mk' (v_int HV.out.symm) i2
      · skip
        go_wp2
        rw [rounds_succ]
        by_cases h2 : y = n
        · have HV := Lib.hid (show R = 2 by rw [HL.out, if_neg h1, if_pos h2])
          subst h2
          have n2 : (y != 0) = true := by simpa using h0
          go_wp2
          go_ret
          exact Val.mk' (v_int HV.out.symm) i2
        have m2 : (n == y) = false := by simp; omega
        cases z2 : (y != 0 : Bool)
        · skip
          go_wp2
          rw [rounds_succ]
          by_cases h3 : z = n
          · have HV := Lib.hid (show R = 3 by rw [HL.out, if_neg h1, if_neg h2, if_pos h3])
            subst h3
            have n3 : (z != 0) = true := by simpa using h0
            go_wp2
            go_ret
            exact Val.mk' (v_int HV.out.symm) i2
          have m3 : (n == z) = false := by simp; omega
          cases z3 : (z != 0 : Bool)
          · skip
            go_wp2
            rw [rounds_succ]
            have HV := Lib.hid (show R = 4 by rw [HL.out, if_neg h1, if_neg h2, if_neg h3])
            go_wp2
            go_ret
            exact Val.mk' (v_int HV.out.symm) i2
          · skip
            go_wp2
            rw [rounds_succ]
            have HV := Lib.hid (show R = 4 by rw [HL.out, if_neg h1, if_neg h2, if_neg h3])
            go_wp2
            go_ret
            exact Val.mk' (v_int HV.out.symm) i2
        · skip
          go_wp2
          rw [rounds_succ]
          by_cases h3 : z = n
          · have HV := Lib.hid (show R = 3 by rw [HL.out, if_neg h1, if_neg h2, if_pos h3])
            subst h3
            have n3 : (z != 0) = true := by simpa using h0
            go_wp2
            go_ret
            exact Val.mk' (v_int HV.out.symm) i2
          have m3 : (n == z) = false := by simp; omega
          cases z3 : (z != 0 : Bool)
          · skip
            go_wp2
            rw [rounds_succ]
            have HV := Lib.hid (show R = 4 by rw [HL.out, if_neg h1, if_neg h2, if_neg h3])
            go_wp2
            go_ret
            exact Val.mk' (v_int HV.out.symm) i2
          · skip
            go_wp2
            rw [rounds_succ]
            have HV := Lib.hid (show R = 4 by rw [HL.out, if_neg h1, if_neg h2, if_neg h3])
            go_wp2
            go_ret
            exact Val.mk' (v_int HV.out.symm) i2
  · have HV := Lib.hid (show partW a b c f g ((g - weightV a b c f) * sg) = -1 by rw [partW, if_neg hp])
    have HA := Lib.hid (fun W => sAmounts_no a b c f hp W)
    generalize weightV a b c f = v at *
    clear hs
    go_enter Tryd.func38, Tryd.ntmps38
    go_wp2_with fail
    refine (HA.out _).mono ?_
    rintro _ w1 ⟨q, rfl, _, hb1⟩
    have i1 := i0.step hb1
    simp only [List.length_nil]
    go_wp2
    go_ret
    exact Val.mk' (v_int HV.out.symm) i1
theorem sMissingPart (a b c f g : Int) (w : World) : Calls Tryd.prog 19 #[.agg #[.int .i64 a, .int .i64 b, .int .i64 c], .int .i64 f, .int .i64 g] w (Val (i64 (missV a b c f g)) w) := by
  have HP := Lib.hid (fun W => sPart a b c f g (-1) (by omega) W)
  have e : missV a b c f g = partW a b c f g ((g - weightV a b c f) * (-1)) := by unfold missV; congr 1; omega
  rw [← e] at HP
  generalize missV a b c f g = v at *
  clear e
  have i0 : In w.heap.size w (w.alloc (.cells #[.int .i64 a, .int .i64 b, .int .i64 c] 34)) := (In.refl w).alloc _
  go_enter Tryd.func19, Tryd.ntmps19
  go_wp2_with fail
  refine (HP.out _).mono ?_
  rintro _ w1 ⟨rfl, hb1⟩
  have i1 := i0.step hb1
  go_wp2
  go_ret
  exact Val.mk' rfl i1
theorem sTwiceIn (a b c f g : Int) (w : World) : Calls Tryd.prog 22 #[.agg #[.int .i64 a, .int .i64 b, .int .i64 c], .int .i64 f, .int .i64 g] w (Val (i64 (twiceV a b c f g)) w) := by
  have HP := Lib.hid (fun W => sPart a b c f g 1 (by omega) W)
  have e : twiceV a b c f g = partW a b c f g ((g - weightV a b c f) * 1) := by unfold twiceV; congr 1; omega
  rw [← e] at HP
  generalize twiceV a b c f g = v at *
  clear e
  have i0 : In w.heap.size w (w.alloc (.cells #[.int .i64 a, .int .i64 b, .int .i64 c] 34)) := (In.refl w).alloc _
  go_enter Tryd.func22, Tryd.ntmps22
  go_wp2_with fail
  refine (HP.out _).mono ?_
  rintro _ w1 ⟨rfl, hb1⟩
  have i1 := i0.step hb1
  go_wp2
  go_ret
  exact Val.mk' rfl i1
theorem errT_of {W : World} (h : laidMetH Tryd.prog [("errors.errorType", Rows.laid_errors_errorType)] W) : HasErrT W := handle_of h
end Go.Proofs.YtoljdgmfpebhdaaDoor
