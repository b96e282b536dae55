/- Chapter 16: DayCost. -/
import Derived.Test.YtlilmpclkhmkoadD16
import Derived.Test.YtlilmpclkhmkoadOrd
import Derived.Test.YtlilmpclkhmkoadQuiet
import Derived.Deep.RegionHeld3
import Derived.BigQuiet
import Derived.Deep.QuietTactic
namespace Go.Proofs.Ytlilmpclkhmkoad
open Go.ChangeShapes Go.WideShapes Go.ChangeAt Go.RowKit
set_option linter.unusedVariables false
set_option linter.unusedSimpArgs false

set_option maxHeartbeats 2000000 in
theorem sCleanQ (b a : Int) (w : World) : Calls Try.prog 22 #[.int .i64 b, .int .i64 a] w (Same (i64 (cleanV b a)) w) := by
  cases h1 : inB b 0 255 <;> cases h2 : inB a 0 255
  case true.true =>
    obtain ⟨b1, b2⟩ := inB_tt h1
    obtain ⟨b3, b4⟩ := inB_tt h2
    have HV : Hid (cleanV b a = if hasB a b then 0 else 5 + sumTo (oneG b) 8) := Lib.hid (by simp [cleanV, h1, h2])
    have HH : Hid (hasB a b = decide (bits .or .i64 b a = a)) := Lib.hid (hasB_or' (by omega))
    have HS : Hid (∀ i : Fin 9, 0 ≤ sumTo (oneG b) i.val ∧ sumTo (oneG b) i.val ≤ 8) := Lib.hid (by
      have := ones_in ⟨b.toNat, by omega⟩
      rwa [show ((⟨b.toNat, by omega⟩ : Fin 256).val : Int) = b by simp; omega] at this)
    have H1 : Hid (∀ i : Fin 8, 0 ≤ oneG b i.val ∧ oneG b i.val ≤ 1) := Lib.hid (by
      have := one_in ⟨b.toNat, by omega⟩
      rwa [show ((⟨b.toNat, by omega⟩ : Fin 256).val : Int) = b by simp; omega] at this)
    by_cases g : bits .or .i64 b a = a
    · have g1 : (bits .or .i64 b a == a) = true := by simp [g]
      have HV2 : Hid (cleanV b a = 0) := Lib.hid (by rw [HV.out, HH.out]; simp [g])
      clear HV HH
      go_enter Try.func22, Try.ntmps22
      go_wp2_with (first | (go_at_call 47; refine (sIn _ _ _ _).mono ?_; rintro e w' ⟨rfl, rfl⟩) | (go_at_call 53; refine (iIn _ _ _ _).mono ?_; rintro e w' ⟨rfl, rfl⟩) | go_in | (go_end0; simp only []; go_at_K))
      go_ret
      exact ⟨ret_int HV2.out.symm, rfl⟩
    have g1 : (bits .or .i64 b a == a) = false := by simp [g]
    have HV2 : Hid (cleanV b a = 5 + sumTo (oneG b) 8) := Lib.hid (by rw [HV.out, HH.out]; simp [g])
    clear HV HH
    go_enter Try.func22, Try.ntmps22
    go_wp2_with (first | (go_at_call 47; refine (sIn _ _ _ _).mono ?_; rintro e w' ⟨rfl, rfl⟩) | (go_at_call 53; refine (iIn _ _ _ _).mono ?_; rintro e w' ⟨rfl, rfl⟩) | go_in | (go_end0; simp only []; go_at_K))
    go_loop [5, 6] (fun s i => ∃ k : Nat, k ≤ 8 ∧ i = .int .i64 k ∧ s = .int .i64 (5 + sumTo (oneG b) k)) (fun _ i => 8 - (intOf i).toNat)
    case atStart => exact ⟨0, Nat.zero_le _, rfl, rfl⟩
    case round =>
      obtain ⟨k, hk, rfl, rfl⟩ := hrel
      by_cases hlt : k < 8
      · have HU := Lib.hid (sumTo_succ (oneG b) k)
        have d1 := HS.out ⟨k, by omega⟩
        have d2 := H1.out ⟨k, hlt⟩
        have e1 : bits .and .i64 (b / 2 ^ k) 1 = oneG b k := rfl
        have E1 := Lib.hid e1
        clear e1
        simp only at d1 d2
        go_wp2
        go_round
        case rel => exact ⟨k + 1, by omega, by go_num, v_int (by rw [HU.out]; (try rw [E1.out]); (try rw [w64 (by omega)]); (try omega))⟩
        case measure => simp [intOf]; omega
      · obtain rfl : k = 8 := by omega
        go_wp2
        go_ret
        exact ⟨ret_int HV2.out.symm, rfl⟩
  all_goals
    have HV : Hid (cleanV b a = -1) := Lib.hid (by simp [cleanV, h1, h2])
    go_enter Try.func22, Try.ntmps22
    go_wp2_with (first | (go_at_call 47; refine (sIn _ _ _ _).mono ?_; rintro e w' ⟨rfl, rfl⟩) | (go_at_call 53; refine (iIn _ _ _ _).mono ?_; rintro e w' ⟨rfl, rfl⟩) | go_in | (go_end0; simp only []; go_at_K))
    go_ret
    exact ⟨ret_int HV.out.symm, rfl⟩
theorem held4 {B : Nat} {a w' : World} {p q r s : Addr} {x y z u : Value} (h : In B a w') (k0 : w'.cell? p = some x) (k1 : w'.cell? q = some y) (k2 : w'.cell? r = some z) (k3 : w'.cell? s = some u) :
    In B a w' ∧ w'.cell? p = some x ∧ w'.cell? q = some y ∧ w'.cell? r = some z ∧ w'.cell? s = some u := ⟨h, k0, k1, k2, k3⟩
theorem held4_step {B : Nat} {a w0 w' : World} {p q r s : Addr} {x y z u : Value} (hb : Below w0.heap.size w0 w') (h : In B a w0 ∧ w0.cell? p = some x ∧ w0.cell? q = some y ∧ w0.cell? r = some z ∧ w0.cell? s = some u) :
    In B a w' ∧ w'.cell? p = some x ∧ w'.cell? q = some y ∧ w'.cell? r = some z ∧ w'.cell? s = some u :=
  ⟨h.1.step hb, (hb.cell (cell_lt h.2.1)).trans h.2.1, (hb.cell (cell_lt h.2.2.1)).trans h.2.2.1, (hb.cell (cell_lt h.2.2.2.1)).trans h.2.2.2.1, (hb.cell (cell_lt h.2.2.2.2)).trans h.2.2.2.2⟩
theorem cell_alloc {w : World} {p : Addr} {v : Value} (h : w.cell? p = some v) (o : Obj) : (w.alloc o).cell? p = some v := (((Below.refl _ w).alloc (Nat.le_refl _) o).cell (cell_lt h)).trans h
theorem Seen.drewN {w : World} {g n : Nat} {os : List Int} {k : Nat} (h : Seen w g n os k) (q : Nat) : Seen (w.drewN q) g n os k := by
  obtain ⟨cur, hb, hs, hc⟩ := h
  exact ⟨cur, hb.below (below_drewN (Below.refl _ w) q) hb.lt, hs, hc⟩
def hAt (hs os : List Int) (j : Nat) : Int := hs.getD (os.getD j 0).toNat 0
def dG (hs os : List Int) : Nat → Int
  | 0 => 0
  | k + 1 => cleanV (hAt hs os k) (hAt hs os (k + 1))
def dayV (n : Nat) (hs : List Int) (m : Nat) (os : List Int) : Int := if doughsB n hs 8 && (decide (m = n) && allOk (ordOk n os) m) then sumTo (dG hs os) m else -1
theorem clean_in (b a : Int) : -1 ≤ cleanV b a ∧ cleanV b a ≤ 13 := by
  unfold cleanV
  cases h1 : inB b 0 255 && inB a 0 255
  · simp
  · simp only [Bool.and_eq_true] at h1
    obtain ⟨b1, b2⟩ := inB_tt h1.1
    have := ones_in ⟨b.toNat, by omega⟩ ⟨8, by omega⟩
    rw [show ((⟨b.toNat, by omega⟩ : Fin 256).val : Int) = b by simp; omega] at this
    simp only at this
    cases hasB a b
    · simp only [if_true, if_false, Bool.false_eq_true]; omega
    · simp
theorem dG_in (hs os : List Int) (k : Nat) : -1 ≤ dG hs os k ∧ dG hs os k ≤ 13 := by
  cases k with
  | zero => simp [dG]
  | succ k => exact clean_in _ _
theorem dG_bd (hs os : List Int) (k : Nat) : -(k : Int) ≤ sumTo (dG hs os) k ∧ sumTo (dG hs os) k ≤ 13 * k := by
  induction k with
  | zero => simp [sumTo]
  | succ k ih =>
    have := dG_in hs os k
    rw [sumTo_succ]
    omega
theorem ord_nat {n : Nat} {os : List Int} {k : Nat} (h : ordOk n os k = true) : ∃ t : Nat, os.getD k 0 = t ∧ t < n := by
  simp only [ordOk, Bool.and_eq_true] at h
  have := inB_tt h.1
  exact ⟨(os.getD k 0).toNat, by omega, by omega⟩
set_option maxHeartbeats 4000000 in
theorem sDayCost (A : Option Addr) (n c : Nat) (hs : List Int) (B : Option Addr) (m d : Nat) (os : List Int) (w : World) (hn : n ≤ maxLen) (hx : ReadsI w A n hs) (hm : m ≤ maxLen) (hy : ReadsI w B m os) :
    Calls Try.prog 23 #[.slice A n c, .slice B m d] w (Val (i64 (dayV n hs m os)) w) := by
  obtain ⟨i0, hi0, hz0, hz1, hz2⟩ := info_parts infoB
  cases h1 : doughsB n hs 8
  · have HV : Hid (dayV n hs m os = -1) := Lib.hid (by simp only [dayV, h1]; rfl)
    unfold maxLen at hm hn
    go_enter Try.func23, Try.ntmps23
    go_wp2_with fail
    refine (sl16Ok A n c hs 8 _ (by unfold maxLen; omega) hx).mono ?_
    rintro _ _ ⟨rfl, rfl⟩
    rw [h1]
    go_wp2
    go_ret
    exact Val.mk' (v_int HV.out.symm) (by (repeat (first | exact In.refl _ | assumption | apply In.alloc | apply In.drewN | apply In.drew | (refine In.step ?_ (by assumption)))))
  have H1 := Lib.hid h1
  obtain ⟨hn8, hat⟩ := doughs_at h1
  have HAT := Lib.hid hat
  clear hat h1
  by_cases h2 : m = n
  rotate_left
  · have HV : Hid (dayV n hs m os = -1) := Lib.hid (by simp [dayV, h2])
    have h2' : ((m : Int) == (n : Int)) = false := by simp; omega
    have h2'' : ((m : Int) != (n : Int)) = true := by simp; omega
    unfold maxLen at hm
    go_enter Try.func23, Try.ntmps23
    go_wp2_with fail
    refine (sl16Ok A n c hs 8 _ hn hx).mono ?_
    rintro _ _ ⟨rfl, rfl⟩
    rw [H1.out]
    go_wp2
    go_ret
    exact Val.mk' (v_int HV.out.symm) (by (repeat (first | exact In.refl _ | assumption | apply In.alloc | apply In.drewN | apply In.drew | (refine In.step ?_ (by assumption)))))
  subst h2
  have HVT : Hid (∀ v, v = sumTo (dG hs os) m → allOk (ordOk m os) m = true → dayV m hs m os = v) := Lib.hid (fun v hv h => by
    have h1 := H1.out
    rw [hv]; unfold dayV; rw [h1, h]; simp)
  have HVF : Hid (∀ k, k < m → ordOk m os k = false → dayV m hs m os = -1) := Lib.hid (fun k hk h => by
    unfold dayV; rw [allOk_f _ _ k hk h]; simp)
  go_enter Try.func23, Try.ntmps23
  go_wp2_with fail
  refine (sl16Ok A m c hs 8 _ hn hx).mono ?_
  rintro _ _ ⟨rfl, rfl⟩
  rw [H1.out]
  go_wp2_with (at_make; refine wpList_make_full _ rfl (.tmp 19) (.tmp 19) 38 rfl w.heap.size 4 i0 (.bool false) 1 Try.underlying38 hi0 hz0 hz1 .i64 .i64 (m : Int) (m : Int) m rfl rfl rfl rfl ?h2 ?h3 ?h4 ?_)
  case h2 => rw [hz2]; omega
  case h3 => unfold maxLen; omega
  case h4 => exact Nat.le_refl _
  intro w1 hown0 hgrow0
  have hb0 : Below w.heap.size w w1 := (Below.refl _ _).grown hgrow0 (Nat.le_refl _) (fun j hj => by cases hj)
  have hse : Seen w1 w.heap.size m os 0 := seen_made os (by rw [toList_madeCells_one] at hown0; exact hown0)
  have i1 : In w.heap.size w w1 := ⟨hb0, hb0.size⟩
  clear hgrow0 hown0 hb0
  go_wp2
  go_loopw [6, 7] (fun q i wr => ∃ k : Nat, k ≤ m ∧ i = .int .i64 k ∧ q = .int .i64 (sumTo (dG hs os) k) ∧ (∀ i, i < k → ordOk m os i = true) ∧ Seen wr w.heap.size m os k ∧ In w.heap.size w wr) (fun _ i _ => m - (intOf i).toNat)
  case atStart => exact ⟨0, Nat.zero_le _, rfl, rfl, fun i hi => absurd hi (Nat.not_lt_zero _), hse, i1⟩
  case round =>
    clear hse i1
    obtain ⟨k, hk, rfl, rfl, ho, hse, hi⟩ := hrel
    have HO := Lib.hid ho
    clear ho
    obtain ⟨q1, q2⟩ := dG_bd hs os k
    by_cases hlt : k < m
    · obtain ⟨a, rfl, ca⟩ := (hy.below hi.below (Nat.le_refl _)).2 k hlt
      have HK : Hid (ordOk m os k = (inB (os.getD k 0) 0 ((m : Int) - 1) && !(seenB os k (os.getD k 0)))) := Lib.hid rfl
      have HU := Lib.hid (sumTo_succ (dG hs os) k)
      have HSET := Lib.hid (fun t ht hn => Seen.set_ hse t ht hn)
      have HA : Hid (hAt hs os k = hs.getD (os.getD k 0).toNat 0) := Lib.hid rfl
      generalize hoo : os.getD k 0 = x at ca HK HSET HA
      have HX := Lib.hid hoo
      clear hoo
      cases hI : inB x 0 ((m : Int) - 1)
      · have HF := Lib.hid (HVF.out k hlt (by rw [HK.out, hI]; rfl))
        go_wp2_with (first | (go_at_call 47; refine (sIn _ _ _ _).mono ?_; rintro e w' ⟨rfl, rfl⟩) | (go_at_call 53; refine (iIn _ _ _ _).mono ?_; rintro e w' ⟨rfl, rfl⟩) | go_in | (go_end0; simp only []; go_at_K))
        go_ret
        exact Val.mk' (v_int HF.out.symm) (by (repeat (first | exact In.refl _ | assumption | apply In.alloc | apply In.drewN | apply In.drew | (refine In.step ?_ (by assumption)))))
      obtain ⟨x1, x2⟩ := inB_tt hI
      obtain ⟨t, rfl⟩ : ∃ t : Nat, x = t := ⟨x.toNat, by omega⟩
      have ct := hse.cell t (by omega)
      have ft := hse.free t
      cases hB : seenB os k t
      · have HT : Hid (ordOk m os k = true) := Lib.hid (by rw [HK.out, hI, hB]; rfl)
        rw [hB] at ct
        have hst := HSET.out t rfl (by omega)
        have hi2 : In w.heap.size w (wr.setCell ⟨w.heap.size, t, none⟩ (.bool true)) := hi.set_ (Nat.le_refl _) _
        clear hse
        rcases Nat.eq_zero_or_pos k with h0 | h0
        · have HG : Hid (dG hs os k = 0) := Lib.hid (by rw [h0]; rfl)
          have h0' : ¬ 0 < k := by omega
          clear h0
          go_wp2_with (first | (go_at_call 47; refine (sIn _ _ _ _).mono ?_; rintro e w' ⟨rfl, rfl⟩) | (go_at_call 53; refine (iIn _ _ _ _).mono ?_; rintro e w' ⟨rfl, rfl⟩) | go_in | (go_end0; simp only []; go_at_K))
          go_roundw
          case rel => exact ⟨k + 1, by omega, by go_num, v_int (by rw [HU.out, HG.out]; omega), fun i hi => by
              by_cases e : i = k
              · subst e; exact HT.out
              · exact HO.out i (by omega), hst, hi2⟩
          case measure => simp [intOf]; omega
        · obtain ⟨j, hj⟩ : ∃ j, k = j + 1 := ⟨k - 1, by omega⟩
          obtain ⟨p, hp, hpm⟩ := ord_nat (HO.out j (by omega))
          have HG : Hid (dG hs os k = cleanV (hs.getD p 0) (hs.getD t 0)) := Lib.hid (by
            have h3 : hAt hs os j = hs.getD p 0 := by rw [hAt, hp]; simp
            have h4 : hAt hs os (j + 1) = hs.getD t 0 := by rw [← hj, HA.out]; simp
            rw [hj]; simp only [dG]; rw [h3, h4])
          have hm1 : (k : Int) - 1 = (j : Int) := by omega
          have hm2 : wrap64 ((k : Int) - 1) = (j : Int) := by rw [hm1]; exact w64 (by omega)
          have hm3 : IntKind.i64.wrap ((k : Int) - 1) = (j : Int) := by rw [hm1]; exact IntWalk.i64_in _ (by omega)
          have hjm : j < m := by omega
          obtain ⟨a2, ea, ck2⟩ := (hy.below hi2.below (Nat.le_refl _)).2 k hlt
          obtain ⟨a3, eb, cj2⟩ := (hy.below hi2.below (Nat.le_refl _)).2 j hjm
          injection ea with ea
          injection eb with eb
          subst ea eb
          rw [HX.out] at ck2
          rw [hp] at cj2
          obtain ⟨b, rfl, ct2⟩ := (hx.below hi2.below (Nat.le_refl _)).2 t (by omega)
          obtain ⟨b2, eb, cp2⟩ := (hx.below hi2.below (Nat.le_refl _)).2 p hpm
          injection eb with eb
          subst eb
          have hcl := clean_in (hs.getD p 0) (hs.getD t 0)
          clear hj hp hm1 HA
          generalize hs.getD t 0 = y at ct2 HG hcl
          generalize hs.getD p 0 = z at cp2 HG hcl
          have W1 : IntKind.i64.wrap (sumTo (dG hs os) k + cleanV z y) = sumTo (dG hs os) k + cleanV z y := IntWalk.i64_in _ (by omega)
          go_wp2_with (first | (go_at_call 47; refine (sIn _ _ _ _).mono ?_; rintro e w' ⟨rfl, rfl⟩) | (go_at_call 53; refine (iIn _ _ _ _).mono ?_; rintro e w' ⟨rfl, rfl⟩) | go_in | (go_end0; simp only []; go_at_K))
          go_quiet ((go_at_call 22; exact (sCleanQ _ _ _).mono (by rintro e w2 ⟨rfl, rfl⟩; exact ⟨rfl, _, rfl⟩)))
          go_wp2
          go_roundw
          case rel => exact ⟨k + 1, by omega, by go_num, v_int (by rw [HU.out, HG.out]; (try simp only [W1]); (try omega)), fun i hi => by
              by_cases e : i = k
              · subst e; exact HT.out
              · exact HO.out i (by omega), by first | exact hst | exact hst.drewN _, by (repeat (first | exact In.refl _ | assumption | apply In.alloc | apply In.drewN | apply In.drew | (refine In.step ?_ (by assumption))))⟩
          case measure => simp [intOf]; omega
      · have HF := Lib.hid (HVF.out k hlt (by rw [HK.out, hI, hB]; rfl))
        rw [hB] at ct
        go_wp2_with (first | (go_at_call 47; refine (sIn _ _ _ _).mono ?_; rintro e w' ⟨rfl, rfl⟩) | (go_at_call 53; refine (iIn _ _ _ _).mono ?_; rintro e w' ⟨rfl, rfl⟩) | go_in | (go_end0; simp only []; go_at_K))
        go_ret
        exact Val.mk' (v_int HF.out.symm) (by (repeat (first | exact In.refl _ | assumption | apply In.alloc | apply In.drewN | apply In.drew | (refine In.step ?_ (by assumption)))))
    · obtain rfl : k = m := by omega
      go_wp2
      go_ret
      exact Val.mk' (v_int (HVT.out _ rfl (allOk_t _ _ HO.out)).symm) (by (repeat (first | exact In.refl _ | assumption | apply In.alloc | apply In.drewN | apply In.drew | (refine In.step ?_ (by assumption)))))
set_option maxHeartbeats 4000000 in
theorem iDayCost (A : Option Addr) (n c : Nat) (hs : List Int) (B : Option Addr) (m d : Nat) (os : List Int) (w : World) (hn : n ≤ maxLen) (hx : ReadsI w A n hs) (hm : m ≤ maxLen) (hy : ReadsI w B m os) :
    Calls Try.prog 17 #[.slice A n c, .slice B m d] w (Val (i64 (dayV n hs m os)) w) := by
  cases h1 : doughsB n hs 8
  · have HV : Hid (dayV n hs m os = -1) := Lib.hid (by simp [dayV, h1])
    go_enter Try.func17, Try.ntmps17
    go_wp2_with fail
    refine (idayOk A n c hs _ hn hx).mono ?_
    rintro _ _ ⟨rfl, rfl⟩
    rw [h1]
    go_wp2
    go_ret
    exact Val.mk' (v_int HV.out.symm) (by (repeat (first | exact In.refl _ | assumption | apply In.alloc | apply In.drewN | apply In.drew | (refine In.step ?_ (by assumption)))))
  obtain ⟨hn8, hat⟩ := doughs_at h1
  have hn8' : n ≤ 8 := by omega
  cases h3 : (decide (m = n) && allOk (ordOk n os) m)
  · have HV : Hid (dayV n hs m os = -1) := Lib.hid (by simp [dayV, h3])
    go_enter Try.func17, Try.ntmps17
    go_wp2_with fail
    refine (idayOk A n c hs _ hn hx).mono ?_
    rintro _ _ ⟨rfl, rfl⟩
    rw [h1]
    go_wp2_with (first | (go_at_call 47; refine (sIn _ _ _ _).mono ?_; rintro e w' ⟨rfl, rfl⟩) | (go_at_call 53; refine (iIn _ _ _ _).mono ?_; rintro e w' ⟨rfl, rfl⟩) | (go_at_call 43; refine (iisOrder B m d n os _ hm hn8' hy).mono ?_; rintro _ w1 ⟨rfl, hb1⟩) | go_in | (go_end0; simp only []; go_at_K))
    go_ret
    exact Val.mk' (v_int HV.out.symm) (by (repeat (first | exact In.refl _ | assumption | apply In.alloc | apply In.drewN | apply In.drew | (refine In.step ?_ (by assumption)))))
  have HV : Hid (dayV n hs m os = sumTo (dG hs os) m) := Lib.hid (by simp [dayV, h1, h3])
  have h3' := h3
  simp only [Bool.and_eq_true, decide_eq_true_eq] at h3'
  obtain ⟨hmn, hall⟩ := h3'
  subst hmn
  have HO := Lib.hid (fun i hi => allOk_at _ _ hall i hi : ∀ i, i < m → ordOk m os i = true)
  go_enter Try.func17, Try.ntmps17
  go_wp2_with fail
  refine (idayOk A m c hs _ hn hx).mono ?_
  rintro _ _ ⟨rfl, rfl⟩
  rw [h1]
  go_wp2_with (first | (go_at_call 47; refine (sIn _ _ _ _).mono ?_; rintro e w' ⟨rfl, rfl⟩) | (go_at_call 53; refine (iIn _ _ _ _).mono ?_; rintro e w' ⟨rfl, rfl⟩) | (go_at_call 43; refine (iisOrder B m d m os _ hm hn8' hy).mono ?_; rintro _ w1 ⟨rfl, hb1⟩) | go_in | (go_end0; simp only []; go_at_K))
  have i1 : In w.heap.size w w1 := In.step (by (repeat (first | exact In.refl _ | assumption | apply In.alloc | apply In.drewN | apply In.drew | (refine In.step ?_ (by assumption))))) hb1
  clear hb1 h1 h3 hall hat
  go_loopw [5, 6] (fun q i wr => ∃ k : Nat, 1 ≤ k ∧ (k ≤ m ∨ k = 1) ∧ i = .int .i64 k ∧ q = .int .i64 (sumTo (dG hs os) k) ∧ In w.heap.size w wr) (fun _ i _ => m - (intOf i).toNat)
  case atStart => exact ⟨1, by omega, Or.inr rfl, rfl, rfl, i1⟩
  case round =>
    clear i1
    obtain ⟨k, hk1, hk, rfl, rfl, hi⟩ := hrel
    obtain ⟨q1, q2⟩ := dG_bd hs os k
    by_cases hlt : k < m
    · obtain ⟨j, hj⟩ : ∃ j, k = j + 1 := ⟨k - 1, by omega⟩
      have hjm : j < m := by omega
      obtain ⟨t, ht, htm⟩ := ord_nat (HO.out k hlt)
      obtain ⟨p, hp, hpm⟩ := ord_nat (HO.out j hjm)
      have HU := Lib.hid (sumTo_succ (dG hs os) k)
      have HG : Hid (dG hs os k = cleanV (hs.getD p 0) (hs.getD t 0)) := Lib.hid (by
        have h3 : hAt hs os j = hs.getD p 0 := by rw [hAt, hp]; simp
        have h4 : hAt hs os (j + 1) = hs.getD t 0 := by rw [← hj, hAt, ht]; simp
        rw [hj]; simp only [dG]; rw [h3, h4])
      have hm1 : (k : Int) - 1 = (j : Int) := by omega
      have hm2 : wrap64 ((k : Int) - 1) = (j : Int) := by rw [hm1]; exact w64 (by omega)
      have hm3 : IntKind.i64.wrap ((k : Int) - 1) = (j : Int) := by rw [hm1]; exact IntWalk.i64_in _ (by omega)
      obtain ⟨a, rfl, ck⟩ := (hy.below hi.below (Nat.le_refl _)).2 k hlt
      obtain ⟨a3, eb, cj⟩ := (hy.below hi.below (Nat.le_refl _)).2 j hjm
      injection eb with eb
      subst eb
      rw [ht] at ck
      rw [hp] at cj
      obtain ⟨b, rfl, ct⟩ := (hx.below hi.below (Nat.le_refl _)).2 t htm
      obtain ⟨b2, eb, cp⟩ := (hx.below hi.below (Nat.le_refl _)).2 p hpm
      injection eb with eb
      subst eb
      have hcl := clean_in (hs.getD p 0) (hs.getD t 0)
      clear hj hp ht hm1
      generalize hs.getD t 0 = y at ct HG hcl
      generalize hs.getD p 0 = z at cp HG hcl
      have W1 : IntKind.i64.wrap (sumTo (dG hs os) k + cleanV z y) = sumTo (dG hs os) k + cleanV z y := IntWalk.i64_in _ (by omega)
      go_wp2
      refine wp_region_S (C := (fun w' => In w.heap.size w w' ∧ w'.cell? (a.add k) = some (.int .i64 t) ∧ w'.cell? (a.add j) = some (.int .i64 p) ∧ w'.cell? (b.add t) = some (.int .i64 y) ∧ w'.cell? (b.add p) = some (.int .i64 z))) (by kernel_rfl) (by kernel_rfl) ?_ ?_
      · exact held4 (by (repeat (first | exact In.refl _ | assumption | apply In.alloc | apply In.drewN | apply In.drew | (refine In.step ?_ (by assumption))))) ck cj ct cp
      repeat (first | go_big_quiet_skip | (go_big_quiet_want; first | (refine quiet_ex ?_; apply Exists.intro; refine ⟨fun W hW => ?_, ?_⟩; (· (obtain ⟨i1, f0, f1, f2, f3⟩ := hW; go_simp; (first | done | with_reducible rfl | rfl))); simp only [Act.put, List.setIfInBounds_toArray, List.set_cons_zero, List.set_cons_succ]; go_big_quiet_on) | (refine quiet_ex ?_; apply Exists.intro; refine ⟨fun W hW => ?_, ?_⟩; (· (go_simp; first | (go_at_call 21; exact (iCleanCost _ _ _).mono (by rintro e w2 ⟨rfl, hb2⟩; exact ⟨rfl, held4_step hb2 hW⟩)))); simp only [Act.put, List.setIfInBounds_toArray, List.set_cons_zero, List.set_cons_succ]; go_big_quiet_on)))
      refine wpQuiet_nil ?_
      rintro w' ⟨i1, f0, f1, f2, f3⟩
      go_wp2
      go_roundw
      case rel => exact ⟨k + 1, by omega, by omega, by go_num, v_int (by rw [HU.out, HG.out]; (try simp only [W1]); (try omega)), by (repeat (first | exact In.refl _ | assumption | apply In.alloc | apply In.drewN | apply In.drew | (refine In.step ?_ (by assumption))))⟩
      case measure => simp [intOf]; omega
    · have HE : Hid (sumTo (dG hs os) k = sumTo (dG hs os) m) := Lib.hid (by
        rcases Nat.lt_or_ge m k with h | h
        · obtain rfl : k = 1 := by omega
          obtain rfl : m = 0 := by omega
          rfl
        · obtain rfl : k = m := by omega
          rfl)
      go_wp2
      go_ret
      exact Val.mk' (v_int (by rw [HV.out, HE.out])) (by (repeat (first | exact In.refl _ | assumption | apply In.alloc | apply In.drewN | apply In.drew | (refine In.step ?_ (by assumption)))))
end Go.Proofs.Ytlilmpclkhmkoad
