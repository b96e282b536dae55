/- Chapter 33: Prefers. -/
import Derived.Test.YtbbinndegcnedacC33
import Derived.Test.YtbbinndegcnedacAll
import Derived.Test.YtbbinndegcnedacIx
namespace Go.Proofs.Ytbbinndegcnedac
open Go.ChangeShapes Go.WideShapes Go.ChangeAt Go.RowKit
set_option linter.unusedVariables false
set_option linter.unusedSimpArgs false
set_option maxHeartbeats 2000000

def prG (vs : List IntSR) (a b : Int) (i : Nat) : Int := if idxOf (vs.getD i []) a (vs.getD i []).length < idxOf (vs.getD i []) b (vs.getD i []).length then 1 else 0
def prefB (m : Nat) (vs : List IntSR) (n a b : Int) : Bool := votesB m vs n && inB a 0 (n - 1) && inB b 0 (n - 1) && !(a == b)
def prefV (m : Nat) (vs : List IntSR) (n a b : Int) : Int := if prefB m vs n a b then sumTo (prG vs a b) m else -1
theorem prG_in (vs : List IntSR) (a b : Int) (i : Nat) : 0 ≤ prG vs a b i ∧ prG vs a b i ≤ 1 := by unfold prG; split <;> omega
theorem two_in (x y lo hi : Int) : allIn [x, y] lo hi 2 = (inB x lo hi && inB y lo hi) := by simp [allIn, allOk, inAt]
theorem prefV_in (m : Nat) (vs : List IntSR) (n a b : Int) : -1 ≤ prefV m vs n a b ∧ prefV m vs n a b ≤ m := by
  have := sumTo_bd (prG vs a b) 1 m fun i _ => prG_in vs a b i
  unfold prefV; split <;> omega
/-- in a vote that has each bread once, each bread stands somewhere -/
theorem vote_has {q : Nat} {vs : List IntSR} {i : Nat} (h : vOk q vs i = true) (a : Int) (h0 : 0 ≤ a) (h1 : a < q) : ∃ k, k < q ∧ (vs.getD i []).getD k 0 = a := by
  obtain ⟨hl, hr, hj⟩ := vote_at h
  obtain ⟨k, hk, he⟩ := inj_surj q (fun k => ((vs.getD i []).getD k 0).toNat) (fun k hk => by have := hr k hk; (try simp only); omega) (fun k j hk hj2 he => hj k j hk hj2 (by
    have a := hr k hk
    have b := hr j hj2
    (try simp only at he)
    omega)) a.toNat (by omega)
  have := hr k hk
  exact ⟨k, hk, by (try simp only at he); omega⟩
/-- where neither stands ahead of place t, and the one at t is a (or b) -/
theorem pr_a {q : Nat} {vs : List IntSR} {i t : Nat} {a b : Int} (h : vOk q vs i = true) (ht : t < q) (hn : ∀ k, k < t → (vs.getD i []).getD k 0 ≠ a ∧ (vs.getD i []).getD k 0 ≠ b) (hat : (vs.getD i []).getD t 0 = a) (hab : a ≠ b) (hb0 : 0 ≤ b) (hb1 : b < q) : prG vs a b i = 1 := by
  obtain ⟨hl, hr, hj⟩ := vote_at h
  unfold prG
  rw [hl]
  rw [idxOf_at ht (fun k hk => (hn k hk).1) hat, if_pos]
  obtain ⟨k, hk, he⟩ := vote_has h b hb0 hb1
  rcases (Decidable.em (idxOf (vs.getD i []) b q ≤ t)) with hle | hgt
  · exfalso
    have hin := idxOf_in (vs.getD i []) b q
    by_cases hneg : idxOf (vs.getD i []) b q < 0
    · exact idxOf_neg.1 hneg k hk he
    · have hex : ∃ j, j ≤ t ∧ (vs.getD i []).getD j 0 = b := by
        have hh : ∀ n : Nat, 0 ≤ idxOf (vs.getD i []) b n → (vs.getD i []).getD (idxOf (vs.getD i []) b n).toNat 0 = b := by
          intro n
          induction n with
          | zero => intro h; simp [idxOf] at h
          | succ n ih =>
            intro h
            rw [idxOf] at h ⊢
            split
            · rename_i h1; exact ih h1
            · rename_i h1
              rw [if_neg h1] at h
              split at h
              · rename_i h2
                rw [if_pos h2]
                simpa using h2
              · omega
        exact ⟨(idxOf (vs.getD i []) b q).toNat, by omega, hh q (by omega)⟩
      obtain ⟨j, hj1, hj2⟩ := hex
      by_cases e : j = t
      · subst e; rw [hat] at hj2; exact hab hj2
      · exact (hn j (by omega)).2 hj2
  · omega
theorem pr_b {q : Nat} {vs : List IntSR} {i t : Nat} {a b : Int} (h : vOk q vs i = true) (ht : t < q) (hn : ∀ k, k < t → (vs.getD i []).getD k 0 ≠ a ∧ (vs.getD i []).getD k 0 ≠ b) (hat : (vs.getD i []).getD t 0 = b) (hab : a ≠ b) (ha0 : 0 ≤ a) (ha1 : a < q) : prG vs a b i = 0 := by
  have h1 := pr_a h ht (fun k hk => ⟨(hn k hk).2, (hn k hk).1⟩) hat (fun e => hab e.symm) ha0 ha1
  unfold prG at h1 ⊢
  split at h1
  · rw [if_neg (by omega)]
  · cases h1
theorem win_self (m : Nat) (vs : List IntSR) (n a : Int) : prefV m vs n a a = -1 := by simp [prefV, prefB]
theorem iPrefers (A : Option Addr) (m c : Nat) (vs : List IntSR) (n a b : Int) (w : World) (hm : m ≤ maxLen) (hx : ReadsIntS w A m vs) : Calls Try.prog 64 #[.slice A m c, .int .i64 n, .int .i64 a, .int .i64 b] w (Val (i64 (prefV m vs n a b)) w) := by
  cases h0 : votesB m vs n
  · have HV : Hid (prefV m vs n a b = -1) := Lib.hid (by simp [prefV, prefB, h0])
    go_enter Try.func64, Try.ntmps64
    go_wp2_with fail
    refine (iVotesOk A m c vs n _ hm hx).mono ?_
    rintro _ w1 ⟨rfl, hb1⟩
    rw [h0]
    go_wp2_with (first | (go_at_call 61; refine (sIn _ _ _ _).mono ?_; rintro e w' ⟨rfl, rfl⟩) | (go_at_call 57; refine (iIn _ _ _ _).mono ?_; rintro e w' ⟨rfl, rfl⟩))
    go_ret
    exact Val.mk' (v_int HV.out.symm) (by (repeat (first | exact In.refl _ | assumption | apply In.alloc | apply In.drewN | apply In.drew | (refine In.step ?_ (by assumption)))))
  obtain ⟨n1, n2, m1, m2, hv⟩ := votes_at h0
  cases h1 : inB a 0 (n - 1)
  · have HV : Hid (prefV m vs n a b = -1) := Lib.hid (by simp [prefV, prefB, h1])
    go_enter Try.func64, Try.ntmps64
    go_wp2_with fail
    refine (iVotesOk A m c vs n _ hm hx).mono ?_
    rintro _ w1 ⟨rfl, hb1⟩
    rw [h0]
    go_wp2_with fail
    refine (iAll _ 2 2 [a, b] 0 (n - 1) _ (by unfold maxLen; omega) (reads_at _ _ #[.int .i64 a, .int .i64 b] [a, b] _ (by simp) rfl)).mono ?_
    rintro _ _ ⟨rfl, rfl⟩
    rw [two_in]
    simp only [h1, Bool.false_and]
    go_wp2_with (first | (go_at_call 61; refine (sIn _ _ _ _).mono ?_; rintro e w' ⟨rfl, rfl⟩) | (go_at_call 57; refine (iIn _ _ _ _).mono ?_; rintro e w' ⟨rfl, rfl⟩))
    go_ret
    exact Val.mk' (v_int HV.out.symm) (by (repeat (first | exact In.refl _ | assumption | apply In.alloc | apply In.drewN | apply In.drew | (refine In.step ?_ (by assumption)))))
  cases h2 : inB b 0 (n - 1)
  · have HV : Hid (prefV m vs n a b = -1) := Lib.hid (by simp [prefV, prefB, h2])
    go_enter Try.func64, Try.ntmps64
    go_wp2_with fail
    refine (iVotesOk A m c vs n _ hm hx).mono ?_
    rintro _ w1 ⟨rfl, hb1⟩
    rw [h0]
    go_wp2_with fail
    refine (iAll _ 2 2 [a, b] 0 (n - 1) _ (by unfold maxLen; omega) (reads_at _ _ #[.int .i64 a, .int .i64 b] [a, b] _ (by simp) rfl)).mono ?_
    rintro _ _ ⟨rfl, rfl⟩
    rw [two_in]
    simp only [h2, h1, Bool.and_false]
    go_wp2_with (first | (go_at_call 61; refine (sIn _ _ _ _).mono ?_; rintro e w' ⟨rfl, rfl⟩) | (go_at_call 57; refine (iIn _ _ _ _).mono ?_; rintro e w' ⟨rfl, rfl⟩))
    go_ret
    exact Val.mk' (v_int HV.out.symm) (by (repeat (first | exact In.refl _ | assumption | apply In.alloc | apply In.drewN | apply In.drew | (refine In.step ?_ (by assumption)))))
  obtain ⟨a1, a2⟩ := inB_tt h1
  obtain ⟨b1, b2⟩ := inB_tt h2
  by_cases hab : a = b
  · have HV : Hid (prefV m vs n a b = -1) := Lib.hid (by simp [prefV, prefB, hab])
    have hab2 : (a == b) = true := by simpa using hab
    have H1 := Lib.hid h1
    have H2 := Lib.hid h2
    clear hab
    go_enter Try.func64, Try.ntmps64
    go_wp2_with fail
    refine (iVotesOk A m c vs n _ hm hx).mono ?_
    rintro _ w1 ⟨rfl, hb1⟩
    rw [h0]
    go_wp2_with fail
    refine (iAll _ 2 2 [a, b] 0 (n - 1) _ (by unfold maxLen; omega) (reads_at _ _ #[.int .i64 a, .int .i64 b] [a, b] _ (by simp) rfl)).mono ?_
    rintro _ _ ⟨rfl, rfl⟩
    rw [two_in]
    simp only [H1.out, H2.out, Bool.and_self]
    go_wp2_with (first | (go_at_call 61; refine (sIn _ _ _ _).mono ?_; rintro e w' ⟨rfl, rfl⟩) | (go_at_call 57; refine (iIn _ _ _ _).mono ?_; rintro e w' ⟨rfl, rfl⟩))
    go_ret
    exact Val.mk' (v_int HV.out.symm) (by (repeat (first | exact In.refl _ | assumption | apply In.alloc | apply In.drewN | apply In.drew | (refine In.step ?_ (by assumption)))))
  have HV : Hid (prefV m vs n a b = sumTo (prG vs a b) m) := Lib.hid (by simp [prefV, prefB, h0, h1, h2, hab])
  have hab2 : (a == b) = false := by simpa using hab
  have HAB := Lib.hid hab
  have HVO := Lib.hid hv
  have H1 := Lib.hid h1
  have H2 := Lib.hid h2
  obtain ⟨q, rfl⟩ : ∃ q : Nat, n = q := ⟨n.toNat, by omega⟩
  clear hab hv
  go_enter Try.func64, Try.ntmps64
  go_wp2_with fail
  refine (iVotesOk A m c vs q _ hm hx).mono ?_
  rintro _ w1 ⟨rfl, hb1⟩
  rw [h0]
  go_wp2_with fail
  refine (iAll _ 2 2 [a, b] 0 ((q : Int) - 1) _ (by unfold maxLen; omega) (reads_at _ _ #[.int .i64 a, .int .i64 b] [a, b] _ (by simp) rfl)).mono ?_
  rintro _ _ ⟨rfl, rfl⟩
  rw [two_in]
  simp only [H1.out, H2.out, Bool.and_self]
  have i1 : In w.heap.size w w1 := In.step (by (repeat (first | exact In.refl _ | assumption | apply In.alloc | apply In.drewN | apply In.drew | (refine In.step ?_ (by assumption))))) hb1
  clear hb1
  go_wp2_with (first | (go_at_call 61; refine (sIn _ _ _ _).mono ?_; rintro e w' ⟨rfl, rfl⟩) | (go_at_call 57; refine (iIn _ _ _ _).mono ?_; rintro e w' ⟨rfl, rfl⟩))
  clear h0 h1 h2 hab2
  go_loopw [9, 32] (fun s i wr => ∃ k : Nat, k ≤ m ∧ i = .int .i64 k ∧ s = .int .i64 (sumTo (prG vs a b) k) ∧ In w.heap.size w wr) (fun _ i _ => m - (intOf i).toNat)
  case atStart => exact ⟨0, Nat.zero_le _, rfl, rfl, by (repeat (first | exact In.refl _ | assumption | apply In.alloc | apply In.drewN | apply In.drew | (refine In.step ?_ (by assumption))))⟩
  case round =>
    clear i1
    obtain ⟨k, hk, rfl, rfl, hi⟩ := hrel
    have HU := Lib.hid (sumTo_succ (prG vs a b) k)
    obtain ⟨d1, d2⟩ := sumTo_bd (prG vs a b) 1 k fun i _ => prG_in vs a b i
    by_cases hlt : k < m
    · obtain ⟨ad, rfl, B, d, ha, hl, hmx, hr⟩ := (hx.in_ hi).2 k hlt
      have HG : Hid (prG vs a b k = if idxOf (vs.getD k []) a (vs.getD k []).length < idxOf (vs.getD k []) b (vs.getD k []).length then 1 else 0) := Lib.hid rfl
      generalize vs.getD k [] = x at *
      have hxm : x.length ≤ maxLen := Nat.le_trans hl hmx
      have HR := Lib.hid hr
      clear hl hmx hr
      generalize sumTo (prG vs a b) k = s at *
      have e1 := idxOf_in x a x.length
      have e2 := idxOf_in x b x.length
      go_wp2_with fail
      refine (iIndex B x.length d x a _ hxm HR.out).mono ?_
      rintro _ _ ⟨rfl, rfl⟩
      go_wp2_with fail
      refine (iIndex B x.length d x b _ hxm HR.out).mono ?_
      rintro _ _ ⟨rfl, rfl⟩
      generalize idxOf x a x.length = u at *
      generalize idxOf x b x.length = v at *
      by_cases hc : u < v
      all_goals
        go_wp2
        go_roundw
        case rel => exact ⟨k + 1, by omega, by go_num, v_int (by rw [HU.out, HG.out]; first | rw [if_pos (by omega)] | (rw [if_neg (by omega)]; omega)), by (repeat (first | exact In.refl _ | assumption | apply In.alloc | apply In.drewN | apply In.drew | (refine In.step ?_ (by assumption))))⟩
        case measure => simp [intOf]; omega
    · obtain rfl : k = m := by omega
      go_wp2
      go_ret
      exact Val.mk' (v_int HV.out.symm) (by (repeat (first | exact In.refl _ | assumption | apply In.alloc | apply In.drewN | apply In.drew | (refine In.step ?_ (by assumption)))))
theorem sPrefers (A : Option Addr) (m c : Nat) (vs : List IntSR) (n a b : Int) (w : World) (hm : m ≤ maxLen) (hx : ReadsIntS w A m vs) : Calls Try.prog 62 #[.slice A m c, .int .i64 n, .int .i64 a, .int .i64 b] w (Val (i64 (prefV m vs n a b)) w) := by
  cases h0 : votesB m vs n
  · have HV : Hid (prefV m vs n a b = -1) := Lib.hid (by simp [prefV, prefB, h0])
    go_enter Try.func62, Try.ntmps62
    go_wp2_with fail
    refine (sVotesOk A m c vs n _ hm hx).mono ?_
    rintro _ w1 ⟨rfl, hb1⟩
    rw [h0]
    go_wp2_with (first | (go_at_call 61; refine (sIn _ _ _ _).mono ?_; rintro e w' ⟨rfl, rfl⟩) | (go_at_call 57; refine (iIn _ _ _ _).mono ?_; rintro e w' ⟨rfl, rfl⟩))
    go_ret
    exact Val.mk' (v_int HV.out.symm) (by (repeat (first | exact In.refl _ | assumption | apply In.alloc | apply In.drewN | apply In.drew | (refine In.step ?_ (by assumption)))))
  obtain ⟨n1, n2, m1, m2, hv⟩ := votes_at h0
  cases h1 : inB a 0 (n - 1)
  · have HV : Hid (prefV m vs n a b = -1) := Lib.hid (by simp [prefV, prefB, h1])
    go_enter Try.func62, Try.ntmps62
    go_wp2_with fail
    refine (sVotesOk A m c vs n _ hm hx).mono ?_
    rintro _ w1 ⟨rfl, hb1⟩
    rw [h0]
    skip
    go_wp2_with (first | (go_at_call 61; refine (sIn _ _ _ _).mono ?_; rintro e w' ⟨rfl, rfl⟩) | (go_at_call 57; refine (iIn _ _ _ _).mono ?_; rintro e w' ⟨rfl, rfl⟩))
    go_ret
    exact Val.mk' (v_int HV.out.symm) (by (repeat (first | exact In.refl _ | assumption | apply In.alloc | apply In.drewN | apply In.drew | (refine In.step ?_ (by assumption)))))
  cases h2 : inB b 0 (n - 1)
  · have HV : Hid (prefV m vs n a b = -1) := Lib.hid (by simp [prefV, prefB, h2])
    go_enter Try.func62, Try.ntmps62
    go_wp2_with fail
    refine (sVotesOk A m c vs n _ hm hx).mono ?_
    rintro _ w1 ⟨rfl, hb1⟩
    rw [h0]
    skip
    go_wp2_with (first | (go_at_call 61; refine (sIn _ _ _ _).mono ?_; rintro e w' ⟨rfl, rfl⟩) | (go_at_call 57; refine (iIn _ _ _ _).mono ?_; rintro e w' ⟨rfl, rfl⟩))
    go_ret
    exact Val.mk' (v_int HV.out.symm) (by (repeat (first | exact In.refl _ | assumption | apply In.alloc | apply In.drewN | apply In.drew | (refine In.step ?_ (by assumption)))))
  obtain ⟨a1, a2⟩ := inB_tt h1
  obtain ⟨b1, b2⟩ := inB_tt h2
  by_cases hab : a = b
  · have HV : Hid (prefV m vs n a b = -1) := Lib.hid (by simp [prefV, prefB, hab])
    have hab2 : (a == b) = true := by simpa using hab
    have H1 := Lib.hid h1
    have H2 := Lib.hid h2
    clear hab
    go_enter Try.func62, Try.ntmps62
    go_wp2_with fail
    refine (sVotesOk A m c vs n _ hm hx).mono ?_
    rintro _ w1 ⟨rfl, hb1⟩
    rw [h0]
    skip
    go_wp2_with (first | (go_at_call 61; refine (sIn _ _ _ _).mono ?_; rintro e w' ⟨rfl, rfl⟩) | (go_at_call 57; refine (iIn _ _ _ _).mono ?_; rintro e w' ⟨rfl, rfl⟩))
    go_ret
    exact Val.mk' (v_int HV.out.symm) (by (repeat (first | exact In.refl _ | assumption | apply In.alloc | apply In.drewN | apply In.drew | (refine In.step ?_ (by assumption)))))
  have HV : Hid (prefV m vs n a b = sumTo (prG vs a b) m) := Lib.hid (by simp [prefV, prefB, h0, h1, h2, hab])
  have hab2 : (a == b) = false := by simpa using hab
  have HAB := Lib.hid hab
  have HVO := Lib.hid hv
  have H1 := Lib.hid h1
  have H2 := Lib.hid h2
  obtain ⟨q, rfl⟩ : ∃ q : Nat, n = q := ⟨n.toNat, by omega⟩
  clear hab hv
  go_enter Try.func62, Try.ntmps62
  go_wp2_with fail
  refine (sVotesOk A m c vs q _ hm hx).mono ?_
  rintro _ w1 ⟨rfl, hb1⟩
  rw [h0]
  skip
  have i1 : In w.heap.size w w1 := In.step (by (repeat (first | exact In.refl _ | assumption | apply In.alloc | apply In.drewN | apply In.drew | (refine In.step ?_ (by assumption))))) hb1
  clear hb1
  go_wp2_with (first | (go_at_call 61; refine (sIn _ _ _ _).mono ?_; rintro e w' ⟨rfl, rfl⟩) | (go_at_call 57; refine (iIn _ _ _ _).mono ?_; rintro e w' ⟨rfl, rfl⟩))
  clear h0 h1 h2 hab2
  go_loopw [9, 10] (fun s i wr => ∃ k : Nat, k ≤ m ∧ i = .int .i64 k ∧ s = .int .i64 (sumTo (prG vs a b) k) ∧ In w.heap.size w wr) (fun _ i _ => m - (intOf i).toNat)
  case atStart => exact ⟨0, Nat.zero_le _, rfl, rfl, by (repeat (first | exact In.refl _ | assumption | apply In.alloc | apply In.drewN | apply In.drew | (refine In.step ?_ (by assumption))))⟩
  case round =>
    clear i1
    obtain ⟨k, hk, rfl, rfl, hi⟩ := hrel
    have HU := Lib.hid (sumTo_succ (prG vs a b) k)
    obtain ⟨d1, d2⟩ := sumTo_bd (prG vs a b) 1 k fun i _ => prG_in vs a b i
    by_cases hlt : k < m
    · obtain ⟨ad, rfl, B, d, ha, hl, hmx, hr⟩ := (hx.in_ hi).2 k hlt
      have hvk : vOk q vs k = true := by simpa using HVO.out k hlt
      have hvl := (vote_at hvk).1
      have HA := Lib.hid (fun t (ht : t < q) hn hat => pr_a (a := a) (b := b) hvk ht hn hat HAB.out b1 (by omega))
      have HB := Lib.hid (fun t (ht : t < q) hn hat => pr_b (a := a) (b := b) hvk ht hn hat HAB.out a1 (by omega))
      have HEX := Lib.hid (vote_has hvk a a1 (by omega))
      generalize vs.getD k [] = x at *
      have HR := Lib.hid hr
      obtain ⟨w8, rfl⟩ : ∃ w8, w8 = wr := ⟨_, rfl⟩
      rw [hvl] at ha
      have HL := Lib.hid hvl
      clear hl hmx hr hvk hvl
      generalize sumTo (prG vs a b) k = s at *
      go_wp2
      go_loopw [9, 11] (fun s2 j wr2 => ∃ t : Nat, t ≤ q ∧ j = .int .i64 t ∧ s2 = .int .i64 s ∧ (∀ i, i < t → x.getD i 0 ≠ a ∧ x.getD i 0 ≠ b) ∧ In w8.heap.size w8 wr2) (fun _ j _ => q - (intOf j).toNat)
      case atStart => exact ⟨0, Nat.zero_le _, rfl, rfl, fun i hi => absurd hi (Nat.not_lt_zero _), In.refl _⟩
      case round =>
        obtain ⟨t, ht, rfl, rfl, hq, hi2⟩ := hrel
        have HQ := Lib.hid hq
        have ha2 := cell_in ha hi2
        have i3 : In w.heap.size w wr := hi.trans hi2
        clear hq
        by_cases hlt2 : t < q
        · have hr2 := (HR.out.below hi2.below (Nat.le_refl _)).2 t (by rw [HL.out]; exact hlt2)
          obtain ⟨bd, rfl, hb⟩ := hr2
          have HA2 := Lib.hid (HA.out t hlt2 HQ.out)
          have HB2 := Lib.hid (HB.out t hlt2 HQ.out)
          have HQ2 : Hid (x.getD t 0 ≠ a → x.getD t 0 ≠ b → ∀ i, i < t + 1 → x.getD i 0 ≠ a ∧ x.getD i 0 ≠ b) := Lib.hid fun h1 h2 i hi => by
            by_cases e : i = t
            · subst e; exact ⟨h1, h2⟩
            · exact HQ.out i (by omega)
          generalize x.getD t 0 = v at *
          by_cases hva : v = a
          · have HP := Lib.hid (HA2.out hva)
            have hva2 : (v == a) = true := by simpa using hva
            clear hva
            go_wp2_with (first | (go_at_call 61; refine (sIn _ _ _ _).mono ?_; rintro e w' ⟨rfl, rfl⟩) | (go_at_call 57; refine (iIn _ _ _ _).mono ?_; rintro e w' ⟨rfl, rfl⟩))
            go_roundw
            case rel => exact ⟨k + 1, by omega, by go_num, v_int (by rw [HU.out, HP.out]), by (repeat (first | exact In.refl _ | assumption | apply In.alloc | apply In.drewN | apply In.drew | (refine In.step ?_ (by assumption))))⟩
            case measure => simp [intOf]; omega
          · have hva2 : (v == a) = false := by simpa using hva
            have HVA := Lib.hid hva
            clear hva
            by_cases hvb : v = b
            · have HP := Lib.hid (HB2.out hvb)
              have hvb2 : (v == b) = true := by simpa using hvb
              clear hvb
              go_wp2_with (first | (go_at_call 61; refine (sIn _ _ _ _).mono ?_; rintro e w' ⟨rfl, rfl⟩) | (go_at_call 57; refine (iIn _ _ _ _).mono ?_; rintro e w' ⟨rfl, rfl⟩))
              go_roundw
              case rel => exact ⟨k + 1, by omega, by go_num, v_int (by rw [HU.out, HP.out]; omega), by (repeat (first | exact In.refl _ | assumption | apply In.alloc | apply In.drewN | apply In.drew | (refine In.step ?_ (by assumption))))⟩
              case measure => simp [intOf]; omega
            · have hvb2 : (v == b) = false := by simpa using hvb
              have HQ3 := Lib.hid (HQ2.out HVA.out hvb)
              clear hvb
              go_wp2_with (first | (go_at_call 61; refine (sIn _ _ _ _).mono ?_; rintro e w' ⟨rfl, rfl⟩) | (go_at_call 57; refine (iIn _ _ _ _).mono ?_; rintro e w' ⟨rfl, rfl⟩))
              go_roundw
              case rel => exact ⟨t + 1, by omega, by go_num, rfl, HQ3.out, by (repeat (first | exact In.refl _ | assumption | apply In.alloc | apply In.drewN | apply In.drew | (refine In.step ?_ (by assumption))))⟩
              case measure => simp [intOf]; omega
        · exfalso
          obtain ⟨j, hj, he⟩ := HEX.out
          exact (HQ.out j (by omega)).1 he
    · obtain rfl : k = m := by omega
      go_wp2
      go_ret
      exact Val.mk' (v_int HV.out.symm) (by (repeat (first | exact In.refl _ | assumption | apply In.alloc | apply In.drewN | apply In.drew | (refine In.step ?_ (by assumption)))))
end Go.Proofs.Ytbbinndegcnedac
