/- Chapter 17: Suspects: the values, the model. -/
import Derived.Test.YtegkaemcoghbeaaE17
import Derived.Test.YtegkaemcoghbeaaIdxM
import Derived.Test.YtegkaemcoghbeaaAll
namespace Go.Proofs.Ytegkaemcoghbeaa
open Go.ChangeShapes Go.WideShapes Go.ChangeAt Go.RowKit
set_option linter.unusedVariables false
set_option linter.unusedSimpArgs false
set_option maxHeartbeats 2000000

def memL (xs : List Int) (v : Int) : Bool := decide (v ∈ xs)
def eqL (xs ys : List Int) : Bool := decide (xs = ys)
def mP (bad : List Int) (b : Nat) : Bool := memL bad b
/-- the lots that were used in the bad breads and in no others -/
def suP (n : Nat) (xs : List UseR) (bad : List Int) (l : Nat) : Bool := decide (1 ≤ l) && eqL (idxTo (brP n xs l) 51) (idxTo (mP bad) 51)
def SuspectsL (n : Nat) (xs : List UseR) (m : Nat) (bad : List Int) : List Int := if usesB n xs && (inB m 1 50 && allIn bad 1 50 m) then idxTo (suP n xs bad) 51 else []
theorem SuspectsL_len (n : Nat) (xs : List UseR) (m : Nat) (bad : List Int) : (SuspectsL n xs m bad).length ≤ 51 := by
  unfold SuspectsL; split
  · exact idxTo_len _ _
  · simp
theorem memL_at {xs : List Int} {v : Int} (k : Nat) (hk : k < xs.length) (h : xs.getD k 0 = v) : memL xs v = true := by
  simp only [memL, decide_eq_true_eq]
  rw [← h, List.getD_eq_getElem?_getD, List.getElem?_eq_getElem hk]
  exact List.getElem_mem hk
theorem memL_no {xs : List Int} {v : Int} (h : ∀ k, k < xs.length → xs.getD k 0 ≠ v) : memL xs v = false := by
  simp only [memL, decide_eq_false_iff_not]
  intro hm
  obtain ⟨k, hk, e⟩ := List.getElem_of_mem hm
  exact h k hk (by rw [List.getD_eq_getElem?_getD, List.getElem?_eq_getElem hk]; exact e)
/-- the model's test -/
def inAll (xs ys : List Int) : Nat → Bool := allOk fun i => memL xs (ys.getD i 0)
theorem inAll_iff {xs ys : List Int} : inAll xs ys ys.length = true ↔ ∀ y ∈ ys, y ∈ xs := by
  constructor
  · intro h y hy
    obtain ⟨k, hk, e⟩ := List.getElem_of_mem hy
    have := allOk_at _ _ h k hk
    simp only [memL, decide_eq_true_eq, List.getD_eq_getElem?_getD, List.getElem?_eq_getElem hk] at this
    simpa [e] using this
  · intro h
    refine allOk_t _ _ fun i hi => ?_
    simp only [memL, decide_eq_true_eq]
    refine h _ ?_
    rw [List.getD_eq_getElem?_getD, List.getElem?_eq_getElem hi]
    exact List.getElem_mem hi
theorem both_eq (n : Nat) (xs : List UseR) (l : Int) (bad : List Int) (hb : ∀ i, i < bad.length → 1 ≤ bad.getD i 0 ∧ bad.getD i 0 ≤ 50) :
    (inAll (idxTo (brP n xs l) 51) bad bad.length && inAll bad (idxTo (brP n xs l) 51) (idxTo (brP n xs l) 51).length) = eqL (idxTo (brP n xs l) 51) (idxTo (mP bad) 51) := by
  rw [Bool.eq_iff_iff, Bool.and_eq_true, inAll_iff, inAll_iff]
  simp only [eqL, decide_eq_true_eq]
  constructor
  · rintro ⟨h1, h2⟩
    refine idxTo_congr 51 fun i hi => ?_
    rw [Bool.eq_iff_iff]
    constructor
    · intro h
      have := h2 (i : Int) ((mem_idxTo _ _ _).2 ⟨by omega, by omega, by simpa using h⟩)
      simpa [mP, memL] using this
    · intro h
      have := h1 (i : Int) (by simpa [mP, memL] using h)
      have := ((mem_idxTo _ _ _).1 this).2.2
      simpa using this
  · intro h
    constructor
    · intro y hy
      rw [h]
      obtain ⟨k, hk, e⟩ := List.getElem_of_mem hy
      have := hb k hk
      rw [List.getD_eq_getElem?_getD, List.getElem?_eq_getElem hk] at this
      simp only [Option.getD_some, e] at this
      exact (mem_idxTo _ _ _).2 ⟨by omega, by omega, by simpa [mP, memL, Int.toNat_of_nonneg (show 0 ≤ y by omega)] using hy⟩
    · intro y hy
      rw [h] at hy
      have := (mem_idxTo _ _ _).1 hy
      simpa [mP, memL, Int.toNat_of_nonneg this.1] using this.2.2
theorem sHas17 (A : Option Addr) (n c : Nat) (xs : List Int) (v : Int) (w : World) (hn : n ≤ maxLen) (hx : ReadsI w A n xs) :
    Calls Try.prog 47 #[.slice A n c, .int .i64 v] w (Same (.bool (memL xs v)) w) := by
  have hl := hx.1
  have HL := Lib.hid hl
  clear hl
  unfold maxLen at hn
  go_enter Try.func47, Try.ntmps47
  go_wp2
  go_loop [5] (fun i => ∃ k : Nat, k ≤ n ∧ i = .int .i64 k ∧ (∀ i, i < k → xs.getD i 0 ≠ v)) (fun i => n - (intOf i).toNat)
  case atStart => exact ⟨0, Nat.zero_le _, rfl, fun i hi => absurd hi (Nat.not_lt_zero _)⟩
  case round =>
    obtain ⟨k, hk, rfl, ho⟩ := hrel
    have HO := Lib.hid ho
    clear ho
    by_cases hlt : k < n
    · obtain ⟨a, rfl, ha⟩ := hx.2 k hlt
      generalize hx0 : xs.getD k 0 = x at ha
      have HX := Lib.hid hx0
      clear hx0
      by_cases h1 : x = v
      · have HT : Hid (memL xs v = true) := Lib.hid (memL_at k (by rw [HL.out]; exact hlt) (by rw [HX.out]; exact h1))
        go_wp2
        go_ret
        exact ⟨ret_bool HT.out.symm, rfl⟩
      · have HN := Lib.hid h1
        go_wp2
        go_round
        case rel => exact ⟨k + 1, by omega, by go_num, fun i hi => by
            by_cases e : i = k
            · subst e; rw [HX.out]; exact HN.out
            · exact HO.out i (by omega)⟩
        case measure => simp [intOf]; omega
    · obtain rfl : k = n := by omega
      have HF : Hid (memL xs v = false) := Lib.hid (memL_no fun i hi => HO.out i (by rw [HL.out] at hi; exact hi))
      go_wp2
      go_ret
      exact ⟨ret_bool HF.out.symm, rfl⟩
set_option maxRecDepth 20000 in
set_option maxHeartbeats 4000000 in
theorem sSuspects (A : Option Addr) (n c : Nat) (xs : List UseR) (D : Option Addr) (m d : Nat) (bad : List Int) (w : World) (hn : n ≤ maxLen) (hx : ReadsUse w A n xs) (hm : m ≤ maxLen) (hy : ReadsI w D m bad) : Calls Try.prog 22 #[.slice A n c, .slice D m d] w (RowB (SuspectsL n xs m bad) w) := by
  obtain ⟨i0, hi0, hz0, hz1, hz2⟩ := info_parts infoI
  have hw0 : In w.heap.size w (w.alloc (.cells #[] 3)) := by (repeat (first | exact In.refl _ | assumption | apply In.alloc | apply In.drewN | apply In.drew | (refine In.step ?_ (by assumption))))
  have hown0 : (w.alloc (.cells #[] 3)).ownsRow w.heap.size 3 1 (.slice (some ⟨w.heap.size, 0, none⟩) 0 0) 0 (iv []) := own_new w 3 w.heap.size (Nat.le_refl _)
  have hml := hy.1
  have HX := Lib.hid hx
  have HY := Lib.hid hy
  have HN := Lib.hid hn
  have HML := Lib.hid hml
  have HM9 := Lib.hid hm
  clear hx hy hn hml hm
  cases hB : usesB n xs
  · have HV : Hid (SuspectsL n xs m bad = []) := Lib.hid (by simp [SuspectsL, hB])
    go_enter Try.func22, Try.ntmps22
    go_wp2_with fail
    refine (sUsesOk A n c xs _ HN.out (HX.out.in_ hw0)).mono ?_
    rintro _ w1 ⟨rfl, hb1⟩
    rw [hB]
    have o1 := own_step hown0 hb1
    have i1 := In.step hw0 hb1
    clear hown0 hw0
    go_wp2
    go_ret
    rw [HV.out]
    exact rowB_of rfl o1 i1.below
  cases hC : inB m 1 50
  · have HV : Hid (SuspectsL n xs m bad = []) := Lib.hid (by simp [SuspectsL, hC])
    go_enter Try.func22, Try.ntmps22
    go_wp2_with fail
    refine (sUsesOk A n c xs _ HN.out (HX.out.in_ hw0)).mono ?_
    rintro _ w1 ⟨rfl, hb1⟩
    rw [hB]
    have o1 := own_step hown0 hb1
    have i1 := In.step hw0 hb1
    clear hown0 hw0
    go_wp2_with (first | (go_at_call 46; refine (sIn _ _ _ _).mono ?_; rintro e w' ⟨rfl, rfl⟩) | (go_at_call 48; refine (iIn _ _ _ _).mono ?_; rintro e w' ⟨rfl, rfl⟩))
    go_ret
    rw [HV.out]
    exact rowB_of rfl o1 i1.below
  obtain ⟨h60, hs⟩ := uses_at hB
  have HS := Lib.hid hs
  clear hs
  have hm50 : m ≤ 50 := by have := inB_tt hC; omega
  go_enter Try.func22, Try.ntmps22
  go_wp2_with fail
  refine (sUsesOk A n c xs _ HN.out (HX.out.in_ hw0)).mono ?_
  rintro _ w1 ⟨rfl, hb1⟩
  rw [hB]
  have o1 := own_step hown0 hb1
  have i1 := In.step hw0 hb1
  clear hown0 hw0 hb1
  go_wp2_with (first | (go_at_call 46; refine (sIn _ _ _ _).mono ?_; rintro e w' ⟨rfl, rfl⟩) | (go_at_call 48; refine (iIn _ _ _ _).mono ?_; rintro e w' ⟨rfl, rfl⟩))
  go_loopw [6] (fun i wr => ∃ k : Nat, k ≤ m ∧ i = .int .i64 k ∧ (∀ i, i < k → inAt bad 1 50 i = true) ∧ In w1.heap.size w1 wr) (fun i _ => m - (intOf i).toNat)
  case atStart => exact ⟨0, Nat.zero_le _, rfl, fun i hi => absurd hi (Nat.not_lt_zero _), by (repeat (first | exact In.refl _ | assumption | apply In.alloc | apply In.drewN | apply In.drew | (refine In.step ?_ (by assumption))))⟩
  case round =>
    obtain ⟨k, hk, rfl, ho, hi⟩ := hrel
    have HO := Lib.hid ho
    clear ho
    by_cases hlt : k < m
    · obtain ⟨a, rfl, ha⟩ := (HY.out.below (i1.trans hi).below (Nat.le_refl _)).2 k hlt
      have HK : Hid (inAt bad 1 50 k = inB (bad.getD k 0) 1 50) := Lib.hid rfl
      generalize bad.getD k 0 = x at ha HK
      cases h1 : inB x 1 50
      · have HV : Hid (SuspectsL n xs m bad = []) := Lib.hid (by simp [SuspectsL, allIn_f k hlt (by rw [HK.out]; exact h1)])
        go_wp2_with (first | (go_at_call 46; refine (sIn _ _ _ _).mono ?_; rintro e w' ⟨rfl, rfl⟩) | (go_at_call 48; refine (iIn _ _ _ _).mono ?_; rintro e w' ⟨rfl, rfl⟩))
        go_ret
        rw [HV.out]
        have o2 := own_step o1 hi.below
        have i2 := i1.trans hi
        exact rowB_of rfl (by (with_reducible (repeat (first | assumption | apply World.ownsRow.drew | apply World.ownsRow.alloc)))) (In.below (by (repeat (first | exact In.refl _ | assumption | apply In.alloc | apply In.drewN | apply In.drew | (refine In.step ?_ (by assumption))))))
      · have HT : Hid (inAt bad 1 50 k = true) := Lib.hid (by rw [HK.out]; exact h1)
        go_wp2_with (first | (go_at_call 46; refine (sIn _ _ _ _).mono ?_; rintro e w' ⟨rfl, rfl⟩) | (go_at_call 48; refine (iIn _ _ _ _).mono ?_; rintro e w' ⟨rfl, rfl⟩))
        go_roundw
        case rel => exact ⟨k + 1, by omega, by go_num, fun i hi => by
            by_cases e : i = k
            · subst e; exact HT.out
            · exact HO.out i (by omega), by (repeat (first | exact In.refl _ | assumption | apply In.alloc | apply In.drewN | apply In.drew | (refine In.step ?_ (by assumption))))⟩
        case measure => simp [intOf]; omega
    · obtain rfl : m = k := by omega
      have hAL : allIn bad 1 50 m = true := allIn_t HO.out
      have HV : Hid (SuspectsL n xs m bad = idxTo (suP n xs bad) 51) := Lib.hid (by simp [SuspectsL, hB, hC, hAL])
      have HBD : Hid (∀ i, i < bad.length → 1 ≤ bad.getD i 0 ∧ bad.getD i 0 ≤ 50) := Lib.hid (by rw [HML.out]; exact allIn_at hAL)
      have o2 := own_step o1 hi.below
      have i2 := i1.trans hi
      obtain ⟨w3, rfl⟩ : ∃ w3, w3 = wr := ⟨_, rfl⟩
      have HP1 : Hid (idxTo (suP n xs bad) 1 = []) := Lib.hid (idxTo_f (by simp [suP]))
      clear o1 i1 hi HO hAL hC
      go_wp2
      go_loopw [5, 7] (fun v i wr => ∃ l : Nat, l ≤ 51 ∧ 1 ≤ l ∧ i = .int .i64 l ∧ wr.ownsRow w.heap.size 3 1 v (idxTo (suP n xs bad) l).length (iv (idxTo (suP n xs bad) l)) ∧ In w.heap.size w wr) (fun _ i _ => 51 - (intOf i).toNat)
      case atStart => exact ⟨1, by omega, by omega, rfl, by rw [HP1.out]; first | exact o2 | exact own_step o2 (Below.refl _ _).drew, by (repeat (first | exact In.refl _ | assumption | apply In.alloc | apply In.drewN | apply In.drew | (refine In.step ?_ (by assumption))))⟩
      case round =>
        clear o2 i2
        obtain ⟨l, hl, hl1, rfl, hown, hi⟩ := hrel
        obtain ⟨A1, c1, rfl⟩ := own_shape_i hown
        by_cases hlt : l < 51
        · have HL2 := idxTo_len (suP n xs bad) l
          have HT := Lib.hid (fun h => idxTo_t (p := suP n xs bad) (k := l) h)
          have HF := Lib.hid (fun h => idxTo_f (p := suP n xs bad) (k := l) h)
          have HPV : Hid (suP n xs bad l = (inAll (idxTo (brP n xs l) 51) bad bad.length && inAll bad (idxTo (brP n xs l) 51) (idxTo (brP n xs l) 51).length)) := Lib.hid (by rw [both_eq n xs l bad HBD.out]; simp [suP, hl1])
          generalize hL : idxTo (suP n xs bad) l = L at hown HL2 HT HF
          generalize hp : L.length = p at hown HL2
          have HM := Lib.hid hp
          have HP60 : Hid (p ≤ 60) := Lib.hid (by omega)
          have HLT := Lib.hid hlt
          have HQ1 : Hid (1 ≤ (l : Int) ∧ (l : Int) ≤ 50) := Lib.hid (by omega)
          have hlI : (l : Int) ≤ 50 := by omega
          clear hL hp HL2 hlt hl
          have hBV : BreadsOfL n xs l = idxTo (brP n xs l) 51 := by simp [BreadsOfL, hB]
          have HBV := Lib.hid hBV
          clear hBV
          go_wp2_with fail
          refine (sBreadsOf A n c xs l _ HN.out (HX.out.in_ hi)).mono ?_
          rintro _ w1 ⟨B1, e1, rfl, hob, hb1⟩
          rw [HBV.out] at hob
          rw [HBV.out]
          have hbl := idxTo_len (brP n xs l) 51
          have RB1 := Lib.hid (reads_own_i hob)
          rw [HML.out] at HPV
          generalize idxTo (brP n xs l) 51 = BL at *
          generalize BL.length = u at *
          have HO1 := Lib.hid (show w1.ownsRow w.heap.size 3 1 (.slice A1 p c1) p (iv L) from own_step hown hb1)
          have HI1 := Lib.hid (In.step hi hb1)
          clear hown hi hb1 hob
          go_wp2
          go_loopw [9, 10] (fun f j wr => ∃ t : Nat, t ≤ m ∧ j = .int .i64 t ∧ f = .bool (inAll BL bad t) ∧ In w1.heap.size w1 wr) (fun _ j _ => m - (intOf j).toNat)
          case atStart => exact ⟨0, Nat.zero_le _, rfl, rfl, In.refl _⟩
          case round =>
            obtain ⟨t, ht, rfl, rfl, hi⟩ := hrel
            by_cases htn : t < m
            · have HE : Hid (inAll BL bad (t + 1) = (inAll BL bad t && memL BL (bad.getD t 0))) := Lib.hid rfl
              obtain ⟨b, hb0, hb1⟩ := (HY.out.below (HI1.out.trans hi).below (Nat.le_refl _)).2 t htn
              have HRX := Lib.hid (RB1.out.below hi.below (Nat.le_refl _))
              generalize bad.getD t 0 = y at hb1 HE
              cases hf : inAll BL bad t
              · subst hb0
                go_wp2
                go_roundw
                case rel => exact ⟨t + 1, by omega, by go_num, by rw [HE.out, hf]; rfl, by (repeat (first | exact In.refl _ | assumption | apply In.alloc | apply In.drewN | apply In.drew | (refine In.step ?_ (by assumption))))⟩
                case measure => simp [intOf]; omega
              · subst hb0
                go_wp2_with fail
                refine (sHas17 B1 u e1 BL y _ (by unfold maxLen; omega) HRX.out).mono ?_
                rintro _ _ ⟨rfl, rfl⟩
                go_wp2
                go_roundw
                case rel => exact ⟨t + 1, by omega, by go_num, by rw [HE.out, hf]; rfl, by (repeat (first | exact In.refl _ | assumption | apply In.alloc | apply In.drewN | apply In.drew | (refine In.step ?_ (by assumption))))⟩
                case measure => simp [intOf]; omega
            · obtain rfl : m = t := by omega
              obtain ⟨w2, rfl⟩ : ∃ w2, w2 = wr := ⟨_, rfl⟩
              have RB := Lib.hid (RB1.out.below hi.below (Nat.le_refl _))
              have HO2 := Lib.hid (own_step HO1.out hi.below)
              have HI2 := Lib.hid (HI1.out.trans hi)
              clear hi
              go_wp2
              go_loopw [9, 11] (fun f j wr => ∃ t : Nat, t ≤ u ∧ j = .int .i64 t ∧ f = .bool (inAll BL bad m && inAll bad BL t) ∧ In w2.heap.size w2 wr) (fun _ j _ => u - (intOf j).toNat)
              case atStart => exact ⟨0, Nat.zero_le _, rfl, by rw [show inAll bad BL 0 = true from rfl, Bool.and_true], In.refl _⟩
              case round =>
                obtain ⟨t, ht, rfl, rfl, hi⟩ := hrel
                by_cases htn : t < u
                · have HE : Hid (inAll bad BL (t + 1) = (inAll bad BL t && memL bad (BL.getD t 0))) := Lib.hid rfl
                  obtain ⟨b, hb0, hb1⟩ := (RB.out.below hi.below (Nat.le_refl _)).2 t htn
                  have HRX := Lib.hid (HY.out.below (HI2.out.trans hi).below (Nat.le_refl _))
                  generalize BL.getD t 0 = y at hb1 HE
                  cases hf : inAll BL bad m && inAll bad BL t
                  · subst hb0
                    go_wp2
                    go_roundw
                    case rel => exact ⟨t + 1, by omega, by go_num, by rw [HE.out]; cases h8 : inAll BL bad m <;> cases h9 : inAll bad BL t <;> simp_all, by (repeat (first | exact In.refl _ | assumption | apply In.alloc | apply In.drewN | apply In.drew | (refine In.step ?_ (by assumption))))⟩
                    case measure => simp [intOf]; omega
                  · subst hb0
                    go_wp2_with fail
                    refine (sHas17 D m d bad y _ HM9.out HRX.out).mono ?_
                    rintro _ _ ⟨rfl, rfl⟩
                    go_wp2
                    go_roundw
                    case rel => exact ⟨t + 1, by omega, by go_num, by rw [HE.out]; cases h8 : inAll BL bad m <;> cases h9 : inAll bad BL t <;> simp_all, by (repeat (first | exact In.refl _ | assumption | apply In.alloc | apply In.drewN | apply In.drew | (refine In.step ?_ (by assumption))))⟩
                    case measure => simp [intOf]; omega
                · obtain rfl : u = t := by omega
                  generalize hq : (l : Int) = KK at HPV HQ1
                  have HQ := Lib.hid hq
                  clear hq
                  have hown : wr.ownsRow w.heap.size 3 1 (.slice A1 p c1) p (iv L) := own_step HO2.out hi.below
                  have hi1 := HI2.out.trans hi
                  clear hi
                  obtain ⟨hK1, hK2⟩ := HQ1.out
                  cases hf : inAll BL bad m && inAll bad BL u
                  · have HE := Lib.hid (HF.out (HPV.out.trans hf))
                    go_wp2
                    go_roundw
                    case rel => exact ⟨l + 1, by have := HLT.out; omega, by omega, by rw [← HQ.out]; go_num, by rw [HE.out, HM.out]; exact hown, by (repeat (first | exact In.refl _ | assumption | apply In.alloc | apply In.drewN | apply In.drew | (refine In.step ?_ (by assumption))))⟩
                    case measure => have := HLT.out; rw [← HQ.out]; simp [intOf]; omega
                  · have HE := Lib.hid (HT.out (HPV.out.trans hf))
                    have hm60 : p ≤ 60 := HP60.out
                    have F9 : Hid (∀ u ∈ (#[Value.int .i64 (KK)] : Array Value).toList, u.oneCell' = true) := Lib.hid (by intro u hu; simp at hu; subst hu; rfl)
                    have f92 : p + 1 ≤ maxLen := by unfold maxLen; omega
                    have f93 : (p + 1) * 8 ≤ 140737488355328 := by omega
                    have hB9 : w.heap.size ≤ wr.heap.size := In.size (B := w.heap.size) (a := w) (by (repeat (first | exact In.refl _ | assumption | apply In.alloc | apply In.drewN | apply In.drew | (refine In.step ?_ (by assumption)))))
                    go_wp2_with (first | (go_at_call 46; refine (sIn _ _ _ _).mono ?_; rintro e w' ⟨rfl, rfl⟩) | (go_at_call 48; refine (iIn _ _ _ _).mono ?_; rintro e w' ⟨rfl, rfl⟩) | (at_builtin; refine wpList_app wr rfl (.tmp 74) (.tmp 76) 24 rfl w.heap.size 3 i0 (.int .i64 0) 1 8 Try.underlying24 hi0 hz0 hz1 hz2 rfl Nat.one_pos (.slice A1 p c1) (p) (iv (L)) rfl hown 1 #[.int .i64 (KK)] rfl rfl F9.out f92 f93 hB9 ?_; intro v9 w9 hown9 hbw9) | go_in | (go_end0; simp only []; go_at_K))
                    have hi9 : In w.heap.size w w9 := In.wide hi1 hbw9
                    have hown2 : w9.ownsRow w.heap.size 3 1 v9 (idxTo (suP n xs bad) (l + 1)).length (iv (idxTo (suP n xs bad) (l + 1))) := by
                      rw [HE.out, iv_app, List.length_append, HM.out, HQ.out]; exact hown9
                    clear hown9 hbw9 hown f92 f93 hB9
                    go_wp2
                    go_roundw
                    case rel => exact ⟨l + 1, by have := HLT.out; omega, by omega, by rw [← HQ.out]; go_num, hown2, hi9⟩
                    case measure => have := HLT.out; rw [← HQ.out]; simp [intOf]; omega
        · obtain rfl : l = 51 := by omega
          go_wp2
          go_ret
          rw [HV.out]
          exact rowB_of rfl hown hi.below
end Go.Proofs.Ytegkaemcoghbeaa
