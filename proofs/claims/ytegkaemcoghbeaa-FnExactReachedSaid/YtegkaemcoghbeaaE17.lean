/- Chapter 17: BreadsOf, LotsOf: the values, the model. -/
import Derived.Test.YtegkaemcoghbeaaC17
import Derived.Test.YtegkaemcoghbeaaOwnI
import Derived.Test.YtegkaemcoghbeaaIdx
namespace Go.Proofs.Ytegkaemcoghbeaa
open Go.ChangeShapes Go.WideShapes Go.ChangeAt Go.RowKit
set_option linter.unusedVariables false
set_option linter.unusedSimpArgs false
set_option maxHeartbeats 2000000

/-- a lot and a bread are named together among the first uses -/
def hasU (xs : List UseR) (l b : Int) : Nat → Bool
  | 0 => false
  | k + 1 => hasU xs l b k || (decide ((xs.getD k z17).f0 = l) && decide ((xs.getD k z17).f1 = b))
theorem hasU_succ (xs : List UseR) (l b : Int) (k : Nat) : hasU xs l b (k + 1) = (hasU xs l b k || (decide ((xs.getD k z17).f0 = l) && decide ((xs.getD k z17).f1 = b))) := rfl
theorem hasU_iff {xs : List UseR} {l b : Int} {n : Nat} : hasU xs l b n = true ↔ ∃ k, k < n ∧ (xs.getD k z17).f0 = l ∧ (xs.getD k z17).f1 = b := by
  induction n with
  | zero => simp [hasU]
  | succ n ih =>
    rw [hasU_succ, Bool.or_eq_true, ih, Bool.and_eq_true, decide_eq_true_eq, decide_eq_true_eq]
    constructor
    · rintro (⟨k, hk, h⟩ | h)
      · exact ⟨k, by omega, h⟩
      · exact ⟨n, by omega, h⟩
    · rintro ⟨k, hk, h⟩
      by_cases e : k = n
      · subst e; exact .inr h
      · exact .inl ⟨k, by omega, h⟩
theorem hasU_in {xs : List UseR} {l b : Int} {n : Nat} (hs : ∀ i, i < n → useB (xs.getD i z17).f0 (xs.getD i z17).f1 (xs.getD i z17).f2 = true) (h : hasU xs l b n = true) : 1 ≤ l ∧ l ≤ 50 ∧ 1 ≤ b ∧ b ≤ 50 := by
  obtain ⟨k, hk, rfl, rfl⟩ := hasU_iff.1 h
  have := use_in (hs k hk)
  omega
def brP (n : Nat) (xs : List UseR) (l : Int) (b : Nat) : Bool := hasU xs l b n
def loP (n : Nat) (xs : List UseR) (b : Int) (l : Nat) : Bool := hasU xs l b n
def BreadsOfL (n : Nat) (xs : List UseR) (l : Int) : List Int := if usesB n xs then idxTo (brP n xs l) 51 else []
def LotsOfL (n : Nat) (xs : List UseR) (b : Int) : List Int := if usesB n xs then idxTo (loP n xs b) 51 else []
theorem BreadsOfL_len (n : Nat) (xs : List UseR) (l : Int) : (BreadsOfL n xs l).length ≤ 51 := by
  unfold BreadsOfL; split
  · exact idxTo_len _ _
  · simp
theorem LotsOfL_len (n : Nat) (xs : List UseR) (l : Int) : (LotsOfL n xs l).length ≤ 51 := by
  unfold LotsOfL; split
  · exact idxTo_len _ _
  · simp
set_option maxRecDepth 20000 in
set_option maxHeartbeats 4000000 in
theorem sBreadsOf (A : Option Addr) (n c : Nat) (xs : List UseR) (q : Int) (w : World) (hn : n ≤ maxLen) (hx : ReadsUse w A n xs) : Calls Try.prog 10 #[.slice A n c, .int .i64 q] w (RowB (BreadsOfL n xs q) w) := by
  obtain ⟨i0, hi0, hz0, hz1, hz2⟩ := info_parts infoI
  have hw0 : In w.heap.size w (w.alloc (.cells #[] 3)) := by (repeat (first | exact In.refl _ | assumption | apply In.alloc | apply In.drewN | apply In.drew | (refine In.step ?_ (by assumption))))
  have hown0 : (w.alloc (.cells #[] 3)).ownsRow w.heap.size 3 1 (.slice (some ⟨w.heap.size, 0, none⟩) 0 0) 0 (iv []) := own_new w 3 w.heap.size (Nat.le_refl _)
  have HX := Lib.hid hx
  have HN := Lib.hid hn
  clear hx hn
  cases hB : usesB n xs
  · have HV : Hid (BreadsOfL n xs q = []) := Lib.hid (by simp [BreadsOfL, hB])
    go_enter Try.func10, Try.ntmps10
    go_wp2
    go_loopw [5, 6] (fun v i wr => v = .slice (some ⟨w.heap.size, 0, none⟩) 0 0 ∧ i = .int .i64 1 ∧ wr = w.alloc (.cells #[] 3)) (fun _ _ _ => 0)
    case atStart => exact ⟨rfl, rfl, rfl⟩
    case round =>
      obtain ⟨rfl, rfl, rfl⟩ := hrel
      go_wp2_with fail
      refine (sUsesOk A n c xs _ HN.out (HX.out.in_ hw0)).mono ?_
      rintro _ w1 ⟨rfl, hb1⟩
      rw [hB]
      have o1 := own_step hown0 hb1
      have i1 := In.step hw0 hb1
      clear hown0 hw0
      go_wp2
      go_ret
      rw [HV.out]
      exact rowB_of rfl o1 i1.below
  have HV : Hid (BreadsOfL n xs q = idxTo (brP n xs q) 51) := Lib.hid (by simp [BreadsOfL, hB])
  obtain ⟨h60, hs⟩ := uses_at hB
  have HS := Lib.hid hs
  clear hs
  have HP0 : Hid (idxTo (brP n xs q) 1 = []) := Lib.hid (by
    refine idxTo_f ?_
    cases e : brP n xs q 0
    · rfl
    · have := hasU_in HS.out e; omega)
  go_enter Try.func10, Try.ntmps10
  go_wp2
  go_loopw [5, 6] (fun v i wr => ∃ k : Nat, k ≤ 50 ∧ i = .int .i64 ((k : Int) + 1) ∧ wr.ownsRow w.heap.size 3 1 v (idxTo (brP n xs q) (k + 1)).length (iv (idxTo (brP n xs q) (k + 1))) ∧ In w.heap.size w wr) (fun _ i _ => 51 - (intOf i).toNat)
  case atStart => exact ⟨0, by omega, rfl, by rw [HP0.out]; exact hown0, hw0⟩
  case round =>
    clear hown0 hw0
    obtain ⟨k, hk, rfl, hown, hi⟩ := hrel
    obtain ⟨A1, c1, rfl⟩ := own_shape_i hown
    by_cases hlt : k < 50
    · have hkI : (k : Int) + 1 ≤ 50 := by omega
      have HLT := Lib.hid hlt
      have HK9 := Lib.hid hk
      clear hlt hk
      have HL2 := Lib.hid (idxTo_len (brP n xs q) (k + 1))
      have HPV : Hid (brP n xs q (k + 1) = hasU xs q ((k : Int) + 1) n) := Lib.hid (by simp [brP])
      have HT := Lib.hid (fun h => idxTo_t (p := (brP n xs q)) (k := k + 1) h)
      have HF := Lib.hid (fun h => idxTo_f (p := (brP n xs q)) (k := k + 1) h)
      generalize hL : idxTo (brP n xs q) (k + 1) = L at hown HL2 HT HF
      have hll := HL2.out
      generalize hm : L.length = m at hown hll
      have HM := Lib.hid hm
      clear hL hm HL2
      go_wp2_with fail
      refine (sUsesOk A n c xs _ HN.out (HX.out.in_ hi)).mono ?_
      rintro _ w1 ⟨rfl, hb1⟩
      rw [hB]
      have o1 : w1.ownsRow w.heap.size 3 1 (.slice A1 m c1) m (iv L) := own_step hown hb1
      have i1 := In.step hi hb1
      clear hown hi hb1
      have HO1 := Lib.hid o1
      have HI1 := Lib.hid i1
      clear o1 i1
      go_wp2
      generalize hq : (k : Int) + 1 = KK at HPV
      have HQ := Lib.hid hq
      clear hq
      go_loopw [7, 8] (fun f j wr => ∃ t : Nat, t ≤ n ∧ j = .int .i64 t ∧ f = .bool (hasU xs q KK t) ∧ In w1.heap.size w1 wr) (fun _ j _ => n - (intOf j).toNat)
      case atStart => exact ⟨0, Nat.zero_le _, rfl, rfl, In.refl _⟩
      case round =>
        obtain ⟨t, ht, rfl, rfl, hi⟩ := hrel
        by_cases htn : t < n
        · obtain ⟨a, rfl, ha0, ha1, ha2⟩ := (HX.out.in_ (HI1.out.trans hi)).2 t htn
          have HU := Lib.hid (hasU_succ xs q KK t)
          generalize xs.getD t z17 = x at ha0 ha1 ha2 HU
          obtain ⟨x0, x1, x2⟩ := x
          simp only at ha0 ha1 ha2 HU
          cases hf : hasU xs q KK t
          · by_cases h0 : x0 = q
            · by_cases h1 : x1 = KK
              all_goals
                have HG := Lib.hid HU.out
                rw [hf] at HU
                go_wp2
                go_roundw
                case rel => exact ⟨t + 1, by omega, by go_num, by rw [HU.out]; simp [h0, h1], by (repeat (first | exact In.refl _ | assumption | apply In.alloc | apply In.drewN | apply In.drew | (refine In.step ?_ (by assumption))))⟩
                case measure => simp [intOf]; omega
            · rw [hf] at HU
              go_wp2
              go_roundw
              case rel => exact ⟨t + 1, by omega, by go_num, by rw [HU.out]; simp [h0], by (repeat (first | exact In.refl _ | assumption | apply In.alloc | apply In.drewN | apply In.drew | (refine In.step ?_ (by assumption))))⟩
              case measure => simp [intOf]; omega
          · rw [hf] at HU
            go_wp2
            go_roundw
            case rel => exact ⟨t + 1, by omega, by go_num, by rw [HU.out]; simp, by (repeat (first | exact In.refl _ | assumption | apply In.alloc | apply In.drewN | apply In.drew | (refine In.step ?_ (by assumption))))⟩
            case measure => simp [intOf]; omega
        · obtain rfl : t = n := by omega
          have hlt := HLT.out
          have hK1 : 1 ≤ KK ∧ KK ≤ 50 := by have := HQ.out; omega
          obtain ⟨hK1, hK2⟩ := hK1
          have hown : wr.ownsRow w.heap.size 3 1 (.slice A1 m c1) m (iv L) := own_step HO1.out hi.below
          have hi1 := HI1.out.trans hi
          clear hi
          cases hf : hasU xs q KK t
          · have HE := Lib.hid (HF.out (HPV.out.trans hf))
            go_wp2
            go_roundw
            case rel => exact ⟨k + 1, by omega, by rw [← HQ.out]; go_num, by rw [HE.out, HM.out]; exact hown, by (repeat (first | exact In.refl _ | assumption | apply In.alloc | apply In.drewN | apply In.drew | (refine In.step ?_ (by assumption))))⟩
            case measure => rw [← HQ.out]; simp [intOf]; omega
          · have HE := Lib.hid (HT.out (HPV.out.trans hf))
            have hm60 : m ≤ 60 := by omega
            clear hlt hkI
            have F9 : Hid (∀ u ∈ (#[Value.int .i64 (KK)] : Array Value).toList, u.oneCell' = true) := Lib.hid (by intro u hu; simp at hu; subst hu; rfl)
            have f92 : m + 1 ≤ maxLen := by unfold maxLen; omega
            have f93 : (m + 1) * 8 ≤ 140737488355328 := by omega
            have hB9 : w.heap.size ≤ wr.heap.size := In.size (B := w.heap.size) (a := w) (by (repeat (first | exact In.refl _ | assumption | apply In.alloc | apply In.drewN | apply In.drew | (refine In.step ?_ (by assumption)))))
            go_wp2_with (first | (go_at_call 46; refine (sIn _ _ _ _).mono ?_; rintro e w' ⟨rfl, rfl⟩) | (go_at_call 48; refine (iIn _ _ _ _).mono ?_; rintro e w' ⟨rfl, rfl⟩) | (at_builtin; refine wpList_app wr rfl (.tmp 44) (.tmp 46) 24 rfl w.heap.size 3 i0 (.int .i64 0) 1 8 Try.underlying24 hi0 hz0 hz1 hz2 rfl Nat.one_pos (.slice A1 m c1) (m) (iv (L)) rfl hown 1 #[.int .i64 (KK)] rfl rfl F9.out f92 f93 hB9 ?_; intro v9 w9 hown9 hbw9) | go_in | (go_end0; simp only []; go_at_K))
            have hi9 : In w.heap.size w w9 := In.wide hi1 hbw9
            have hown2 : w9.ownsRow w.heap.size 3 1 v9 (idxTo (brP t xs q) (k + 1 + 1)).length (iv (idxTo (brP t xs q) (k + 1 + 1))) := by
              have e9 : ((k + 1 : Nat) : Int) = KK := by have := HQ.out; omega
              rw [HE.out, iv_app, List.length_append, HM.out, e9]; exact hown9
            clear hown9 hbw9 hown f92 f93 hB9
            go_wp2
            go_roundw
            case rel => exact ⟨k + 1, by have := HLT.out; omega, by rw [← HQ.out]; go_num, hown2, hi9⟩
            case measure => have := HLT.out; rw [← HQ.out]; simp [intOf]; omega
    · obtain rfl : k = 50 := by omega
      go_wp2
      go_ret
      rw [HV.out]
      exact rowB_of rfl hown hi.below
set_option maxRecDepth 20000 in
set_option maxHeartbeats 4000000 in
theorem sLotsOf (A : Option Addr) (n c : Nat) (xs : List UseR) (q : Int) (w : World) (hn : n ≤ maxLen) (hx : ReadsUse w A n xs) : Calls Try.prog 18 #[.slice A n c, .int .i64 q] w (RowB (LotsOfL n xs q) w) := by
  obtain ⟨i0, hi0, hz0, hz1, hz2⟩ := info_parts infoI
  have hw0 : In w.heap.size w (w.alloc (.cells #[] 3)) := by (repeat (first | exact In.refl _ | assumption | apply In.alloc | apply In.drewN | apply In.drew | (refine In.step ?_ (by assumption))))
  have hown0 : (w.alloc (.cells #[] 3)).ownsRow w.heap.size 3 1 (.slice (some ⟨w.heap.size, 0, none⟩) 0 0) 0 (iv []) := own_new w 3 w.heap.size (Nat.le_refl _)
  have HX := Lib.hid hx
  have HN := Lib.hid hn
  clear hx hn
  cases hB : usesB n xs
  · have HV : Hid (LotsOfL n xs q = []) := Lib.hid (by simp [LotsOfL, hB])
    go_enter Try.func18, Try.ntmps18
    go_wp2
    go_loopw [5, 6] (fun v i wr => v = .slice (some ⟨w.heap.size, 0, none⟩) 0 0 ∧ i = .int .i64 1 ∧ wr = w.alloc (.cells #[] 3)) (fun _ _ _ => 0)
    case atStart => exact ⟨rfl, rfl, rfl⟩
    case round =>
      obtain ⟨rfl, rfl, rfl⟩ := hrel
      go_wp2_with fail
      refine (sUsesOk A n c xs _ HN.out (HX.out.in_ hw0)).mono ?_
      rintro _ w1 ⟨rfl, hb1⟩
      rw [hB]
      have o1 := own_step hown0 hb1
      have i1 := In.step hw0 hb1
      clear hown0 hw0
      go_wp2
      go_ret
      rw [HV.out]
      exact rowB_of rfl o1 i1.below
  have HV : Hid (LotsOfL n xs q = idxTo (loP n xs q) 51) := Lib.hid (by simp [LotsOfL, hB])
  obtain ⟨h60, hs⟩ := uses_at hB
  have HS := Lib.hid hs
  clear hs
  have HP0 : Hid (idxTo (loP n xs q) 1 = []) := Lib.hid (by
    refine idxTo_f ?_
    cases e : loP n xs q 0
    · rfl
    · have := hasU_in HS.out e; omega)
  go_enter Try.func18, Try.ntmps18
  go_wp2
  go_loopw [5, 6] (fun v i wr => ∃ k : Nat, k ≤ 50 ∧ i = .int .i64 ((k : Int) + 1) ∧ wr.ownsRow w.heap.size 3 1 v (idxTo (loP n xs q) (k + 1)).length (iv (idxTo (loP n xs q) (k + 1))) ∧ In w.heap.size w wr) (fun _ i _ => 51 - (intOf i).toNat)
  case atStart => exact ⟨0, by omega, rfl, by rw [HP0.out]; exact hown0, hw0⟩
  case round =>
    clear hown0 hw0
    obtain ⟨k, hk, rfl, hown, hi⟩ := hrel
    obtain ⟨A1, c1, rfl⟩ := own_shape_i hown
    by_cases hlt : k < 50
    · have hkI : (k : Int) + 1 ≤ 50 := by omega
      have HLT := Lib.hid hlt
      have HK9 := Lib.hid hk
      clear hlt hk
      have HL2 := Lib.hid (idxTo_len (loP n xs q) (k + 1))
      have HPV : Hid (loP n xs q (k + 1) = hasU xs ((k : Int) + 1) q n) := Lib.hid (by simp [loP])
      have HT := Lib.hid (fun h => idxTo_t (p := (loP n xs q)) (k := k + 1) h)
      have HF := Lib.hid (fun h => idxTo_f (p := (loP n xs q)) (k := k + 1) h)
      generalize hL : idxTo (loP n xs q) (k + 1) = L at hown HL2 HT HF
      have hll := HL2.out
      generalize hm : L.length = m at hown hll
      have HM := Lib.hid hm
      clear hL hm HL2
      go_wp2_with fail
      refine (sUsesOk A n c xs _ HN.out (HX.out.in_ hi)).mono ?_
      rintro _ w1 ⟨rfl, hb1⟩
      rw [hB]
      have o1 : w1.ownsRow w.heap.size 3 1 (.slice A1 m c1) m (iv L) := own_step hown hb1
      have i1 := In.step hi hb1
      clear hown hi hb1
      have HO1 := Lib.hid o1
      have HI1 := Lib.hid i1
      clear o1 i1
      go_wp2
      generalize hq : (k : Int) + 1 = KK at HPV
      have HQ := Lib.hid hq
      clear hq
      go_loopw [7, 8] (fun f j wr => ∃ t : Nat, t ≤ n ∧ j = .int .i64 t ∧ f = .bool (hasU xs KK q t) ∧ In w1.heap.size w1 wr) (fun _ j _ => n - (intOf j).toNat)
      case atStart => exact ⟨0, Nat.zero_le _, rfl, rfl, In.refl _⟩
      case round =>
        obtain ⟨t, ht, rfl, rfl, hi⟩ := hrel
        by_cases htn : t < n
        · obtain ⟨a, rfl, ha0, ha1, ha2⟩ := (HX.out.in_ (HI1.out.trans hi)).2 t htn
          have HU := Lib.hid (hasU_succ xs KK q t)
          generalize xs.getD t z17 = x at ha0 ha1 ha2 HU
          obtain ⟨x0, x1, x2⟩ := x
          simp only at ha0 ha1 ha2 HU
          cases hf : hasU xs KK q t
          · by_cases h0 : x0 = KK
            · by_cases h1 : x1 = q
              all_goals
                have HG := Lib.hid HU.out
                rw [hf] at HU
                go_wp2
                go_roundw
                case rel => exact ⟨t + 1, by omega, by go_num, by rw [HU.out]; simp [h0, h1], by (repeat (first | exact In.refl _ | assumption | apply In.alloc | apply In.drewN | apply In.drew | (refine In.step ?_ (by assumption))))⟩
                case measure => simp [intOf]; omega
            · rw [hf] at HU
              go_wp2
              go_roundw
              case rel => exact ⟨t + 1, by omega, by go_num, by rw [HU.out]; simp [h0], by (repeat (first | exact In.refl _ | assumption | apply In.alloc | apply In.drewN | apply In.drew | (refine In.step ?_ (by assumption))))⟩
              case measure => simp [intOf]; omega
          · rw [hf] at HU
            go_wp2
            go_roundw
            case rel => exact ⟨t + 1, by omega, by go_num, by rw [HU.out]; simp, by (repeat (first | exact In.refl _ | assumption | apply In.alloc | apply In.drewN | apply In.drew | (refine In.step ?_ (by assumption))))⟩
            case measure => simp [intOf]; omega
        · obtain rfl : t = n := by omega
          have hlt := HLT.out
          have hK1 : 1 ≤ KK ∧ KK ≤ 50 := by have := HQ.out; omega
          obtain ⟨hK1, hK2⟩ := hK1
          have hown : wr.ownsRow w.heap.size 3 1 (.slice A1 m c1) m (iv L) := own_step HO1.out hi.below
          have hi1 := HI1.out.trans hi
          clear hi
          cases hf : hasU xs KK q t
          · have HE := Lib.hid (HF.out (HPV.out.trans hf))
            go_wp2
            go_roundw
            case rel => exact ⟨k + 1, by omega, by rw [← HQ.out]; go_num, by rw [HE.out, HM.out]; exact hown, by (repeat (first | exact In.refl _ | assumption | apply In.alloc | apply In.drewN | apply In.drew | (refine In.step ?_ (by assumption))))⟩
            case measure => rw [← HQ.out]; simp [intOf]; omega
          · have HE := Lib.hid (HT.out (HPV.out.trans hf))
            have hm60 : m ≤ 60 := by omega
            clear hlt hkI
            have F9 : Hid (∀ u ∈ (#[Value.int .i64 (KK)] : Array Value).toList, u.oneCell' = true) := Lib.hid (by intro u hu; simp at hu; subst hu; rfl)
            have f92 : m + 1 ≤ maxLen := by unfold maxLen; omega
            have f93 : (m + 1) * 8 ≤ 140737488355328 := by omega
            have hB9 : w.heap.size ≤ wr.heap.size := In.size (B := w.heap.size) (a := w) (by (repeat (first | exact In.refl _ | assumption | apply In.alloc | apply In.drewN | apply In.drew | (refine In.step ?_ (by assumption)))))
            go_wp2_with (first | (go_at_call 46; refine (sIn _ _ _ _).mono ?_; rintro e w' ⟨rfl, rfl⟩) | (go_at_call 48; refine (iIn _ _ _ _).mono ?_; rintro e w' ⟨rfl, rfl⟩) | (at_builtin; refine wpList_app wr rfl (.tmp 44) (.tmp 46) 24 rfl w.heap.size 3 i0 (.int .i64 0) 1 8 Try.underlying24 hi0 hz0 hz1 hz2 rfl Nat.one_pos (.slice A1 m c1) (m) (iv (L)) rfl hown 1 #[.int .i64 (KK)] rfl rfl F9.out f92 f93 hB9 ?_; intro v9 w9 hown9 hbw9) | go_in | (go_end0; simp only []; go_at_K))
            have hi9 : In w.heap.size w w9 := In.wide hi1 hbw9
            have hown2 : w9.ownsRow w.heap.size 3 1 v9 (idxTo (loP t xs q) (k + 1 + 1)).length (iv (idxTo (loP t xs q) (k + 1 + 1))) := by
              have e9 : ((k + 1 : Nat) : Int) = KK := by have := HQ.out; omega
              rw [HE.out, iv_app, List.length_append, HM.out, e9]; exact hown9
            clear hown9 hbw9 hown f92 f93 hB9
            go_wp2
            go_roundw
            case rel => exact ⟨k + 1, by have := HLT.out; omega, by rw [← HQ.out]; go_num, hown2, hi9⟩
            case measure => have := HLT.out; rw [← HQ.out]; simp [intOf]; omega
    · obtain rfl : k = 50 := by omega
      go_wp2
      go_ret
      rw [HV.out]
      exact rowB_of rfl hown hi.below
end Go.Proofs.Ytegkaemcoghbeaa
