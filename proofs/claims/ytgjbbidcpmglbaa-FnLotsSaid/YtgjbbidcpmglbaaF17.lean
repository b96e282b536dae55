/- Chapter 17: BreadsOf, LotsOf: the program. -/
import Derived.Test.YtgjbbidcpmglbaaE17
import Derived.Test.YtgjbbidcpmglbaaSetB
import Derived.Test.YtgjbbidcpmglbaaLib17
import Derived.Shelf.SlIterI.Nil
namespace Go.Proofs.Ytgjbbidcpmglbaa
open Go.Maps Go.Sort Go.Shelf Go.ChangeShapes Go.WideShapes Go.ChangeAt Go.RowKit
set_option linter.unusedVariables false
set_option linter.unusedSimpArgs false
set_option maxHeartbeats 2000000

theorem sortsIn (m : Nat) : AnyZI.SortsIn Try.prog Try.sortedA_ren Fence.wide m :=
  ⟨fun blk off cap ss W hH hblk hsz => callsIn_wide.2 (AnyM.slices_Sort_int Try.sortA blk off cap ss W hH hblk hsz),
   fun p cap W => callsIn_wide.2 (AnyM.slices_Sort_int_none Try.sortA p cap W)⟩
theorem iKeys (mb : Option Nat) (W : World) : Calls Try.prog 83 #[.map mb] W fun e w' => e = .returned (.func (.func 115) #[] #[.pointer (some ⟨W.heap.size, 0, none⟩)]) ∧ w' = W.alloc (.cells #[.map mb] 108) :=
  (callsIn_wide (n := 5)).1 (AnyZI.keys_in Try.keysA Fence.wide 5 trivial rfl mb W)
theorem iSorted (b n : Nat) (p : Int → Bool) (W : World) (hs : SetF W b n p) (hn : n ≤ 1000) (L : List Int) (hL : L.Pairwise (· < ·)) (hm : ∀ x, x ∈ L ↔ p x = true) :
    Calls Try.prog 82 #[.func (.func 115) #[] #[.pointer (some ⟨W.heap.size, 0, none⟩)]] (W.alloc (.cells #[.map (some b)] 108)) (RowB L (W.alloc (.cells #[.map (some b)] 108))) := by
  obtain ⟨D, hown, hr⟩ := hs
  have hsz := own_size hown
  have hseq : SeqGives Fence.wide 2 Try.prog 115 #[.pointer (some ⟨W.heap.size, 0, none⟩)] encZ (fun ss => ss.Perm (intKeys D)) (Maps.size D) (W.alloc (.cells #[.map (some b)] 108)) :=
    AnyZI.keys_gives (ρ := Try.keysA_ren) { Try.keysA with } Fence.wide _ trivial rfl (by omega) W.heap.size b n D _ (by simp) (by simp) (World.ownsMap.alloc hown _)
  have cS := AnyZI.sorted_in Try.sortedA Fence.wide 5 trivial trivial trivial trivial rfl (by omega) (sortsIn _) (enters_of Try.func81 (by kernel_rfl) rfl) 115 #[.pointer (some ⟨W.heap.size, 0, none⟩)] trivial (enters_of Try.func115 (by kernel_rfl) rfl) _ _ (by unfold maxLen; omega) (by omega) _ hseq
  refine ((callsIn_wide (n := 5)).1 cS).mono ?_
  rintro _ w' ⟨v, ss, rfl, hS, hrow, hnil, hb⟩
  have e := keys_of hown hr L hL hm hS
  rw [show (ss.mergeSort fun x y => decide (x ≤ y)) = ss.mergeSort leI from rfl, e] at hrow
  have hl : ss.length = L.length := by rw [← e, List.length_mergeSort]
  rw [hl] at hrow
  obtain ⟨A1, c1, rfl⟩ := own_shape_i hrow
  have hrow2 : w'.ownsRow (W.alloc (.cells #[.map (some b)] 108)).heap.size 3 1 (.slice A1 L.length c1) L.length (iv L) := hrow
  exact rowB_of rfl hrow2 hb
def setBreadsOf (xs : List UseR) (q : Int) : Nat → Int → Bool
  | 0 => noneB
  | k + 1 => if (xs.getD k z17).f0 = q then ins (setBreadsOf xs q k) (xs.getD k z17).f1 else setBreadsOf xs q k
theorem setBreadsOf_eq (xs : List UseR) (q : Int) (k : Nat) (x : Int) : setBreadsOf xs q k x = hasU xs q x k := by
  induction k with
  | zero => rfl
  | succ k ih =>
    rw [setBreadsOf, hasU_succ, ← ih]
    generalize xs.getD k z17 = u
    by_cases h : u.f0 = q
    · rw [if_pos h, h]
      by_cases h2 : u.f1 = x
      · rw [h2]; simp [ins]
      · have h3 := Ne.symm h2
        simp [ins, h2, h3]
    · rw [if_neg h]; simp [h]
set_option maxRecDepth 20000 in
set_option maxHeartbeats 4000000 in
theorem iBreadsOf (A : Option Addr) (n c : Nat) (xs : List UseR) (q : Int) (w : World) (hn : n ≤ maxLen) (hx : ReadsUse w A n xs) : Calls Try.prog 41 #[.slice A n c, .int .i64 q] w (RowB (BreadsOfL n xs q) w) := by
  have HX := Lib.hid hx
  have HN := Lib.hid hn
  clear hx hn
  cases hB : usesB n xs
  · have HV : Hid (BreadsOfL n xs q = []) := Lib.hid (by simp [BreadsOfL, hB])
    go_enter Try.func41, Try.ntmps41
    go_wp2_with fail
    refine (iUsesOk A n c xs _ HN.out HX.out).mono ?_
    rintro _ w1 ⟨rfl, hb1⟩
    rw [hB]
    go_wp2
    go_ret
    rw [HV.out]
    exact rowB_of rfl ⟨rfl, .inl ⟨rfl, rfl⟩⟩ (In.below (by (repeat (first | exact In.refl _ | assumption | apply In.alloc | apply In.drewN | apply In.drew | (refine In.step ?_ (by assumption))))))
  have HV : Hid (BreadsOfL n xs q = idxTo (brP n xs q) 51) := Lib.hid (by simp [BreadsOfL, hB])
  obtain ⟨h60, hs⟩ := uses_at hB
  have HS := Lib.hid hs
  clear hs
  have HM : Hid (∀ x, x ∈ idxTo (brP n xs q) 51 ↔ setBreadsOf xs q n x = true) := Lib.hid fun x => by
    rw [mem_idxTo, setBreadsOf_eq]
    constructor
    · rintro ⟨h1, h2, h3⟩
      simpa [brP, Int.toNat_of_nonneg h1] using h3
    · intro h
      have := hasU_in HS.out h
      exact ⟨by omega, by omega, by simpa [brP, Int.toNat_of_nonneg (show 0 ≤ x by omega)] using h⟩
  go_enter Try.func41, Try.ntmps41
  go_wp2_with fail
  refine (iUsesOk A n c xs _ HN.out HX.out).mono ?_
  rintro _ w1 ⟨rfl, hb1⟩
  rw [hB]
  have HI1 := Lib.hid (In.step (In.refl w) hb1)
  clear hb1
  have hset0 : SetF (w1.alloc (.map #[] 0)) w1.heap.size 0 (setBreadsOf xs q 0) := SetF.made w1
  have HSET0 := Lib.hid hset0
  clear hset0
  have hmm := @run_makeMap Try.prog
  go_wp2
  clear hmm
  have hset0 := HSET0.out
  go_loopw [14] (fun i wr => ∃ k m : Nat, k ≤ n ∧ m ≤ k ∧ i = .int .i64 k ∧ SetF wr w1.heap.size m (setBreadsOf xs q k) ∧ In w1.heap.size w1 wr) (fun i _ => n - (intOf i).toNat)
  case atStart => exact ⟨0, 0, Nat.zero_le _, Nat.le_refl _, rfl, hset0, by (repeat (first | exact In.refl _ | assumption | apply In.alloc | apply In.drewN | apply In.drew | (refine In.step ?_ (by assumption))))⟩
  case round =>
    clear hset0
    obtain ⟨k, m, hk, hm, rfl, hset, hi⟩ := hrel
    by_cases hlt : k < n
    · obtain ⟨a, rfl, ha0, ha1, ha2⟩ := (HX.out.in_ (HI1.out.trans hi)).2 k hlt
      have HU : Hid (setBreadsOf xs q (k + 1) = if (xs.getD k z17).f0 = q then ins (setBreadsOf xs q k) (xs.getD k z17).f1 else setBreadsOf xs q k) := Lib.hid rfl
      have HB := use_in (HS.out k hlt)
      generalize xs.getD k z17 = x at ha0 ha1 ha2 HU HB
      obtain ⟨x0, x1, x2⟩ := x
      simp only at ha0 ha1 ha2 HU HB
      by_cases h1 : x0 = q
      · have HE : Hid (setBreadsOf xs q (k + 1) = ins (setBreadsOf xs q k) x1) := Lib.hid (by rw [HU.out, if_pos h1])
        have HSET := Lib.hid hset
        clear HU hset
        have hwf : (Lit.int .i64 x1).wf = true := WalkArith.wf_i64 (by omega)
        have HWF := Lib.hid hwf
        clear hwf
        go_wp2_with (first | (at_mapUpdate; refine wpList_storeB _ rfl _ _ _ rfl w1.heap.size m (setBreadsOf xs q k) rfl (SetF.alloc HSET.out _) (by unfold maxLen; omega) x1 rfl rfl HWF.out ?_; intro w2 hset2 hg2))
        have hi3 := hg2.size
        have hi2 : In w1.heap.size w1 w2 := In.wide (In.alloc hi _) (below_of_only hg2 (Nat.le_refl _) (In.size (In.alloc hi _)))
        clear hi3
        go_wp2
        go_roundw
        case rel => exact ⟨k + 1, m + 1, by omega, by omega, by go_num, by rw [HE.out]; exact hset2, hi2⟩
        case measure => simp [intOf]; omega
      · have HE : Hid (setBreadsOf xs q (k + 1) = setBreadsOf xs q k) := Lib.hid (by rw [HU.out, if_neg h1])
        go_wp2
        go_roundw
        case rel => exact ⟨k + 1, m, by omega, by omega, by go_num, by rw [HE.out]; (with_reducible (repeat (first | assumption | apply SetF.drew | apply SetF.alloc))), by (repeat (first | exact In.refl _ | assumption | apply In.alloc | apply In.drewN | apply In.drew | (refine In.step ?_ (by assumption))))⟩
        case measure => simp [intOf]; omega
    · obtain rfl : k = n := by omega
      have HSET := Lib.hid hset
      have hi2 := HI1.out.trans hi
      clear hset hi
      go_wp2_with fail
      refine (iKeys (some w1.heap.size) _).mono ?_
      rintro _ _ ⟨rfl, rfl⟩
      go_wp2_with fail
      refine (iSorted w1.heap.size m (setBreadsOf xs q k) _ HSET.out (by omega) (idxTo (brP k xs q) 51) (idxTo_pair _ _) HM.out).mono ?_
      rintro _ w3 ⟨A3, c3, rfl, ho3, hb3⟩
      have hi4 : In w.heap.size w (wr.alloc (.cells #[.map (some w1.heap.size)] 108)) := hi2.alloc _
      have hs4 := hi4.size
      have hi3 : In w.heap.size w w3 := In.step hi4 hb3
      have ho4 := own_base ho3 hs4
      clear ho3 hb3 hi4 hs4
      go_wp2
      go_ret
      rw [HV.out]
      exact rowB_of rfl ho4 hi3.below
def setLotsOf (xs : List UseR) (q : Int) : Nat → Int → Bool
  | 0 => noneB
  | k + 1 => if (xs.getD k z17).f1 = q then ins (setLotsOf xs q k) (xs.getD k z17).f0 else setLotsOf xs q k
theorem setLotsOf_eq (xs : List UseR) (q : Int) (k : Nat) (x : Int) : setLotsOf xs q k x = hasU xs x q k := by
  induction k with
  | zero => rfl
  | succ k ih =>
    rw [setLotsOf, hasU_succ, ← ih]
    generalize xs.getD k z17 = u
    by_cases h : u.f1 = q
    · rw [if_pos h, h]
      by_cases h2 : u.f0 = x
      · rw [h2]; simp [ins]
      · have h3 := Ne.symm h2
        simp [ins, h2, h3]
    · rw [if_neg h]; simp [h]
set_option maxRecDepth 20000 in
set_option maxHeartbeats 4000000 in
theorem iLotsOf (A : Option Addr) (n c : Nat) (xs : List UseR) (q : Int) (w : World) (hn : n ≤ maxLen) (hx : ReadsUse w A n xs) : Calls Try.prog 42 #[.slice A n c, .int .i64 q] w (RowB (LotsOfL n xs q) w) := by
  have HX := Lib.hid hx
  have HN := Lib.hid hn
  clear hx hn
  cases hB : usesB n xs
  · have HV : Hid (LotsOfL n xs q = []) := Lib.hid (by simp [LotsOfL, hB])
    go_enter Try.func42, Try.ntmps42
    go_wp2_with fail
    refine (iUsesOk A n c xs _ HN.out HX.out).mono ?_
    rintro _ w1 ⟨rfl, hb1⟩
    rw [hB]
    go_wp2
    go_ret
    rw [HV.out]
    exact rowB_of rfl ⟨rfl, .inl ⟨rfl, rfl⟩⟩ (In.below (by (repeat (first | exact In.refl _ | assumption | apply In.alloc | apply In.drewN | apply In.drew | (refine In.step ?_ (by assumption))))))
  have HV : Hid (LotsOfL n xs q = idxTo (loP n xs q) 51) := Lib.hid (by simp [LotsOfL, hB])
  obtain ⟨h60, hs⟩ := uses_at hB
  have HS := Lib.hid hs
  clear hs
  have HM : Hid (∀ x, x ∈ idxTo (loP n xs q) 51 ↔ setLotsOf xs q n x = true) := Lib.hid fun x => by
    rw [mem_idxTo, setLotsOf_eq]
    constructor
    · rintro ⟨h1, h2, h3⟩
      simpa [loP, Int.toNat_of_nonneg h1] using h3
    · intro h
      have := hasU_in HS.out h
      exact ⟨by omega, by omega, by simpa [loP, Int.toNat_of_nonneg (show 0 ≤ x by omega)] using h⟩
  go_enter Try.func42, Try.ntmps42
  go_wp2_with fail
  refine (iUsesOk A n c xs _ HN.out HX.out).mono ?_
  rintro _ w1 ⟨rfl, hb1⟩
  rw [hB]
  have HI1 := Lib.hid (In.step (In.refl w) hb1)
  clear hb1
  have hset0 : SetF (w1.alloc (.map #[] 0)) w1.heap.size 0 (setLotsOf xs q 0) := SetF.made w1
  have HSET0 := Lib.hid hset0
  clear hset0
  have hmm := @run_makeMap Try.prog
  go_wp2
  clear hmm
  have hset0 := HSET0.out
  go_loopw [14] (fun i wr => ∃ k m : Nat, k ≤ n ∧ m ≤ k ∧ i = .int .i64 k ∧ SetF wr w1.heap.size m (setLotsOf xs q k) ∧ In w1.heap.size w1 wr) (fun i _ => n - (intOf i).toNat)
  case atStart => exact ⟨0, 0, Nat.zero_le _, Nat.le_refl _, rfl, hset0, by (repeat (first | exact In.refl _ | assumption | apply In.alloc | apply In.drewN | apply In.drew | (refine In.step ?_ (by assumption))))⟩
  case round =>
    clear hset0
    obtain ⟨k, m, hk, hm, rfl, hset, hi⟩ := hrel
    by_cases hlt : k < n
    · obtain ⟨a, rfl, ha0, ha1, ha2⟩ := (HX.out.in_ (HI1.out.trans hi)).2 k hlt
      have HU : Hid (setLotsOf xs q (k + 1) = if (xs.getD k z17).f1 = q then ins (setLotsOf xs q k) (xs.getD k z17).f0 else setLotsOf xs q k) := Lib.hid rfl
      have HB := use_in (HS.out k hlt)
      generalize xs.getD k z17 = x at ha0 ha1 ha2 HU HB
      obtain ⟨x0, x1, x2⟩ := x
      simp only at ha0 ha1 ha2 HU HB
      by_cases h1 : x1 = q
      · have HE : Hid (setLotsOf xs q (k + 1) = ins (setLotsOf xs q k) x0) := Lib.hid (by rw [HU.out, if_pos h1])
        have HSET := Lib.hid hset
        clear HU hset
        have hwf : (Lit.int .i64 x0).wf = true := WalkArith.wf_i64 (by omega)
        have HWF := Lib.hid hwf
        clear hwf
        go_wp2_with (first | (at_mapUpdate; refine wpList_storeB _ rfl _ _ _ rfl w1.heap.size m (setLotsOf xs q k) rfl (SetF.alloc HSET.out _) (by unfold maxLen; omega) x0 rfl rfl HWF.out ?_; intro w2 hset2 hg2))
        have hi3 := hg2.size
        have hi2 : In w1.heap.size w1 w2 := In.wide (In.alloc hi _) (below_of_only hg2 (Nat.le_refl _) (In.size (In.alloc hi _)))
        clear hi3
        go_wp2
        go_roundw
        case rel => exact ⟨k + 1, m + 1, by omega, by omega, by go_num, by rw [HE.out]; exact hset2, hi2⟩
        case measure => simp [intOf]; omega
      · have HE : Hid (setLotsOf xs q (k + 1) = setLotsOf xs q k) := Lib.hid (by rw [HU.out, if_neg h1])
        go_wp2
        go_roundw
        case rel => exact ⟨k + 1, m, by omega, by omega, by go_num, by rw [HE.out]; (with_reducible (repeat (first | assumption | apply SetF.drew | apply SetF.alloc))), by (repeat (first | exact In.refl _ | assumption | apply In.alloc | apply In.drewN | apply In.drew | (refine In.step ?_ (by assumption))))⟩
        case measure => simp [intOf]; omega
    · obtain rfl : k = n := by omega
      have HSET := Lib.hid hset
      have hi2 := HI1.out.trans hi
      clear hset hi
      go_wp2_with fail
      refine (iKeys (some w1.heap.size) _).mono ?_
      rintro _ _ ⟨rfl, rfl⟩
      go_wp2_with fail
      refine (iSorted w1.heap.size m (setLotsOf xs q k) _ HSET.out (by omega) (idxTo (loP k xs q) 51) (idxTo_pair _ _) HM.out).mono ?_
      rintro _ w3 ⟨A3, c3, rfl, ho3, hb3⟩
      have hi4 : In w.heap.size w (wr.alloc (.cells #[.map (some w1.heap.size)] 108)) := hi2.alloc _
      have hs4 := hi4.size
      have hi3 : In w.heap.size w w3 := In.step hi4 hb3
      have ho4 := own_base ho3 hs4
      clear ho3 hb3 hi4 hs4
      go_wp2
      go_ret
      rw [HV.out]
      exact rowB_of rfl ho4 hi3.below
end Go.Proofs.Ytgjbbidcpmglbaa
