/- Chapter 17: Suspects: the program. -/
import Derived.Test.YtgjbbidcpmglbaaF17
import Derived.Test.YtgjbbidcpmglbaaG17
import Derived.Test.YtgjbbidcpmglbaaLib17b
import Derived.Lib.SlicesCompact
import Derived.Lib.RowBridge
namespace Go.Proofs.Ytgjbbidcpmglbaa
open Go.Maps Go.Sort Go.Shelf Go.ChangeShapes Go.WideShapes Go.ChangeAt Go.RowKit
set_option linter.unusedVariables false
set_option linter.unusedSimpArgs false
set_option maxHeartbeats 2000000

theorem lt_ext {a b : List Int} (ha : a.Pairwise (· < ·)) (hb : b.Pairwise (· < ·)) (h : ∀ x, x ∈ a ↔ x ∈ b) : a = b := by
  have na : a.Nodup := ha.imp fun h => Int.ne_of_lt h
  have nb : b.Nodup := hb.imp fun h => Int.ne_of_lt h
  refine List.Perm.eq_of_pairwise (le := fun a b => leI a b = true) (fun a b _ _ h1 h2 => ?_) (ha.imp fun h => ?_) (hb.imp fun h => ?_) ((List.perm_ext_iff_of_nodup na nb).2 h)
  · simp only [leI, decide_eq_true_eq] at h1 h2
    exact Int.le_antisymm h1 h2
  · simp only [leI, decide_eq_true_eq]; omega
  · simp only [leI, decide_eq_true_eq]; omega
theorem comp_spec (d : Array Int) (n : Nat) (hs : ∀ i j, i ≤ j → j < n → d[i]! ≤ d[j]!) (m : Nat) (hm : m ≤ n) :
    (Lib.compactUpTo d m).Pairwise (· < ·) ∧ ∀ x, x ∈ Lib.compactUpTo d m ↔ ∃ j, j < m ∧ d[j]! = x := by
  induction m with
  | zero => simp [Lib.compactUpTo]
  | succ m ih =>
    obtain ⟨h1, h2⟩ := ih (by omega)
    rw [Lib.compactUpTo_succ]
    cases hk : Lib.keeps d m
    · simp only [Bool.false_eq_true, if_false, List.append_nil]
      simp only [Lib.keeps, decide_eq_false_iff_not, not_or, Decidable.not_not] at hk
      obtain ⟨k1, k2⟩ := hk
      refine ⟨h1, fun x => ?_⟩
      rw [h2]
      constructor
      · rintro ⟨j, hj, e⟩; exact ⟨j, by omega, e⟩
      · rintro ⟨j, hj, e⟩
        by_cases hjm : j = m
        · subst hjm; exact ⟨j - 1, by omega, by rw [← e]; exact k2.symm⟩
        · exact ⟨j, by omega, e⟩
    · simp only [if_true]
      simp only [Lib.keeps, decide_eq_true_eq] at hk
      refine ⟨List.pairwise_append.2 ⟨h1, List.pairwise_singleton _ _, fun a ha b hb => ?_⟩, fun x => ?_⟩
      · obtain ⟨j, hj, rfl⟩ := (h2 a).1 ha
        have eb : b = d[m]! := by simpa using hb
        subst eb
        have k1 := hk.resolve_left (by omega)
        have a1 := hs j (m - 1) (by omega) (by omega)
        have a2 := hs (m - 1) m (by omega) (by omega)
        omega
      · rw [List.mem_append, h2, List.mem_singleton]
        constructor
        · rintro (⟨j, hj, e⟩ | e)
          · exact ⟨j, by omega, e⟩
          · exact ⟨m, by omega, e.symm⟩
        · rintro ⟨j, hj, e⟩
          by_cases hjm : j = m
          · subst hjm; exact .inr e.symm
          · exact .inl ⟨j, by omega, e⟩
theorem comp_eq (bad : List Int) (hb : ∀ i, i < bad.length → 1 ≤ bad.getD i 0 ∧ bad.getD i 0 ≤ 50) : Lib.compact (bad.mergeSort leI) = idxTo (mP bad) 51 := by
  have tr : ∀ a b c : Int, leI a b = true → leI b c = true → leI a c = true := fun a b c h1 h2 => by simp only [leI, decide_eq_true_eq] at *; exact Int.le_trans h1 h2
  have to : ∀ a b : Int, (leI a b || leI b a) = true := fun a b => by simp only [leI, Bool.or_eq_true, decide_eq_true_eq]; exact Int.le_total a b
  have hp := List.pairwise_mergeSort tr to bad
  have hm : ∀ x, x ∈ bad.mergeSort leI ↔ x ∈ bad := fun x => (List.mergeSort_perm bad leI).mem_iff
  generalize bad.mergeSort leI = ys at hp hm
  have hget : ∀ j, j < ys.length → ys.toArray[j]! = ys.getD j 0 := fun j hj => by simp [hj]
  have hs : ∀ i j, i ≤ j → j < ys.length → ys.toArray[i]! ≤ ys.toArray[j]! := fun i j hij hj => by
    by_cases e : i = j
    · subst e; exact Int.le_refl _
    · have := List.pairwise_iff_getElem.1 hp i j (by omega) hj (by omega)
      simp only [leI, decide_eq_true_eq] at this
      simpa [hj, show i < ys.length by omega] using this
  obtain ⟨h1, h2⟩ := comp_spec ys.toArray ys.length hs ys.length (Nat.le_refl _)
  refine lt_ext h1 (idxTo_pair _ _) fun x => ?_
  rw [mem_idxTo]
  show x ∈ Lib.compactUpTo ys.toArray ys.length ↔ _
  rw [h2]
  constructor
  · rintro ⟨j, hj, e⟩
    rw [hget j hj, List.getD_eq_getElem?_getD, List.getElem?_eq_getElem hj, Option.getD_some] at e
    have hx : x ∈ bad := (hm x).1 (e ▸ List.getElem_mem hj)
    obtain ⟨k, hk, e2⟩ := List.getElem_of_mem hx
    have := hb k hk
    rw [List.getD_eq_getElem?_getD, List.getElem?_eq_getElem hk, Option.getD_some, e2] at this
    exact ⟨by omega, by omega, by simpa [mP, memL, Int.toNat_of_nonneg (show 0 ≤ x by omega)] using hx⟩
  · rintro ⟨h0, h51, hx⟩
    have hx : x ∈ bad := by simpa [mP, memL, Int.toNat_of_nonneg h0] using hx
    obtain ⟨k, hk, e2⟩ := List.getElem_of_mem ((hm x).2 hx)
    exact ⟨k, hk, by rw [hget k hk, List.getD_eq_getElem?_getD, List.getElem?_eq_getElem hk, Option.getD_some]; exact e2⟩
theorem own_block {w : World} {base g n cap : Nat} {xs : List Int} (h : w.ownsRow base 3 1 (.slice (some ⟨g, 0, none⟩) n cap) n (iv xs)) : ∃ cur : Array Value, base ≤ g ∧ w.heap[g]? = some (.cells cur 3 (0, 0)) ∧ n ≤ cap ∧ cap ≤ maxLen ∧ cur.size = cap * 1 ∧ cur.toList.take (n * 1) = iv xs := by
  rcases h.2 with ⟨hv, hz⟩ | ⟨g', cap', cur, hv, hbase, hb, r1, r2, r3, r4⟩
  · cases hv
  · injection hv with e1 e2 e3
    injection e1 with e1
    injection e1 with e1
    subst e1 e3
    exact ⟨cur, hbase, hb, r1, r2, r3, r4⟩
theorem iSortR (base g n cap : Nat) (xs : List Int) (w : World) (hn : n ≤ 1000) (h : w.ownsRow base 3 1 (.slice (some ⟨g, 0, none⟩) n cap) n (iv xs)) :
    Calls Try.prog 81 #[.slice (some ⟨g, 0, none⟩) n cap] w fun e w' => e = .returned (.tuple #[]) ∧ w'.ownsRow base 3 1 (.slice (some ⟨g, 0, none⟩) n cap) n (iv (xs.mergeSort leI)) ∧ w.grownBy w' (some g) := by
  have hl : xs.length = n := own_len_i h
  obtain ⟨cur, hbase, hb, r1, r2, r3, r4⟩ := own_block h
  subst hl
  have hH : Holds encZ w g 0 xs.toArray := holds_of_block_i hb (by rw [Nat.mul_one] at r4; exact r4)
  have hg : g < w.heap.size := (Array.getElem?_eq_some_iff.1 hb).1
  refine (AnyM.slices_Sort_int Try.sortA g 0 cap xs w hH hg (by omega)).mono ?_
  rintro e w' ⟨he, nn, os, rfl⟩
  exact ⟨he, ownsRow_sorted_i (List.length_mergeSort xs) hbase hb r1 r2 r3, grownBy_sorted_i _⟩
theorem iCompR (base g n cap : Nat) (xs : List Int) (w : World) (hn : n ≤ 1000) (h : w.ownsRow base 3 1 (.slice (some ⟨g, 0, none⟩) n cap) n (iv xs)) :
    Calls Try.prog 85 #[.slice (some ⟨g, 0, none⟩) n cap] w fun e w' => e = .returned (.slice (some ⟨g, 0, none⟩) (Lib.compact xs).length cap) ∧ w'.ownsRow base 3 1 (.slice (some ⟨g, 0, none⟩) (Lib.compact xs).length cap) (Lib.compact xs).length (iv (Lib.compact xs)) ∧ w.grownBy w' (some g) := by
  have hl : xs.length = n := own_len_i h
  obtain ⟨cur, hbase, hb, r1, r2, r3, r4⟩ := own_block h
  subst hl
  have hH : Holds encZ w g 0 xs.toArray := holds_of_block_i hb (by rw [Nat.mul_one] at r4; exact r4)
  have hcl := Lib.compact_length_le xs
  refine (AnyG.slices_Compact_int Try.compA g 0 cap xs w hH (by omega) r1).mono ?_
  rintro e w' ⟨he, q, rfl⟩
  have ew := (grow_empty (putRow (Value.int .i64) (Sort.ahead w q) g 0 (Lib.compact xs ++ List.replicate (xs.length - (Lib.compact xs).length) 0).toArray)).symm
  generalize hts : Lib.compact xs ++ List.replicate (xs.length - (Lib.compact xs).length) 0 = ts at ew ⊢
  have htl : ts.length = xs.length := by rw [← hts]; simp; omega
  have htk : ts.take (Lib.compact xs).length = Lib.compact xs := by rw [← hts]; simp
  rw [ew]
  refine ⟨he, ⟨by simp [iv], .inr ⟨g, cap, _, rfl, hbase, heap_sorted_i _ hb, by omega, r2, by simp [putCells, r3], ?_⟩⟩, grownBy_sorted_i _⟩
  have h9 := congrArg (List.take (Lib.compact xs).length) (take_putCells_i cur ts (by omega))
  rw [List.take_take, Nat.min_eq_left (by omega), ← List.map_take, htk] at h9
  rw [Nat.mul_one]
  exact h9
theorem iCloneR (g n c : Nat) (xs : List Int) (w : World) (hn : n ≤ 1000) (h1 : 1 ≤ n) (hx : ReadsI w (some ⟨g, 0, none⟩) n xs) :
    Calls Try.prog 84 #[.slice (some ⟨g, 0, none⟩) n c] w fun e w' => ∃ g cap, e = .returned (.slice (some ⟨g, 0, none⟩) n cap) ∧ w'.ownsRow w.heap.size 3 1 (.slice (some ⟨g, 0, none⟩) n cap) n (iv xs) ∧ w.heap.size ≤ g ∧ Below w.heap.size w w' := by
  have hl := hx.1
  refine (AnyG.slices_Clone_int Try.cloneA g 0 n c xs w (by omega) (by omega) (fun j hj => ?_)).mono ?_
  · obtain ⟨a, ha, hc⟩ := hx.2 j (by omega)
    injection ha with ha
    subst ha
    rw [Addr.add_lit] at hc
    exact hc
  · rintro e w' ⟨v, rfl, ho, hne, hb⟩
    rw [List.take_of_length_le (by omega)] at ho
    rcases ho.2 with ⟨hv, hz⟩ | ⟨g', cap', cur, rfl, hbase, r⟩
    · omega
    · exact ⟨g', cap', rfl, ho, hbase, hb⟩
theorem iEqR (B1 B2 : Nat) (A1 : Option Addr) (n1 c1 g n cap : Nat) (xs ys : List Int) (w : World) (hn1 : n1 ≤ 1000) (hn : n ≤ 1000) (h1 : w.ownsRow B1 3 1 (.slice A1 n1 c1) n1 (iv xs)) (h2 : w.ownsRow B2 3 1 (.slice (some ⟨g, 0, none⟩) n cap) n (iv ys)) :
    Calls Try.prog 86 #[.slice A1 n1 c1, .slice (some ⟨g, 0, none⟩) n cap] w fun e w' => e = .returned (.bool (eqL xs ys)) ∧ Below w.heap.size w w' := by
  have l1 := own_len_i h1
  have l2 := own_len_i h2
  have hcell : ∀ (B g n cap : Nat) (zs : List Int), w.ownsRow B 3 1 (.slice (some ⟨g, 0, none⟩) n cap) n (iv zs) → ∀ j, j < zs.length → w.cell? ⟨g, 0 + j, none⟩ = some (.int .i64 (zs.getD j 0)) := fun B g n cap zs h j hj => by
    have hr := reads_own_i h
    have hll := own_len_i h
    obtain ⟨a, ha, hc⟩ := hr.2 j (by omega)
    injection ha with ha
    subst ha
    rw [Addr.add_lit] at hc
    exact hc
  rcases h1.2 with ⟨hv, hz⟩ | ⟨g', cap', cur, hv, hbase, r⟩
  · injection hv with e1 e2 e3
    subst e1 e3 hz
    refine (AnyG.slices_Equal_int_empty Try.equA none _ 0 n cap w (by omega)).mono ?_
    rintro e w' ⟨rfl, rfl⟩
    refine ⟨ret_bool ?_, Below.refl _ _⟩
    have : xs = [] := List.eq_nil_of_length_eq_zero l1
    subst this
    cases ys with
    | nil => simp at l2; simp [eqL, ← l2]
    | cons y ys => simp at l2; simp [eqL, ← l2]
  · injection hv with e1 e2 e3
    subst e1 e3
    refine (AnyG.slices_Equal_int Try.equA g' 0 n1 c1 g 0 n cap xs ys w (by omega) (by omega) (by omega) (by omega) (hcell _ _ _ _ _ h1) (hcell _ _ _ _ _ h2)).mono ?_
    rintro e w' ⟨rfl, q, rfl⟩
    rw [List.take_of_length_le (by omega), List.take_of_length_le (by omega)]
    refine ⟨ret_bool ?_, below_drewN (Below.refl _ _) q⟩
    rw [Bool.eq_iff_iff]
    simp [eqL]
set_option maxRecDepth 20000 in
set_option maxHeartbeats 4000000 in
theorem iSuspects (A : Option Addr) (n c : Nat) (xs : List UseR) (D : Option Addr) (m d : Nat) (bad : List Int) (w : World) (hn : n ≤ maxLen) (hx : ReadsUse w A n xs) (hm : m ≤ maxLen) (hy : ReadsI w D m bad) (hD : ∃ g, D = some ⟨g, 0, none⟩ := by exact ⟨_, rfl⟩) : Calls Try.prog 44 #[.slice A n c, .slice D m d] w (RowB (SuspectsL n xs m bad) w) := by
  obtain ⟨gD, rfl⟩ := hD
  obtain ⟨i0, hi0, hz0, hz1, hz2⟩ := info_parts infoI
  have hml := hy.1
  have HX := Lib.hid hx
  have HY := Lib.hid hy
  have HN := Lib.hid hn
  have HML := Lib.hid hml
  have HM9 := Lib.hid hm
  clear hx hy hn hml hm
  cases hB : usesB n xs
  · have HV : Hid (SuspectsL n xs m bad = []) := Lib.hid (by simp [SuspectsL, hB])
    go_enter Try.func44, Try.ntmps44
    go_wp2_with fail
    refine (iUsesOk A n c xs _ HN.out HX.out).mono ?_
    rintro _ w1 ⟨rfl, hb1⟩
    rw [hB]
    have i1 : In w.heap.size w w1 := In.step (In.refl _) hb1
    have HY1 := Lib.hid (HY.out.below hb1 (Nat.le_refl _))
    go_wp2_with (first | (go_at_call 66; refine (iIn _ _ _ _).mono ?_; rintro e w' ⟨rfl, rfl⟩) | (go_at_call 75; refine (iAll _ m d bad 1 50 _ HM9.out HY1.out).mono ?_; rintro e w' ⟨rfl, rfl⟩))
    go_ret
    rw [HV.out]
    exact rowB_of rfl ⟨rfl, .inl ⟨rfl, rfl⟩⟩ (In.below (by (repeat (first | exact In.refl _ | assumption | apply In.alloc | apply In.drewN | apply In.drew | (refine In.step ?_ (by assumption))))))
  cases hC : inB m 1 50
  · have HV : Hid (SuspectsL n xs m bad = []) := Lib.hid (by simp [SuspectsL, hC])
    go_enter Try.func44, Try.ntmps44
    go_wp2_with fail
    refine (iUsesOk A n c xs _ HN.out HX.out).mono ?_
    rintro _ w1 ⟨rfl, hb1⟩
    rw [hB]
    have i1 : In w.heap.size w w1 := In.step (In.refl _) hb1
    have HY1 := Lib.hid (HY.out.below hb1 (Nat.le_refl _))
    go_wp2_with (first | (go_at_call 66; refine (iIn _ _ _ _).mono ?_; rintro e w' ⟨rfl, rfl⟩) | (go_at_call 75; refine (iAll _ m d bad 1 50 _ HM9.out HY1.out).mono ?_; rintro e w' ⟨rfl, rfl⟩))
    go_ret
    rw [HV.out]
    exact rowB_of rfl ⟨rfl, .inl ⟨rfl, rfl⟩⟩ (In.below (by (repeat (first | exact In.refl _ | assumption | apply In.alloc | apply In.drewN | apply In.drew | (refine In.step ?_ (by assumption))))))
  cases hAL : allIn bad 1 50 m
  · have HV : Hid (SuspectsL n xs m bad = []) := Lib.hid (by simp [SuspectsL, hAL])
    go_enter Try.func44, Try.ntmps44
    go_wp2_with fail
    refine (iUsesOk A n c xs _ HN.out HX.out).mono ?_
    rintro _ w1 ⟨rfl, hb1⟩
    rw [hB]
    have i1 : In w.heap.size w w1 := In.step (In.refl _) hb1
    have HY1 := Lib.hid (HY.out.below hb1 (Nat.le_refl _))
    go_wp2_with (first | (go_at_call 66; refine (iIn _ _ _ _).mono ?_; rintro e w' ⟨rfl, rfl⟩) | (go_at_call 75; refine (iAll _ m d bad 1 50 _ HM9.out HY1.out).mono ?_; rintro e w' ⟨rfl, rfl⟩))
    go_ret
    rw [HV.out]
    exact rowB_of rfl ⟨rfl, .inl ⟨rfl, rfl⟩⟩ (In.below (by (repeat (first | exact In.refl _ | assumption | apply In.alloc | apply In.drewN | apply In.drew | (refine In.step ?_ (by assumption))))))
  have HV : Hid (SuspectsL n xs m bad = idxTo (suP n xs bad) 51) := Lib.hid (by simp [SuspectsL, hB, hC, hAL])
  obtain ⟨h60, hs⟩ := uses_at hB
  have HS := Lib.hid hs
  clear hs
  have hm50 : 1 ≤ m ∧ m ≤ 50 := by have := inB_tt hC; omega
  have HCE : Hid (Lib.compact (bad.mergeSort leI) = idxTo (mP bad) 51) := Lib.hid (comp_eq bad (by rw [HML.out]; exact allIn_at hAL))
  have HP1 : Hid (idxTo (suP n xs bad) 1 = []) := Lib.hid (idxTo_f (by simp [suP]))
  obtain ⟨hm1, hm50⟩ := hm50
  go_enter Try.func44, Try.ntmps44
  go_wp2_with fail
  refine (iUsesOk A n c xs _ HN.out HX.out).mono ?_
  rintro _ w1 ⟨rfl, hb1⟩
  rw [hB]
  have i1 : In w.heap.size w w1 := In.step (In.refl _) hb1
  have HY1 := Lib.hid (HY.out.below hb1 (Nat.le_refl _))
  clear hb1
  go_wp2_with (first | (go_at_call 66; refine (iIn _ _ _ _).mono ?_; rintro e w' ⟨rfl, rfl⟩) | (go_at_call 75; refine (iAll _ m d bad 1 50 _ HM9.out HY1.out).mono ?_; rintro e w' ⟨rfl, rfl⟩))
  go_wp2_with fail
  refine (iCloneR gD m d bad _ (by omega) hm1 (by first | exact HY1.out | exact HY1.out.below (Below.refl _ _).drew (Nat.le_refl _))).mono ?_
  rintro _ w2 ⟨g, cap, rfl, ho, hg, hb2⟩
  have i2 : In w.heap.size w w2 := In.step (by (repeat (first | exact In.refl _ | assumption | apply In.alloc | apply In.drewN | apply In.drew | (refine In.step ?_ (by assumption))))) hb2
  have hg2 : w.heap.size ≤ g := Nat.le_trans i1.size hg
  have o2 := own_base ho i1.size
  clear ho hb2 hg i1
  go_wp2_with fail
  refine (iSortR w.heap.size g m cap bad _ (by omega) (by (with_reducible (repeat (first | assumption | apply World.ownsRow.drew | apply World.ownsRow.alloc))))).mono ?_
  rintro _ w3 ⟨rfl, o3, hg3⟩
  have i3 : In w.heap.size w w3 := In.wide (by (repeat (first | exact In.refl _ | assumption | apply In.alloc | apply In.drewN | apply In.drew | (refine In.step ?_ (by assumption))))) (below_of_only hg3 hg2 (In.size (B := w.heap.size) (a := w) (by (repeat (first | exact In.refl _ | assumption | apply In.alloc | apply In.drewN | apply In.drew | (refine In.step ?_ (by assumption)))))))
  clear o2 hg3 i2
  go_wp2_with fail
  refine (iCompR w.heap.size g m cap _ _ (by omega) (by (with_reducible (repeat (first | assumption | apply World.ownsRow.drew | apply World.ownsRow.alloc))))).mono ?_
  rintro _ w4 ⟨rfl, o4, hg4⟩
  have i4 : In w.heap.size w w4 := In.wide (by (repeat (first | exact In.refl _ | assumption | apply In.alloc | apply In.drewN | apply In.drew | (refine In.step ?_ (by assumption))))) (below_of_only hg4 hg2 (In.size (B := w.heap.size) (a := w) (by (repeat (first | exact In.refl _ | assumption | apply In.alloc | apply In.drewN | apply In.drew | (refine In.step ?_ (by assumption)))))))
  clear o3 hg4 i3
  rw [HCE.out] at o4
  rw [HCE.out]
  have hMl := idxTo_len (mP bad) 51
  have hSP : ∀ l, suP n xs bad l = (decide (1 ≤ l) && eqL (idxTo (brP n xs l) 51) (idxTo (mP bad) 51)) := fun l => rfl
  generalize idxTo (mP bad) 51 = MB at *
  generalize MB.length = u at *
  have HSP := Lib.hid hSP
  have HG4 : Hid (g < w4.heap.size) := Lib.hid (own_lt o4 g rfl)
  clear hSP HY1 HCE hC hAL
  go_wp2
  go_loopw [6, 7] (fun v i wr => ∃ l : Nat, l ≤ 51 ∧ 1 ≤ l ∧ i = .int .i64 l ∧ wr.ownsRow w4.heap.size 3 1 v (idxTo (suP n xs bad) l).length (iv (idxTo (suP n xs bad) l)) ∧ wr.ownsRow w.heap.size 3 1 (.slice (some ⟨g, 0, none⟩) u cap) u (iv MB) ∧ In w4.heap.size w4 wr) (fun _ i _ => 51 - (intOf i).toNat)
  case atStart => exact ⟨1, by omega, by omega, rfl, by rw [HP1.out]; exact ⟨rfl, .inl ⟨rfl, rfl⟩⟩, by (with_reducible (repeat (first | assumption | apply World.ownsRow.drew | apply World.ownsRow.alloc))), by (repeat (first | exact In.refl _ | assumption | apply In.alloc | apply In.drewN | apply In.drew | (refine In.step ?_ (by assumption))))⟩
  case round =>
    have HO4 := Lib.hid o4
    have HI4 := Lib.hid i4
    clear o4 i4
    obtain ⟨l, hl, hl1, rfl, hown, hMB, hi⟩ := hrel
    obtain ⟨A1, c1, rfl⟩ := own_shape_i hown
    by_cases hlt : l < 51
    · have HL2 := idxTo_len (suP n xs bad) l
      have HT := Lib.hid (fun h => idxTo_t (p := suP n xs bad) (k := l) h)
      have HF := Lib.hid (fun h => idxTo_f (p := suP n xs bad) (k := l) h)
      have HPV : Hid (suP n xs bad l = eqL (idxTo (brP n xs l) 51) MB) := Lib.hid (by rw [HSP.out]; simp [hl1])
      generalize hL : idxTo (suP n xs bad) l = L at hown HL2 HT HF
      generalize hp : L.length = p at hown HL2
      have HM := Lib.hid hp
      have HP60 : Hid (p ≤ 60) := Lib.hid (by omega)
      have HLT := Lib.hid hlt
      have HQ1 : Hid (1 ≤ (l : Int) ∧ (l : Int) ≤ 50) := Lib.hid (by omega)
      have hlI : (l : Int) ≤ 50 := by omega
      have HBV : Hid (BreadsOfL n xs l = idxTo (brP n xs l) 51) := Lib.hid (by simp [BreadsOfL, hB])
      clear hL hp HL2 hlt hl
      go_wp2_with fail
      refine (iBreadsOf A n c xs l _ HN.out (HX.out.in_ (HI4.out.trans hi))).mono ?_
      rintro _ w5 ⟨B1, e1, rfl, hob, hb1⟩
      rw [HBV.out] at hob
      rw [HBV.out]
      have hbl := idxTo_len (brP n xs l) 51
      generalize idxTo (brP n xs l) 51 = BL at *
      generalize BL.length = t at *
      have o5 : w5.ownsRow w4.heap.size 3 1 (.slice A1 p c1) p (iv L) := own_step hown hb1
      have m5 := own_step hMB hb1
      have i5 := In.step hi hb1
      clear hown hMB hi hb1
      go_wp2_with fail
      refine (iEqR _ w.heap.size B1 t e1 g u cap BL MB _ (by omega) (by omega) (by (with_reducible (repeat (first | assumption | apply World.ownsRow.drew | apply World.ownsRow.alloc)))) (by (with_reducible (repeat (first | assumption | apply World.ownsRow.drew | apply World.ownsRow.alloc))))).mono ?_
      rintro _ w6 ⟨rfl, hb6⟩
      have hown : w6.ownsRow w4.heap.size 3 1 (.slice A1 p c1) p (iv L) := own_step (by (with_reducible (repeat (first | assumption | apply World.ownsRow.drew | apply World.ownsRow.alloc)))) hb6
      have hMB : w6.ownsRow w.heap.size 3 1 (.slice (some ⟨g, 0, none⟩) u cap) u (iv MB) := own_step (by (with_reducible (repeat (first | assumption | apply World.ownsRow.drew | apply World.ownsRow.alloc)))) hb6
      have hi : In w4.heap.size w4 w6 := In.step (by (repeat (first | exact In.refl _ | assumption | apply In.alloc | apply In.drewN | apply In.drew | (refine In.step ?_ (by assumption))))) hb6
      clear o5 m5 i5 hb6 hob
      obtain ⟨hK1, hK2⟩ := HQ1.out
      cases hf : eqL BL MB
      · have HE := Lib.hid (HF.out (HPV.out.trans hf))
        go_wp2
        go_roundw
        case rel => exact ⟨l + 1, by have := HLT.out; omega, by omega, by go_num, by rw [HE.out, HM.out]; exact hown, hMB, by (repeat (first | exact In.refl _ | assumption | apply In.alloc | apply In.drewN | apply In.drew | (refine In.step ?_ (by assumption))))⟩
        case measure => have := HLT.out; simp [intOf]; omega
      · have HE := Lib.hid (HT.out (HPV.out.trans hf))
        have hm60 : p ≤ 60 := HP60.out
        have HMB := Lib.hid hMB
        have hiw := HI4.out.trans hi
        clear hMB
        have F9 : Hid (∀ u ∈ (#[Value.int .i64 ((l : Int))] : Array Value).toList, u.oneCell' = true) := Lib.hid (by intro u hu; simp at hu; subst hu; rfl)
        have f92 : p + 1 ≤ maxLen := by unfold maxLen; omega
        have f93 : (p + 1) * 8 ≤ 140737488355328 := by omega
        have hB9 : w4.heap.size ≤ w6.heap.size := In.size (B := w4.heap.size) (a := w4) (by (repeat (first | exact In.refl _ | assumption | apply In.alloc | apply In.drewN | apply In.drew | (refine In.step ?_ (by assumption)))))
        go_wp2_with (first | (go_at_call 66; refine (iIn _ _ _ _).mono ?_; rintro e w' ⟨rfl, rfl⟩) | (at_builtin; refine wpList_app w6 rfl (.tmp 37) (.tmp 39) 27 rfl w4.heap.size 3 i0 (.int .i64 0) 1 8 Try.underlying27 hi0 hz0 hz1 hz2 rfl Nat.one_pos (.slice A1 p c1) (p) (iv (L)) rfl hown 1 #[.int .i64 ((l : Int))] rfl rfl F9.out f92 f93 hB9 ?_; intro v9 w9 hown9 hbw9) | go_in | (go_end0; simp only []; go_at_K))
        have hi9 : In w4.heap.size w4 w9 := In.wide hi hbw9
        have hMB9 := own_below_at HMB.out hbw9 (fun j hj => by have h9 := HG4.out; simp [Value.ownBlock] at hj; omega)
        have hown2 : w9.ownsRow w4.heap.size 3 1 v9 (idxTo (suP n xs bad) (l + 1)).length (iv (idxTo (suP n xs bad) (l + 1))) := by
          rw [HE.out, iv_app, List.length_append, HM.out]; exact hown9
        clear hown9 hbw9 hown f92 f93 hB9
        go_wp2
        go_roundw
        case rel => exact ⟨l + 1, by have := HLT.out; omega, by omega, by go_num, hown2, hMB9, hi9⟩
        case measure => have := HLT.out; simp [intOf]; omega
    · obtain rfl : l = 51 := by omega
      have hiw := HI4.out.trans hi
      go_wp2
      go_ret
      rw [HV.out]
      exact rowB_of rfl (own_base hown HI4.out.size) hiw.below
end Go.Proofs.Ytgjbbidcpmglbaa
