/- A region that draws its order, walked by facts: each operation, when what it waits for is done, brings its fact and keeps the others'. -/
import Derived.Test.YtmcfghklfkmfkaaQuiet
namespace Go.Proofs.Ytmcfghklfkmfkaa
open Go.ChangeShapes Go.WideShapes Go.ChangeAt Go.RowKit
set_option linter.unusedVariables false
set_option linter.unusedSimpArgs false
section
variable {P : Program} {ops : Array Oper} {Q : Exit → Act → World → Prop}
theorem wpOp_plain {i : Nat} {o : Oper} {a : Act} {w : World} {K : Act → World → Prop} (hi : ops[i]? = some o) (hg : o.guard = none) (h : o.wp P a w K Q) : wpOp P ops Q i K a w := by
  unfold wpOp
  rw [hi]
  simp [Region.wanted, hg]
  exact Or.inl h
def undone (listed : Array Bool) : Nat := listed.toList.countP (fun b => !b)
theorem undone_set {listed : Array Bool} {i : Nat} (hi : listed.getD i true = false) : undone (listed.setIfInBounds i true) + 1 = undone listed := by
  have hs : i < listed.size := by
    rcases Nat.lt_or_ge i listed.size with h | h
    · exact h
    · simp [h] at hi
  have hv : listed.toList[i]'(by simpa using hs) = false := by simpa [hs] using hi
  have hp : 0 < listed.toList.countP (fun b => !b) := by
    rw [List.countP_pos_iff]
    exact ⟨_, List.getElem_mem (by simpa using hs), by rw [hv]; rfl⟩
  unfold undone
  rw [Array.toList_setIfInBounds, List.countP_set (by simpa using hs), hv]
  generalize List.countP (fun b => !b) listed.toList = c at *
  simp only [Bool.not_false, Bool.not_true, if_true, Bool.false_eq_true, if_false]
  omega
theorem undone_zero {listed : Array Bool} (h : undone listed = 0) (i : Nat) : listed.getD i true = true := by
  unfold undone at h
  rw [List.countP_eq_zero] at h
  rcases Nat.lt_or_ge i listed.size with hs | hs
  · have := h (listed[i]) (by simp)
    simpa [hs] using this
  · simp [hs]
/-- nothing waits for a later one -/
def aheadB (ops : Array Oper) : Bool := (List.range ops.size).all fun i => ((ops[i]?).map (·.after.all fun e => !Region.binds .any e || decide (e.on < i))).getD true
theorem ready_some {listed : Array Bool} (hA : aheadB ops = true) (hs : listed.size = ops.size) (hr : Region.ready .any ops listed = []) : ∀ i : Nat, listed.getD i true = true := by
  intro i
  induction i using Nat.strongRecOn with
  | ind i ih =>
    rcases Nat.lt_or_ge i ops.size with h | h
    · cases hb : listed.getD i true
      · exfalso
        have hm : i ∈ Region.ready .any ops listed := by
          unfold Region.ready
          rw [List.mem_filter]
          refine ⟨List.mem_range.mpr h, ?_⟩
          have ho : ops[i]? = some ops[i] := Array.getElem?_eq_getElem h
          rw [hb, ho]
          simp only [Bool.not_false, Bool.true_and, Option.map_some, Option.getD_some]
          have ha := List.all_eq_true.mp hA i (List.mem_range.mpr h)
          rw [ho] at ha
          simp only [Option.map_some, Option.getD_some] at ha
          rw [Array.all_eq_true'] at ha ⊢
          intro e he
          have hae := ha e he
          cases hbd : Region.binds .any e
          · rfl
          · rw [hbd] at hae
            have hlt : e.on < i := by simpa using hae
            have h1 := ih e.on hlt
            have h2 : e.on < listed.size := by omega
            have h3 : listed.getD e.on false = true := by simpa [h2] using h1
            rw [h3, Bool.or_true]
        rw [hr] at hm
        cases hm
      · rfl
    · simp [hs, h]
theorem wpAny_facts {J : Array Bool → Act → World → Prop} (hA : aheadB ops = true)
    (step : ∀ (listed : Array Bool) (a : Act) (w : World) (i : Nat) (o : Oper), J listed a w → ops[i]? = some o → listed.getD i true = false → (∀ e ∈ o.after, Region.binds .any e = true → listed.getD e.on false = true) →
      wpOp P ops Q i (J (listed.setIfInBounds i true)) a w)
    (done : ∀ (listed : Array Bool) (a : Act) (w : World), J listed a w → listed.size = ops.size → (∀ i : Nat, listed.getD i true = true) → Q .normal a w) :
    ∀ (fuel : Nat) (listed : Array Bool) (a : Act) (w : World), listed.size = ops.size → undone listed ≤ fuel → J listed a w → wpAny P .any ops Q fuel listed a w := by
  intro fuel
  induction fuel with
  | zero =>
    intro listed a w hs hu hJ
    have hall := undone_zero (Nat.le_zero.mp hu)
    refine ⟨?_, done listed a w hJ hs hall⟩
    unfold Region.ready
    rw [List.filter_eq_nil_iff]
    intro i _
    rw [hall i]
    simp
  | succ fuel ih =>
    intro listed a w hs hu hJ
    refine ⟨fun hr => done listed a w hJ hs (ready_some hA hs hr), fun i hi => ?_⟩
    unfold Region.ready at hi
    rw [List.mem_filter, Bool.and_eq_true] at hi
    obtain ⟨hi, h1, h2⟩ := hi
    have hlt := List.mem_range.mp hi
    have ho : ops[i]? = some ops[i] := Array.getElem?_eq_getElem hlt
    have hb : listed.getD i true = false := by simpa using h1
    rw [ho] at h2
    simp only [Option.map_some, Option.getD_some] at h2
    rw [Array.all_eq_true'] at h2
    refine wpOp_mono (fun a' w' h => ih _ a' w' (by simp [hs]) (by have := undone_set hb; omega) h) (step listed a w i _ hJ ho hb ?_)
    intro e he hbd
    have := h2 e he
    rw [hbd] at this
    simpa using this
/-- operation j waits for i -/
def waitsB (ops : Array Oper) (j i : Nat) : Bool := ((ops[j]?).map (·.after.any fun e => Region.binds .any e && e.on == i)).getD false
/-- I: what holds all along; F i: what holds once operation i is done (what waits for i need not be kept by i) -/
theorem wp_region_facts {id : Nat} {a : Act} {w : World} {l : List Oper} (I : Act → World → Prop) (F : Nat → Act → World → Prop) (hm : P.follows .mixedOrders = true) (hA : aheadB l.toArray = true) (h0 : I a w.drew)
    (step : ∀ (a : Act) (w : World) (i : Nat) (o : Oper), l.toArray[i]? = some o → I a w → (∀ e ∈ o.after, Region.binds .any e = true → F e.on a w) →
      wpOp P l.toArray Q i (fun a' w' => I a' w' ∧ F i a' w' ∧ ∀ j, j ≠ i → waitsB l.toArray j i = false → F j a w → F j a' w') a w)
    (done : ∀ (a : Act) (w : World), I a w → (∀ i, i < l.length → F i a w) → Q .normal a w) : (Code.region id l.toArray true).wp P Q a w := by
  refine wp_region_any hm ?_
  refine wpAny_facts (J := fun listed a w => I a w ∧ (∀ i, listed.getD i false = true → F i a w) ∧ ∀ j, listed.getD j false = true → ∀ i, waitsB l.toArray j i = true → listed.getD i false = true) hA ?_ ?_ _ _ _ _ (by simp) ?_ ⟨h0, ?_, ?_⟩
  · intro listed a w i o hJ ho hb haf
    have hset : ∀ j, j ≠ i → (listed.setIfInBounds i true).getD j false = listed.getD j false := fun j e => by
      have hne : i ≠ j := fun h => e h.symm
      simp [Array.getElem?_setIfInBounds, hne]
    refine wpOp_mono (fun a' w' h => ⟨h.1, fun j hj => ?_, fun j hj k hk => ?_⟩) (step a w i o ho hJ.1 fun e he hbd => hJ.2.1 _ (haf e he hbd))
    · by_cases e : j = i
      · subst e; exact h.2.1
      · rw [hset j e] at hj
        refine h.2.2 j e ?_ (hJ.2.1 j hj)
        cases hw : waitsB l.toArray j i
        · rfl
        · have h1 := hJ.2.2 j hj i hw
          have h2 : listed.getD i true = true := by
            rcases Nat.lt_or_ge i listed.size with hs | hs
            · simpa [hs] using h1
            · simp [hs]
          rw [hb] at h2
          cases h2
    · have hk1 : listed.getD k false = true := by
        by_cases e : j = i
        · subst e
          unfold waitsB at hk
          rw [ho] at hk
          simp only [Option.map_some, Option.getD_some] at hk
          rw [Array.any_eq_true'] at hk
          obtain ⟨e, he, hh⟩ := hk
          simp only [Bool.and_eq_true, beq_iff_eq] at hh
          rw [← hh.2]
          exact haf e he hh.1
        · rw [hset j e] at hj
          exact hJ.2.2 j hj k hk
      by_cases e : k = i
      · subst e
        rcases Nat.lt_or_ge k listed.size with hs | hs
        · simp [hs]
        · simp [hs] at hk1
      · rw [hset k e]; exact hk1
  · intro listed a w hJ hs hall
    refine done a w hJ.1 fun i hi => hJ.2.1 i ?_
    have h1 := hall i
    have h2 : i < listed.size := by rw [hs]; simpa using hi
    simpa [h2] using h1
  · unfold undone
    exact Nat.le_trans (List.countP_le_length) (by simp)
  · intro i hi
    exfalso
    simp [Array.getElem?_replicate] at hi
    split at hi <;> simp at hi
  · intro i hi
    exfalso
    simp [Array.getElem?_replicate] at hi
    split at hi <;> simp at hi
end
end Go.Proofs.Ytmcfghklfkmfkaa
