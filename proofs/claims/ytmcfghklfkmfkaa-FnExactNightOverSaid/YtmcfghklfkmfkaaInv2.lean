/- A region that draws, by facts: a fact is kept only while somebody waits for it. -/
import Derived.Test.YtmcfghklfkmfkaaInv
namespace Go.Proofs.Ytmcfghklfkmfkaa
open Go.ChangeShapes Go.WideShapes Go.ChangeAt Go.RowKit
set_option linter.unusedVariables false
set_option linter.unusedSimpArgs false
set_option maxHeartbeats 2000000

section
variable {P : Program} {Q : Exit → Act → World → Prop}
/-- operation j waits for i, at once or through others -/
def waitsT (ops : Array Oper) : Nat → Nat → Nat → Bool
  | 0, _, _ => false
  | f + 1, j, i => waitsB ops j i || (List.range ops.size).any fun k => waitsB ops j k && waitsT ops f k i
/-- an operation other than i, that i does not wait for, makes use of j -/
def usesB (ops : Array Oper) (D : Nat → Nat → Bool) (i j : Nat) : Bool := (List.range ops.size).any fun k => k != i && !waitsT ops 6 i k && D k j
theorem waitsT_listed {ops : Array Oper} {listed : Array Bool} (hC : ∀ j, listed.getD j false = true → ∀ i, waitsB ops j i = true → listed.getD i false = true) : ∀ (f j i : Nat), listed.getD j false = true → waitsT ops f j i = true → listed.getD i false = true := by
  intro f
  induction f with
  | zero => intro j i _ h; cases h
  | succ f ih =>
    intro j i hj h
    rw [waitsT, Bool.or_eq_true, List.any_eq_true] at h
    rcases h with h | ⟨k, _, h⟩
    · exact hC j hj i h
    · rw [Bool.and_eq_true] at h
      exact ih k i (hC j hj k h.1) h.2
theorem wp_region_facts2 {id : Nat} {a : Act} {w : World} {l : List Oper} (I : Act → World → Prop) (F : Nat → Act → World → Prop) (need : Nat → Bool) (D : Nat → Nat → Bool) (hm : P.follows .mixedOrders = true) (hA : aheadB l.toArray = true) (h0 : I a w.drew)
    (step : ∀ (a : Act) (w : World) (i : Nat) (o : Oper), l.toArray[i]? = some o → I a w → (∀ e ∈ o.after, Region.binds .any e = true → D i e.on = true → F e.on a w) →
      wpOp P l.toArray Q i (fun a' w' => I a' w' ∧ F i a' w' ∧ ∀ j, j ≠ i → waitsT l.toArray 6 j i = false → (need j || usesB l.toArray D i j) = true → F j a w → F j a' w') a w)
    (done : ∀ (a : Act) (w : World), I a w → (∀ i, i < l.length → need i = true → F i a w) → Q .normal a w) : (Code.region id l.toArray true).wp P Q a w := by
  refine wp_region_any hm ?_
  refine wpAny_facts (J := fun listed a w => I a w ∧ (∀ j, listed.getD j false = true → (need j = true ∨ ∃ k, k < l.toArray.size ∧ D k j = true ∧ listed.getD k true = false) → F j a w) ∧ ∀ j, listed.getD j false = true → ∀ i, waitsB l.toArray j i = true → listed.getD i false = true) hA ?_ ?_ _ _ _ _ (by simp) ?_ ⟨h0, ?_, ?_⟩
  · intro listed a w i o hJ ho hb haf
    have hset : ∀ j, j ≠ i → (listed.setIfInBounds i true).getD j false = listed.getD j false := fun j e => by
      have hne : i ≠ j := fun h => e h.symm
      simp [Array.getElem?_setIfInBounds, hne]
    have hset' : ∀ j, j ≠ i → (listed.setIfInBounds i true).getD j true = listed.getD j true := fun j e => by
      have hne : i ≠ j := fun h => e h.symm
      simp [Array.getElem?_setIfInBounds, hne]
    have hset2 : (listed.setIfInBounds i true).getD i true = true := by
      rcases Nat.lt_or_ge i listed.size with hs | hs
      · simp [hs]
      · simp [hs]
    have hil : i < l.toArray.size := by
      rcases Nat.lt_or_ge i l.toArray.size with h | h
      · exact h
      · rw [Array.getElem?_eq_none h] at ho; cases ho
    refine wpOp_mono (fun a' w' h => ⟨h.1, fun j hj hn => ?_, fun j hj k hk => ?_⟩) (step a w i o ho hJ.1 fun e he hbd hD => hJ.2.1 _ (haf e he hbd) (.inr ⟨i, hil, hD, hb⟩))
    · by_cases e : j = i
      · subst e; exact h.2.1
      · rw [hset j e] at hj
        have hn' : need j = true ∨ ∃ k, k < l.toArray.size ∧ D k j = true ∧ listed.getD k true = false ∧ k ≠ i ∧ waitsT l.toArray 6 i k = false := by
          rcases hn with hn | ⟨k, hk1, hk2, hk3⟩
          · exact .inl hn
          · by_cases e2 : k = i
            · subst e2; rw [hset2] at hk3; cases hk3
            · rw [hset' k e2] at hk3
              refine .inr ⟨k, hk1, hk2, hk3, e2, ?_⟩
              cases hT : waitsT l.toArray 6 i k
              · rfl
              · exfalso
                have hl : listed.getD k false = true := by
                  rw [waitsT, Bool.or_eq_true, List.any_eq_true] at hT
                  have hdir : ∀ m, waitsB l.toArray i m = true → listed.getD m false = true := fun m hm9 => by
                    unfold waitsB at hm9
                    rw [ho] at hm9
                    simp only [Option.map_some, Option.getD_some] at hm9
                    rw [Array.any_eq_true'] at hm9
                    obtain ⟨e, he, hh⟩ := hm9
                    simp only [Bool.and_eq_true, beq_iff_eq] at hh
                    rw [← hh.2]
                    exact haf e he hh.1
                  rcases hT with h | ⟨m, _, h⟩
                  · exact hdir k h
                  · rw [Bool.and_eq_true] at h
                    exact waitsT_listed hJ.2.2 5 m k (hdir m h.1) h.2
                rcases Nat.lt_or_ge k listed.size with hs | hs
                · simp [hs] at hk3 hl
                  rw [hk3] at hl
                  cases hl
                · simp [hs] at hl
        refine h.2.2 j e ?_ ?_ (hJ.2.1 j hj (hn'.imp (fun h => h) fun ⟨k, h1, h2, h3, _, _⟩ => ⟨k, h1, h2, h3⟩))
        · cases hw : waitsT l.toArray 6 j i
          · rfl
          · have h1 := waitsT_listed hJ.2.2 6 j i hj hw
            have h2 : listed.getD i true = true := by
              rcases Nat.lt_or_ge i listed.size with hs | hs
              · simpa [hs] using h1
              · simp [hs]
            rw [hb] at h2
            cases h2
        · rw [Bool.or_eq_true]
          rcases hn' with hn | ⟨k, hk1, hk2, _, hk4, hk5⟩
          · exact .inl hn
          · refine .inr ?_
            unfold usesB
            rw [List.any_eq_true]
            exact ⟨k, List.mem_range.2 hk1, by simp [hk4, hk2, hk5]⟩
    · have hk1 : listed.getD k false = true := by
        by_cases e : j = i
        · subst e
          unfold waitsB at hk
          rw [ho] at hk
          simp only [Option.map_some, Option.getD_some] at hk
          rw [Array.any_eq_true'] at hk
          obtain ⟨e, he, hh⟩ := hk
          simp only [Bool.and_eq_true, beq_iff_eq] at hh
          rw [← hh.2]
          exact haf e he hh.1
        · rw [hset j e] at hj
          exact hJ.2.2 j hj k hk
      by_cases e : k = i
      · subst e
        rcases Nat.lt_or_ge k listed.size with hs | hs
        · simp [hs]
        · simp [hs] at hk1
      · rw [hset k e]; exact hk1
  · intro listed a w hJ hs hall
    refine done a w hJ.1 fun i hi hn => hJ.2.1 i ?_ (.inl hn)
    have h1 := hall i
    have h2 : i < listed.size := by rw [hs]; simpa using hi
    simpa [h2] using h1
  · unfold undone
    exact Nat.le_trans (List.countP_le_length) (by simp)
  · intro i hi
    exfalso
    simp [Array.getElem?_replicate] at hi
    split at hi <;> simp at hi
  · intro i hi
    exfalso
    simp [Array.getElem?_replicate] at hi
    split at hi <;> simp at hi
end
end Go.Proofs.Ytmcfghklfkmfkaa
