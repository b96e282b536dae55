/- A region that draws no order, walked by the quiet walk: one value for each operation in every world of a class. -/
import Derived.Test.YtmkfnhgaiheckaaQuiet
namespace Go.Proofs.Ytmkfnhgaiheckaa
open Go.ChangeShapes Go.WideShapes Go.ChangeAt Go.RowKit
section
variable {P : Program} {ops : Array Oper} {C : World → Prop} {Q : Exit → Act → World → Prop}
theorem list_of_quiet : ∀ (l : List Oper) (a : Act) (w : World), C w → wpQuiet P ops C (fun a' => ∀ w', C w' → Q .normal a' w') l a → wpList P ops Q l a w
  | [], a, w, hC, h => h w hC
  | o :: rest, a, w, hC, h => by
    unfold wpList
    unfold wpQuiet at h
    split
    · rename_i hw
      rw [if_pos hw] at h
      obtain ⟨v, hv, hn⟩ := h
      refine .inl ?_
      have hu := hv w hC
      unfold Oper.quietAt at hu
      unfold Oper.wp
      revert hu
      generalize (execOp a.eval o).run P w = r
      intro hu
      match r, hu with
      | .ok (.value u) w', hu =>
        obtain ⟨rfl, rfl⟩ := hu
        exact list_of_quiet rest _ _ hC hn
      | .ok .skip w', hu =>
        obtain ⟨rfl, rfl⟩ := hu
        exact list_of_quiet rest _ _ hC hn
      | .ok (.enter f args) w', hu =>
        obtain ⟨rfl, hc⟩ := hu
        refine Calls.mono hc ?_
        rintro _ w2 ⟨rfl, h2⟩
        exact list_of_quiet rest _ _ h2 hn
    · rename_i hw
      rw [if_neg hw] at h
      exact list_of_quiet rest _ _ hC h
theorem wp_region_L {id : Nat} {w : World} {a : Act} {l : List Oper} (hC : C w)
    (h : wpQuiet P l.toArray C (fun a' => ∀ w', C w' → Q .normal a' w') l a) : (Code.region id l.toArray false).wp P Q a w :=
  wp_region_lit (list_of_quiet l a w hC h)
end
end Go.Proofs.Ytmkfnhgaiheckaa
