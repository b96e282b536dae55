/- A cell of a row of the call's own is set. -/
import Derived.Test.YtolblfcpiddmbaaIntR
namespace Go.Proofs.Ytolblfcpiddmbaa
open Go.ChangeShapes Go.WideShapes Go.ChangeAt Go.RowKit
set_option linter.unusedVariables false
set_option linter.unusedSimpArgs false
set_option maxHeartbeats 2000000

theorem own_setI {w : World} {B n c g : Nat} {xs : List Int} {k : Nat} (v : Int) (h : w.ownsRow B 3 1 (.slice (some ⟨g, 0, none⟩) n c) n (iv xs)) (hk : k < n) :
    w.cell? ⟨g, k, none⟩ = some (.int .i64 (xs.getD k 0)) ∧ w.frozen? ⟨g, k, none⟩ = false ∧ ReadsI (w.setCell ⟨g, k, none⟩ (.int .i64 v)) (some ⟨g, 0, none⟩) n (xs.set k v) ∧ n ≤ c ∧ B ≤ g := by
  have hl := own_len_i h
  have hr := reads_own_i h
  have hc := h.cellAt k (by omega)
  rw [iv_at xs k (by omega)] at hc
  rcases h.2 with ⟨h1, _⟩ | ⟨g', cap, cur, hv, hg, hh, hnc, hcm, hcs, htake⟩
  · cases h1
  · injection hv with e1 e2 e3
    injection e1 with e1
    injection e1 with e1
    subst e1 e3
    have hb : Blk w g 3 cur := hh
    refine ⟨hc, hb.frozen k, ⟨by rw [List.length_set]; exact hl, fun i hi => ⟨⟨g, 0, none⟩, rfl, ?_⟩⟩, hnc, hg⟩
    rw [Addr.add_lit, Nat.zero_add]
    by_cases e : i = k
    · subst e
      have h2 := (hb.set_ i (.int .i64 v)).cell i
      rw [h2]
      simp [show i < cur.size by omega, show i < xs.length by omega, List.getD_eq_getElem?_getD]
    · obtain ⟨ad, ha, hci⟩ := hr.2 i hi
      injection ha with ha
      subst ha
      rw [Addr.add_lit, Nat.zero_add] at hci
      rw [World.cell?_setCell_other _ _ _ _ (fun e2 => e (by injection e2 with _ h9 _; omega)), hci]
      simp [List.getD_eq_getElem?_getD, List.getElem?_set, show ¬ k = i by omega]
end Go.Proofs.Ytolblfcpiddmbaa
