/- A row of rows whose last row grows: trips. -/
import Derived.Test.YtmkfnhgaiheckaaRowsV
namespace Go.Proofs.Ytmkfnhgaiheckaa
open Go.ChangeShapes Go.WideShapes Go.ChangeAt Go.RowKit
set_option linter.unusedVariables false
set_option linter.unusedSimpArgs false
set_option maxHeartbeats 2000000

/-- the rows alone -/
def RowsT (w : World) (B n : Nat) (xs : List IntSR) (vs : List Value) (G C : Nat → Nat) : Prop :=
  xs.length = n ∧ (∀ t, t < n → vs[t]? = some (.slice (some ⟨G t, 0, none⟩) (rlen xs t) (C t)) ∧ B ≤ G t ∧ rlen xs t ≤ 1000000 ∧ OwnC w (G t) (rlen xs t) (C t) (xs.getD t [])) ∧ ∀ t u, t < u → u < n → G t < G u
theorem RowsT.only {w w' : World} {B n : Nat} {xs : List IntSR} {vs : List Value} {G C : Nat → Nat} (h : RowsT w B n xs vs G C) {j : Option Nat} (hb : w.grownBy w' j) (hne : ∀ t, t < n → ∀ i, j = some i → G t ≠ i) : RowsT w' B n xs vs G C :=
  ⟨h.1, fun t ht => ⟨(h.2.1 t ht).1, (h.2.1 t ht).2.1, (h.2.1 t ht).2.2.1, ownC_only (h.2.1 t ht).2.2.2 hb (hne t ht)⟩, h.2.2⟩
theorem RowsT.step {w w' : World} {B n : Nat} {xs : List IntSR} {vs : List Value} {G C : Nat → Nat} (h : RowsT w B n xs vs G C) (hb : Below w.heap.size w w') : RowsT w' B n xs vs G C :=
  ⟨h.1, fun t ht => ⟨(h.2.1 t ht).1, (h.2.1 t ht).2.1, (h.2.1 t ht).2.2.1, (h.2.1 t ht).2.2.2.step hb⟩, h.2.2⟩
theorem RowsT.lt {w : World} {B n : Nat} {xs : List IntSR} {vs : List Value} {G C : Nat → Nat} (h : RowsT w B n xs vs G C) : ∀ t, t < n → G t < w.heap.size := fun t ht => (h.2.1 t ht).2.2.2.lt
theorem RowsT.nil (w : World) (B : Nat) (vs : List Value) : RowsT w B 0 [] vs (fun _ => 0) (fun _ => 0) := ⟨rfl, fun t ht => absurd ht (Nat.not_lt_zero _), fun t u _ h => absurd h (Nat.not_lt_zero _)⟩
theorem RowsP.rowsT {w : World} {B n : Nat} {v : Value} {xs : List IntSR} {vs : List Value} {G C : Nat → Nat} (h : RowsP w B v n xs vs G C) : RowsT w B n xs vs G C := ⟨h.2.1, h.2.2.1, h.2.2.2⟩
/-- one row more -/
theorem RowsT.snoc {w : World} {B n g c : Nat} {xs : List IntSR} {vs : List Value} {G C : Nat → Nat} {row : List Int} (h : RowsT w B n xs vs G C) (hv : vs.length = n) (hrow : OwnC w g row.length c row) (hB : B ≤ g) (hl : row.length ≤ 1000000) (hlt : ∀ t, t < n → G t < g) :
    RowsT w B (n + 1) (xs ++ [row]) (vs ++ [.slice (some ⟨g, 0, none⟩) row.length c]) (fun t => if t < n then G t else g) (fun t => if t < n then C t else c) := by
  obtain ⟨h2, h3, h4⟩ := h
  refine ⟨by simp [h2], fun t ht => ?_, fun t u htu hu => ?_⟩
  · by_cases e : t < n
    · obtain ⟨a1, a2, a3, a4⟩ := h3 t e
      have e1 : (xs ++ [row]).getD t [] = xs.getD t [] := by simp [List.getD_eq_getElem?_getD, List.getElem?_append_left (by omega : t < xs.length)]
      simp only [rlen, e1, if_pos e]
      refine ⟨by rw [List.getElem?_append_left (by omega)]; exact a1, a2, a3, a4⟩
    · obtain rfl : t = n := by omega
      have e1 : (xs ++ [row]).getD t [] = row := by simp [List.getD_eq_getElem?_getD, List.getElem?_append_right (by omega : xs.length ≤ t), h2]
      simp only [rlen, e1, if_neg e]
      refine ⟨by rw [List.getElem?_append_right (by omega), hv]; simp, hB, hl, hrow⟩
  · by_cases e : u < n
    · simp only [if_pos e, if_pos (show t < n by omega)]; exact h4 t u htu e
    · simp only [if_neg e, if_pos (show t < n by omega)]; exact hlt t (by omega)
/-- trips: m that are done and the last one -/
def RowsL (w : World) (B : Nat) (v : Value) (m : Nat) (D : List IntSR) (cur : List Int) : Prop :=
  ∃ (vs : List Value) (G C : Nat → Nat) (g c go cap : Nat), v = .slice (some ⟨go, 0, none⟩) (m + 1) cap ∧ w.ownsRow B 43 1 v (m + 1) (vs ++ [.slice (some ⟨g, 0, none⟩) cur.length c]) ∧ vs.length = m ∧ RowsT w B m D vs G C ∧ OwnC w g cur.length c cur ∧ B ≤ g ∧ (∀ t, t < m → G t < g) ∧ B ≤ go ∧ (∃ cs, Blk w go 43 cs)
theorem RowsL.rows {w : World} {B m : Nat} {v : Value} {D : List IntSR} {cur : List Int} (h : RowsL w B v m D cur) (hl : cur.length ≤ 1000000) : RowsC w B v (m + 1) (D ++ [cur]) := by
  obtain ⟨vs, G, C, g, c, go, cap, hv, h1, hvl, h2, h3, h4, h5, _⟩ := h
  have hT := h2.snoc hvl h3 h4 hl h5
  exact ⟨_, _, _, h1, hT.1, hT.2.1, hT.2.2⟩
theorem blk_of_own {w : World} {B n : Nat} {e : TypeId} {go cap : Nat} {xs : List Value} (h : w.ownsRow B e 1 (.slice (some ⟨go, 0, none⟩) n cap) n xs) : B ≤ go ∧ ∃ cs, Blk w go e cs := by
  rcases own_formG h with ⟨hn, _⟩ | ⟨g', c', cur, hv, hg, hk, _⟩
  · cases hn
  · injection hv with e1 _ _
    injection e1 with e1
    injection e1 with e1
    subst e1
    exact ⟨hg, cur, hk⟩
theorem own_keep {w w' : World} {B n g : Nat} {e : TypeId} {v : Value} {xs : List Value} (h : w.ownsRow B e 1 v n xs) (hb : w.grownBy w' (some g)) (hne : v.ownBlock ≠ some g) : w'.ownsRow B e 1 v n xs := by
  have hl := own_lt h
  refine ⟨h.1, ?_⟩
  rcases h.2 with hn | ⟨g', cap, cur, rfl, hg', hh, rest⟩
  · exact .inl hn
  · exact .inr ⟨g', cap, cur, rfl, hg', (hb.block g' (hl g' (by simp [Value.ownBlock])) (fun e => by injection e with e; exact hne (by simp [Value.ownBlock, e]))).trans hh, rest⟩
/-- the last row has grown by one number, and its header is stored -/
theorem RowsL.grow {w0 w' : World} {B m g c go cap g' c' : Nat} {D : List IntSR} {vs : List Value} {G C : Nat → Nat} {cur : List Int} {y : Int}
    (h1 : w0.ownsRow B 43 1 (.slice (some ⟨go, 0, none⟩) (m + 1) cap) (m + 1) (vs ++ [.slice (some ⟨g, 0, none⟩) cur.length c])) (hvl : vs.length = m) (h2 : RowsT w0 B m D vs G C) (h3 : OwnC w0 g cur.length c cur) (h4 : B ≤ g) (h5 : ∀ t, t < m → G t < g)
    (hown : OwnC w' g' (cur.length + 1) c' (cur ++ [y])) (hg : g' = g ∨ w0.heap.size ≤ g') (hb : w0.grownBy w' (some g)) :
    w'.cell? ⟨go, m, none⟩ = some (.slice (some ⟨g, 0, none⟩) cur.length c) ∧ w'.frozen? ⟨go, m, none⟩ = false ∧ RowsL (w'.setCell ⟨go, m, none⟩ (.slice (some ⟨g', 0, none⟩) (cur.length + 1) c')) B (.slice (some ⟨go, 0, none⟩) (m + 1) cap) m D (cur ++ [y]) := by
  obtain ⟨hgo, cs, hk⟩ := blk_of_own h1
  have hgg : g ≠ go := h3.ne hk (by decide)
  have h1' := own_keep h1 hb (by simp [Value.ownBlock]; omega)
  obtain ⟨_, cs', hk'⟩ := blk_of_own h1'
  have hc := h1'.cellAt m (by omega)
  rw [List.getElem?_append_right (by omega), hvl] at hc
  have hst := World.ownsRow.stored h1' m (.slice (some ⟨g', 0, none⟩) (cur.length + 1) c')
  have hgo' : g' ≠ go := hown.ne hk' (by decide)
  have h2' := h2.only hb fun t ht i hi => by injection hi with hi; have := h5 t ht; omega
  have h2'' := h2'.only hst.2 fun t ht i hi => by
    injection hi with hi
    have := (h2'.2.1 t ht).2.2.2.ne hk' (by decide)
    omega
  have h3' : OwnC (w'.setCell ⟨go, m, none⟩ (.slice (some ⟨g', 0, none⟩) (cur.length + 1) c')) g' (cur.length + 1) c' (cur ++ [y]) := hown.only hst.2 hgo'
  have hset : (vs ++ [Value.slice (some ⟨g, 0, none⟩) cur.length c]).set m (.slice (some ⟨g', 0, none⟩) (cur.length + 1) c') = vs ++ [.slice (some ⟨g', 0, none⟩) (cur.length + 1) c'] := by
    rw [List.set_append_right _ _ (by omega), hvl]; simp
  have hn := hst.1
  rw [hset] at hn
  have hle : (cur ++ [y]).length = cur.length + 1 := by simp
  obtain ⟨b1, b2⟩ := blk_of_own hn
  refine ⟨by simpa using hc, World.ownsRow.frozenAt h1' m, vs, G, C, g', c', go, cap, rfl, by rw [hle]; exact hn, hvl, h2'', by rw [hle]; exact h3', ?_, fun t ht => ?_, b1, b2⟩
  · rcases hg with rfl | hg
    · exact h4
    · have := h3.lt; omega
  · rcases hg with rfl | hg
    · exact h5 t ht
    · have := h2.lt t ht; omega
/-- behind a nil row that was appended: its first number is stored -/
theorem RowsL.first {w0 w' : World} {B m go cap g' c' : Nat} {D : List IntSR} {vs : List Value} {G C : Nat → Nat} {y : Int}
    (h1 : w0.ownsRow B 43 1 (.slice (some ⟨go, 0, none⟩) (m + 1) cap) (m + 1) (vs ++ [.slice none 0 0])) (hvl : vs.length = m) (h2 : RowsT w0 B m D vs G C)
    (hown : OwnC w' g' 1 c' [y]) (hg : w0.heap.size ≤ g') (hb : Below w0.heap.size w0 w') :
    w'.cell? ⟨go, m, none⟩ = some (.slice none 0 0) ∧ w'.frozen? ⟨go, m, none⟩ = false ∧ RowsL (w'.setCell ⟨go, m, none⟩ (.slice (some ⟨g', 0, none⟩) 1 c')) B (.slice (some ⟨go, 0, none⟩) (m + 1) cap) m D [y] := by
  obtain ⟨hgo, cs, hk⟩ := blk_of_own h1
  have h1' := own_step h1 hb
  obtain ⟨_, cs', hk'⟩ := blk_of_own h1'
  have hc := h1'.cellAt m (by omega)
  rw [List.getElem?_append_right (by omega), hvl] at hc
  have hst := World.ownsRow.stored h1' m (.slice (some ⟨g', 0, none⟩) 1 c')
  have hgo' : g' ≠ go := hown.ne hk' (by decide)
  have h2' := h2.step hb
  have h2'' := h2'.only hst.2 fun t ht i hi => by
    injection hi with hi
    have := (h2'.2.1 t ht).2.2.2.ne hk' (by decide)
    omega
  have h3' : OwnC (w'.setCell ⟨go, m, none⟩ (.slice (some ⟨g', 0, none⟩) 1 c')) g' 1 c' [y] := hown.only hst.2 hgo'
  have hset : (vs ++ [Value.slice none 0 0]).set m (.slice (some ⟨g', 0, none⟩) 1 c') = vs ++ [.slice (some ⟨g', 0, none⟩) 1 c'] := by
    rw [List.set_append_right _ _ (by omega), hvl]; simp
  have hn := hst.1
  rw [hset] at hn
  obtain ⟨b1, b2⟩ := blk_of_own hn
  refine ⟨by simpa using hc, World.ownsRow.frozenAt h1' m, vs, G, C, g', c', go, cap, rfl, hn, hvl, h2'', h3', ?_, fun t ht => ?_, b1, b2⟩
  · have := hk.lt; omega
  · have := h2.lt t ht; omega
/-- a row appended whole -/
theorem RowsT.appd {w w' : World} {B n : Nat} {v : Value} {xs : List IntSR} {vs : List Value} {G C : Nat → Nat} (h1 : w.ownsRow B 43 1 v n vs) (h : RowsT w B n xs vs G C) (hg : w.grownBy w' v.ownBlock) : RowsT w' B n xs vs G C :=
  h.only hg fun t ht i hi => by
    rcases own_formG h1 with ⟨rfl, _⟩ | ⟨g', c', cur, rfl, _, hk, _⟩
    · simp [Value.ownBlock] at hi
    · simp [Value.ownBlock] at hi
      subst hi
      exact (h.2.1 t ht).2.2.2.ne hk (by decide)
theorem ownC_new0 (w : World) : OwnC (w.alloc (.cells #[] 3)) w.heap.size 0 0 [] := ⟨rfl, .inr ⟨w.heap.size, 0, _, rfl, Nat.le_refl _, heap_alloc_new w _, Nat.le_refl _, Nat.zero_le _, by simp, by simp [iv]⟩⟩
theorem ownC_of1 {w : World} {B : Nat} {v : Value} {y : Int} (h : w.ownsRow B 3 1 v 1 (iv [y])) : ∃ g c, v = .slice (some ⟨g, 0, none⟩) 1 c ∧ B ≤ g ∧ OwnC w g 1 c [y] := by
  rcases own_formG h with ⟨_, hn⟩ | ⟨g, c, cur, rfl, hg, hk, _⟩
  · cases hn
  · exact ⟨g, c, rfl, hg, ⟨h.1, by
      rcases h.2 with ⟨hn, _⟩ | ⟨g2, cap, cur2, hv, hg2, rest⟩
      · cases hn
      · have hv2 := hv
        injection hv with e1 _ _
        injection e1 with e1
        injection e1 with e1
        subst e1
        exact .inr ⟨g, cap, cur2, hv2, Nat.le_refl _, rest⟩⟩⟩
end Go.Proofs.Ytmkfnhgaiheckaa
