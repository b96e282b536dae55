/- Append of one number to a row that the call owns, with the block that it lies in. -/
import Derived.Test.YtmkfnhgaiheckaaOwnC
import Derived.ArgAppend
import Derived.Deep.DeepAppendRoom
namespace Go.Proofs.Ytmkfnhgaiheckaa
open Go.ChangeShapes Go.WideShapes Go.ChangeAt Go.RowKit
set_option linter.unusedVariables false
set_option linter.unusedSimpArgs false
set_option maxHeartbeats 2000000

theorem grown_some {w w' : World} {g : Nat} (h : w.grownBy w' none) : w.grownBy w' (some g) := ⟨h.os, h.tape, h.output, h.size, fun i hi _ => h.block i hi (by simp)⟩
theorem ownC_form {w : World} {B n : Nat} {v : Value} {xs : List Int} (h : w.ownsRow B 3 1 v n (iv xs)) (hn : 0 < n) : ∃ g c, v = .slice (some ⟨g, 0, none⟩) n c ∧ B ≤ g ∧ OwnC w g n c xs := by
  have h1 := h.1
  rcases h.2 with ⟨rfl, e⟩ | ⟨g, cap, cur, rfl, hg, rest⟩
  · omega
  · exact ⟨g, cap, rfl, hg, h1, .inr ⟨g, cap, cur, rfl, Nat.le_refl _, rest⟩⟩
theorem wpList_app2 {P : Program} {ops : Array Oper} {rest : List Oper} {o : Oper} {a : Act} {Q : Exit → Act → World → Prop} (w0 : World) (hgd : o.guard = none) (s x : Operand) (t : TypeId)
    (ho : o.op = .call { callee := .builtin .append, args := #[s, x], argTypes := #[t, t] })
    (i : TypeInfo) (z : Value) (ht : P.underlying t = some (.slice 3)) (hi : P.info? 3 = some i) (hz : i.zero = some z)
    (hsize : i.size = 1) (hby : i.bytes = 8) (hzs : z.cells.size = 1)
    (g n c : Nat) (xs : List Int) (hs : a.eval s = .slice (some ⟨g, 0, none⟩) n c) (hown : OwnC w0 g n c xs)
    (y : Int) (hx : a.eval x = .slice (some ⟨w0.heap.size, 0, none⟩) 1 1) (h63 : n + 1 ≤ 1000000)
    (h : ∀ g' c' w', OwnC w' g' (n + 1) c' (xs ++ [y]) → (g' = g ∨ w0.heap.size ≤ g') → w0.grownBy w' (some g) → wpList P ops Q rest (a.put o.dst (.slice (some ⟨g', 0, none⟩) (n + 1) c')) w') :
    wpList P ops Q (o :: rest) a (w0.alloc (.cells #[.int .i64 y] 3)) := by
  have hnews : ∀ (j : Nat) u, [Value.int .i64 y][j]? = some u → (w0.alloc (.cells #[.int .i64 y] 3)).cell? ((⟨w0.heap.size, 0, none⟩ : Addr).add j) = some u := by
    intro j u hu
    obtain rfl : j = 0 := by
      have := (List.getElem?_eq_some_iff.1 hu).1
      simp at this; omega
    have hk := Blk.new w0 3 #[Value.int .i64 y]
    rw [Addr.add_lit, Nat.zero_add, hk.cell]
    simpa using hu
  have h1 : ∀ u ∈ [Value.int .i64 y], u.oneCell' = true := by intro u hu; simp at hu; subst hu; rfl
  have hg0 : w0.grownBy (w0.alloc (.cells #[.int .i64 y] 3)) (some g) := only_alloc (only_refl _ _) _
  have hown1 := hown.alloc (.cells #[.int .i64 y] 3)
  by_cases hc : c < n + 1
  · refine wpList_append_grows _ hgd s x t ho 3 i z 1 8 ht hi hz hsize hby hzs Nat.one_pos (some ⟨g, 0, none⟩) n c (iv xs) hs (fun h => by cases h) (by rw [iv_len, hown.len]; omega) (fun b hb j u hu => ?_) ⟨w0.heap.size, 0, none⟩ 1 1 [.int .i64 y] hx rfl hnews h1 hc (by unfold maxLen; omega) (by omega) fun v' w' h2 h3 => ?_
    · injection hb with hb
      subst hb
      have hj : j < n := by
        have := (List.getElem?_eq_some_iff.1 hu).1
        rw [iv_len, hown.len] at this; exact this
      obtain ⟨a', ha', hcc⟩ := hown1.reads.2 j hj
      injection ha' with ha'
      subst ha'
      rw [hcc, ← iv_at xs j (by rw [hown.len]; exact hj)]; exact hu
    · rw [show iv xs ++ [Value.int .i64 y] = iv (xs ++ [y]) by rw [iv_app]; rfl] at h2
      obtain ⟨g', c', rfl, hg', ho'⟩ := ownC_form h2 (by omega)
      exact h g' c' w' ho' (.inr (by simp at hg'; omega)) (only_trans hg0 (grown_some h3))
  · refine wpList_append_own_spare _ hgd s x t ho g 3 i 1 ht hi hsize g n c (iv xs) hs hown1 ⟨w0.heap.size, 0, none⟩ 1 1 [.int .i64 y] hx rfl hnews h1 (by omega) fun w' h2 h3 => ?_
    rw [show iv xs ++ [Value.int .i64 y] = iv (xs ++ [y]) by rw [iv_app]; rfl] at h2
    exact h g c w' h2 (.inl rfl) (only_trans hg0 h3)
theorem wpList_app3 {P : Program} {ops : Array Oper} {rest : List Oper} {o : Oper} {a : Act} {Q : Exit → Act → World → Prop} (w0 : World) (hgd : o.guard = none) (s x : Operand) (t : TypeId)
    (ho : o.op = .call { callee := .builtin .append, args := #[s, x], argTypes := #[t, t] })
    (base : Nat) (i : TypeInfo) (z : Value) (ht : P.underlying t = some (.slice 3)) (hi : P.info? 3 = some i) (hz : i.zero = some z)
    (hsize : i.size = 1) (hby : i.bytes = 8) (hzs : z.cells.size = 1)
    (v : Value) (n : Nat) (xs : List Int) (hs : a.eval s = v) (hown : w0.ownsRow base 3 1 v n (iv xs))
    (y : Int) (hx : a.eval x = .slice (some ⟨w0.heap.size, 0, none⟩) 1 1) (h63 : n + 1 ≤ 1000000) (hbase : base ≤ w0.heap.size)
    (h : ∀ v' w', w'.ownsRow base 3 1 v' (n + 1) (iv (xs ++ [y])) → w0.grownBy w' v.ownBlock → wpList P ops Q rest (a.put o.dst v') w') :
    wpList P ops Q (o :: rest) a (w0.alloc (.cells #[.int .i64 y] 3)) := by
  have hnews : ∀ (j : Nat) u, [Value.int .i64 y][j]? = some u → (w0.alloc (.cells #[.int .i64 y] 3)).cell? ((⟨w0.heap.size, 0, none⟩ : Addr).add j) = some u := by
    intro j u hu
    obtain rfl : j = 0 := by
      have := (List.getElem?_eq_some_iff.1 hu).1
      simp at this; omega
    have hk := Blk.new w0 3 #[Value.int .i64 y]
    rw [Addr.add_lit, Nat.zero_add, hk.cell]
    simpa using hu
  have h1 : ∀ u ∈ [Value.int .i64 y], u.oneCell' = true := by intro u hu; simp at hu; subst hu; rfl
  refine wpList_append_own _ hgd s x t ho base 3 i z 1 8 ht hi hz hsize hby hzs Nat.one_pos v n (iv xs) hs (hown.alloc _) ⟨w0.heap.size, 0, none⟩ 1 1 [.int .i64 y] hx rfl hnews h1 (by unfold maxLen; omega) (by omega) (by simp; omega) fun v' w' h2 h3 _ => ?_
  rw [show iv xs ++ [Value.int .i64 y] = iv (xs ++ [y]) by rw [iv_app]; rfl] at h2
  exact h v' w' h2 ⟨h3.os, h3.tape, h3.output, Nat.le_trans (by simp) h3.size, fun i hi hne => (h3.block i (by simp; omega) hne).trans (Below.heap_alloc w0 _ i hi)⟩
end Go.Proofs.Ytmkfnhgaiheckaa
