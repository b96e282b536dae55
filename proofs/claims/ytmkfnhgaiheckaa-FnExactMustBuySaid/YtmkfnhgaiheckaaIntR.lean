/- Rows of ints: the words (no dump but the type's number). -/
import Derived.Test.YtmkfnhgaiheckaaVal
namespace Go.Proofs.Ytmkfnhgaiheckaa
open Go.ChangeShapes Go.WideShapes Go.ChangeAt Go.RowKit
set_option linter.unusedVariables false

/-- a row of ints that is read -/
def ReadsI (w : World) (A : Option Addr) (n : Nat) (xs : List Int) : Prop :=
  xs.length = n ∧ ∀ k, k < n → ∃ ad, A = some ad ∧ w.cell? (ad.add k) = some (.int .i64 (xs.getD k 0))
def iv (xs : List Int) : List Value := xs.map fun x => .int .i64 x
theorem iv_len (xs : List Int) : (iv xs).length = xs.length := by simp [iv]
theorem iv_set (xs : List Int) (k : Nat) (b : Int) : iv (xs.set k b) = (iv xs).set k (.int .i64 b) := by simp [iv, List.map_set]
theorem iv_at (xs : List Int) (k : Nat) (h : k < xs.length) : (iv xs)[k]? = some (.int .i64 (xs.getD k 0)) := by simp [iv, h]
theorem iv_app (a b : List Int) : iv (a ++ b) = iv a ++ iv b := by simp [iv]
theorem own_len_i {w : World} {base n : Nat} {v : Value} {xs : List Int} (h : w.ownsRow base 3 1 v n (iv xs)) : xs.length = n := by have := h.1; simp [iv] at this; exact this
theorem reads_own_i {w : World} {base n c : Nat} {A : Option Addr} {xs : List Int} (h : w.ownsRow base 3 1 (.slice A n c) n (iv xs)) : ReadsI w A n xs := by
  have hl : xs.length = n := own_len_i h
  refine ⟨hl, fun k hk => ?_⟩
  obtain ⟨g, cap, hv, _, _⟩ := h.form (by omega)
  injection hv with h1 h2 h3
  subst h1 h3
  exact ⟨_, rfl, by rw [Addr.add_lit, Nat.zero_add, h.cellAt k (by omega)]; exact iv_at xs k (by omega)⟩
theorem own_shape_i {w : World} {base n : Nat} {e : TypeId} {v : Value} {size : Nat} {xs : List Value} (h : w.ownsRow base e size v n xs) : ∃ A c, v = .slice A n c := by
  rcases h.2 with ⟨rfl, rfl⟩ | ⟨g, cap, cur, rfl, _⟩
  · exact ⟨_, _, rfl⟩
  · exact ⟨_, _, rfl⟩
/-- what came in is read -/
theorem reads_row {w : World} {a : Option Addr} {len cap : Nat} {zs : List Int} (h : IsRow .i64 w a len cap zs) : ReadsI w a len (zs.take len) := by
  rcases h with ⟨rfl, rfl, rfl, rfl⟩ | ⟨x, rfl, hl, hm, hz, hc, hw⟩
  · exact ⟨rfl, fun k hk => absurd hk (Nat.not_lt_zero _)⟩
  · refine ⟨by simp; omega, fun k hk => ⟨x, rfl, ?_⟩⟩
    rw [hc k (by omega)]
    simp [List.getD_eq_getElem?_getD, hk]
theorem row_le {w : World} {a : Option Addr} {len cap : Nat} {k : IntKind} {zs : List Int} (h : IsRow k w a len cap zs) : len ≤ maxLen := by
  rcases h with ⟨rfl, rfl, rfl, rfl⟩ | ⟨x, rfl, hl, hm, hz, hc, hw⟩
  · exact Nat.zero_le _
  · omega
theorem row_wf {w : World} {a : Option Addr} {len cap : Nat} {k : IntKind} {zs : List Int} (h : IsRow k w a len cap zs) : ∀ n ∈ zs.take len, (Lit.int k n).wf = true := by
  rcases h with ⟨rfl, rfl, rfl, rfl⟩ | ⟨x, rfl, hl, hm, hz, hc, hw⟩
  · intro n hn; cases hn
  · exact fun n hn => hw n (List.mem_of_mem_take hn)
theorem ReadsI.lt {w : World} {A : Option Addr} {n : Nat} {xs : List Int} (h : ReadsI w A n xs) (ad : Addr) (hA : A = some ad) (hn : 0 < n) : ad.block < w.heap.size := by
  obtain ⟨a', ha, hc⟩ := h.2 0 hn
  obtain rfl : ad = a' := Option.some.inj (hA.symm.trans ha)
  rcases Nat.lt_or_ge ad.block w.heap.size with h1 | h1
  · exact h1
  · exfalso
    unfold World.cell? at hc
    rw [block_of_add] at hc
    simp [Array.getElem?_eq_none h1] at hc
theorem ReadsI.below {w w' : World} {A : Option Addr} {n : Nat} {xs : List Int} {B : Nat} (h : ReadsI w A n xs) (hb : Below B w w') (hB : w.heap.size ≤ B) : ReadsI w' A n xs := by
  refine ⟨h.1, fun k hk => ?_⟩
  obtain ⟨ad, rfl, hc⟩ := h.2 k hk
  refine ⟨ad, rfl, (hb.cell ?_).trans hc⟩
  have := h.lt ad rfl (by omega)
  rw [block_of_add]
  omega

theorem ReadsI.step {w w' : World} {A : Option Addr} {n : Nat} {xs : List Int} (h : ReadsI w A n xs) (hb : Below w.heap.size w w') : ReadsI w' A n xs := h.below hb (Nat.le_refl _)
theorem ReadsI.alloc {w : World} {A : Option Addr} {n : Nat} {xs : List Int} (h : ReadsI w A n xs) (o : Obj) : ReadsI (w.alloc o) A n xs := h.step ((Below.refl _ w).alloc (Nat.le_refl _) o)
theorem ReadsI.drew {w : World} {A : Option Addr} {n : Nat} {xs : List Int} (h : ReadsI w A n xs) : ReadsI w.drew A n xs := h.step (Below.refl _ w).drew
theorem ReadsI.drewN {w : World} {A : Option Addr} {n : Nat} {xs : List Int} (h : ReadsI w A n xs) (k : Nat) : ReadsI (w.drewN k) A n xs := h.step (below_drewN (Below.refl _ w) k)

/-- what a call answers that returns a new row of ints -/
def RowB (zs : List Int) (w : World) (e : Ending) (w' : World) : Prop :=
  ∃ A c, e = .returned (.slice A zs.length c) ∧ w'.ownsRow w.heap.size 3 1 (.slice A zs.length c) zs.length (iv zs) ∧ Below w.heap.size w w'
theorem own_lit (w : World) (t : TypeId) (cs : Array Value) (n B : Nat) (hn : cs.size = n) (hB : B ≤ w.heap.size) (hm : n ≤ maxLen) : (w.alloc (.cells cs t)).ownsRow B t 1 (.slice (some ⟨w.heap.size, 0, none⟩) n n) n cs.toList := by
  subst hn
  refine ⟨by simp, .inr ⟨w.heap.size, cs.size, cs, rfl, hB, heap_alloc_new w _, Nat.le_refl _, hm, by simp, ?_⟩⟩
  rw [List.take_of_length_le (by simp)]
theorem rowB_nil (w w' : World) (h : In w.heap.size w w') : RowB [] w (.returned (.slice none 0 0)) w' := ⟨none, 0, rfl, ⟨rfl, .inl ⟨rfl, rfl⟩⟩, h.below⟩
theorem rowB_lit {a w : World} (cs : Array Value) (n : Nat) (zs : List Int) (h : In a.heap.size a w) (hz : cs.toList = iv zs) (hn : n = zs.length) (hm : n ≤ maxLen) :
    RowB zs a (.returned (.slice (some ⟨w.heap.size, 0, none⟩) n n)) (w.alloc (.cells cs 3)) := by
  have hs : cs.size = n := by rw [← Array.length_toList, hz, iv_len, hn]
  have := own_lit w 3 cs n a.heap.size hs h.size hm
  subst hn
  refine ⟨some ⟨w.heap.size, 0, none⟩, zs.length, rfl, ?_, (h.alloc _).below⟩
  rw [← hz]; exact this
theorem rowB_of {a w : World} {A : Option Addr} {n c : Nat} {zs : List Int} (hl : zs.length = n) (ho : w.ownsRow a.heap.size 3 1 (.slice A n c) n (iv zs)) (hb : Below a.heap.size a w) : RowB zs a (.returned (.slice A n c)) w := by
  subst hl; exact ⟨_, _, rfl, ho, hb⟩
theorem list_at {l xs : List Int} (h : l.length = xs.length) (ha : ∀ t, t < l.length → l.getD t 0 = xs.getD t 0) : l = xs := by
  apply List.ext_getElem h
  intro i h1 h2
  have := ha i h1
  rw [List.getD_eq_getElem?_getD, List.getElem?_eq_getElem h1, List.getD_eq_getElem?_getD, List.getElem?_eq_getElem h2] at this
  exact this
end Go.Proofs.Ytmkfnhgaiheckaa
