/- Chapter 31: Shares: the program, whole. -/
import Derived.Test.YtmkfnhgaiheckaaI31
namespace Go.Proofs.Ytmkfnhgaiheckaa
open Go.ChangeShapes Go.WideShapes Go.ChangeAt Go.RowKit
set_option linter.unusedVariables false
set_option linter.unusedSimpArgs false
set_option maxHeartbeats 2000000

theorem cell9n (w : World) (v : Value) (t : TypeId) : (w.alloc (.cells #[v] t)).cell? ⟨w.heap.size, 0, none⟩ = some v := by
  have h := heap_alloc_new w (.cells #[v] t)
  show (match (w.alloc (.cells #[v] t)).heap[w.heap.size]? with | some (Obj.cells c elem frozen) => c[0]? | x => none) = some v
  rw [h]
  rfl
theorem cell9a {w : World} {a : Addr} {v : Value} {o : Obj} (h : w.cell? a = some v) : (w.alloc o).cell? a = some v := by rw [World.cell?_alloc_some w a o (by rw [h]; rfl)]; exact h
theorem own9 {w : World} {B B' n : Nat} {t : TypeId} {v : Value} {xs : List Value} (h : w.ownsRow B t 1 v n xs) (hB : B' ≤ B) : w.ownsRow B' t 1 v n xs := by
  refine ⟨h.1, ?_⟩
  rcases h.2 with h | ⟨g, cap, cur, hv, hg, hr⟩
  · exact .inl h
  · exact .inr ⟨g, cap, cur, hv, Nat.le_trans hB hg, hr⟩
set_option maxRecDepth 20000 in
set_option maxHeartbeats 8000000 in
theorem iShares (A : Option Addr) (n c : Nat) (xs : List Int) (N : Int) (w : World) (hn : n ≤ maxLen) (hnc : n ≤ c) (hcm : c ≤ maxLen) (hx : ReadsI w A n xs) : Calls Try.prog 34 #[.slice A n c, .int .i64 N] w (RowV (SharesL n xs N) (.bool (SharesB n xs N)) w) := by
  have HR := Lib.hid hx
  have HX2 := Lib.hid (fun W (h : ReadsI W A n xs) => icanShare A n c xs N W hn h)
  cases h1 : (cakeB n xs && inB N 1 10)
  · have HB : Hid (SharesB n xs N = false) := Lib.hid (by simp [SharesB, h1])
    have HL : Hid (SharesL n xs N = []) := Lib.hid (by simp [SharesL, HB.out])
    rw [h1] at HX2
    have HF := Lib.hid (HX2.out _ (reads_in hx ((In.refl w).alloc (.cells #[.int .i64 N] 3))))
    clear hx h1
    go_enter Try.func34, Try.ntmps34
    go_wp2_with fail
    refine HF.out.mono ?_
    rintro _ _ ⟨rfl, rfl⟩
    go_wp2
    exact bodyPost_ret (v := .tuple #[.slice none 0 0, .bool false]) (by simp [results, Try.results34, go_sem]) rfl (by rw [HL.out, HB.out]; exact rowV_of9 rfl ⟨rfl, .inl ⟨rfl, rfl⟩⟩ ((In.refl w).alloc _).below)
  obtain ⟨h2, h3⟩ : cakeB n xs = true ∧ inB N 1 10 = true := by simpa using h1
  obtain ⟨n1, n40, hs⟩ := cake_at h2
  obtain ⟨N1, N10⟩ := inB_tt h3
  have hW := lsum_in 1000 hs
  rw [h1] at HX2
  have i1 := (In.refl w).alloc (.cells #[.int .i64 N] 3)
  have HF := Lib.hid (HX2.out _ (reads_in hx i1))
  have HSU := Lib.hid (isumOf A n c xs _ (by omega) (wide9 hs) (reads_in hx i1))
  have HVB : Hid (SharesB n xs N = decide (N ≤ ((cutL n xs ((lsum xs n + N - 1) / N)).length : Int))) := Lib.hid (by simp [SharesB, h2, h3])
  have HE : Hid (∀ k, ctS (geP ((lsum xs n + N - 1) / N)) xs k = ctS (mulP (lsum xs n) N) xs k) := Lib.hid (fun k => ct_same (fun s => ge_mul N1) xs k)
  have HB := Lib.hid (show decide (N ≤ ((ctS (mulP (lsum xs n) N) xs n).2.length : Int) ) = SharesB n xs N by rw [HVB.out]; unfold cutL; rw [HE.out])
  have HL := Lib.hid (show (if N ≤ ((ctS (mulP (lsum xs n) N) xs n).2.length : Int) then (ctS (mulP (lsum xs n) N) xs n).2.take (N.toNat - 1) else []) = SharesL n xs N by
    unfold SharesL
    rw [← HB.out]
    unfold cutL
    rw [HE.out]
    by_cases h : N ≤ ((ctS (mulP (lsum xs n) N) xs n).2.length : Int)
    · rw [if_pos h, if_pos (decide_eq_true h)]
    · rw [if_neg h, decide_eq_false h]; rfl)
  obtain ⟨W, hWW⟩ : ∃ W, lsum xs n = W := ⟨_, rfl⟩
  rw [hWW] at HB HL HSU
  have HCI := Lib.hid (fun b6 W' c3 c6 (h : In w.heap.size w W') => icutInto A n c xs N W w.heap.size b6 W' n1 n40 hnc hcm hs ⟨N1, N10⟩ (reads_in hx h) c3 c6 (SharesL n xs N) (SharesB n xs N) HL HB)
  have I1 := Lib.hid i1
  clear hx h1 h2 h3 hs hW HVB HE hWW i1
  go_enter Try.func34, Try.ntmps34
  go_wp2_with fail
  refine HF.out.mono ?_
  rintro _ _ ⟨rfl, rfl⟩
  go_wp2_with fail
  refine HSU.out.mono ?_
  rintro _ _ ⟨rfl, rfl⟩
  go_wp2_with fail
  have hi2 := I1.out.alloc (.cells #[.int .i64 W] 3)
  have k1 : ((w.alloc (.cells #[.int .i64 N] 3)).alloc (.cells #[.int .i64 W] 3)).cell? ⟨w.heap.size, 0, none⟩ = some (.int .i64 N) := cell9a (cell9n w _ _)
  have k2 : ((w.alloc (.cells #[.int .i64 N] 3)).alloc (.cells #[.int .i64 W] 3)).cell? ⟨w.heap.size + 1, 0, none⟩ = some (.int .i64 W) := by
    have := cell9n (w.alloc (.cells #[.int .i64 N] 3)) (.int .i64 W) 3
    rwa [show (w.alloc (.cells #[.int .i64 N] 3)).heap.size = w.heap.size + 1 by simp] at this
  refine (HCI.out _ _ k1 k2 hi2).mono ?_
  rintro _ w9 ⟨B, d, rfl, hown, hb⟩
  go_wp2
  exact bodyPost_ret (v := .tuple #[.slice B (SharesL n xs N).length d, .bool (SharesB n xs N)]) (by simp [results, Try.results34, go_sem]) rfl (rowV_of9 rfl (own9 hown hi2.size) (hi2.step hb).below)
end Go.Proofs.Ytmkfnhgaiheckaa
