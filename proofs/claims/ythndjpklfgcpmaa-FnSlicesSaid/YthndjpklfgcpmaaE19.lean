/- Chapter 19: EvenSlices: the places of the cuts; what a loop over an iterator collects. -/
import Derived.Test.YthndjpklfgcpmaaIn
import Derived.Test.YthndjpklfgcpmaaIntR
import Derived.Test.YthndjpklfgcpmaaIntS
import Derived.Test.YthndjpklfgcpmaaOwnI
import Derived.Test.YthndjpklfgcpmaaAppS
import Derived.RangeFuncNested
import Derived.RangeFuncBound
import Derived.RangeFuncCalls
import Derived.RangeFuncLeaves
import Derived.RangeFuncBox
import Derived.Shelf.Abstract
import Derived.Shelf.RegionOpen
import Derived.WalkKit
import Derived.OwnWalkIn
import Derived.TacticsInMore
import Derived.LoopNIn
import Derived.LoopIn
import Derived.Maps.AppendAt
namespace Go.Proofs.Ythndjpklfgcpmaa
open Go.ChangeShapes Go.WideShapes Go.ChangeAt Go.RowKit Go.Shelf
set_option linter.unusedVariables false
set_option linter.unusedSimpArgs false
set_option maxHeartbeats 2000000

attribute [local go_sem] Oper.semAt_some
/-- the first m cuts -/
def evL (l N : Int) (m : Nat) : List Int := (List.range m).map fun i => ((i + 1 : Nat) : Int) * l / N
theorem evL_len (l N : Int) (m : Nat) : (evL l N m).length = m := by simp [evL]
theorem evL_s (l N : Int) (m : Nat) : evL l N (m + 1) = evL l N m ++ [((m + 1 : Nat) : Int) * l / N] := by simp [evL, List.range_succ]
theorem info19 : (Try.prog.info? 3).map (fun i => (i.zero, i.size, i.bytes)) = some (some (.int .i64 0), 1, 8) := by kernel_rfl
theorem cell_below {n₀ b : Nat} {A B : World} {v : Value} (h : Below n₀ A B) (hb : b < n₀) (hc : A.cell? ⟨b, 0, none⟩ = some v) : B.cell? ⟨b, 0, none⟩ = some v := (h.cell (p := ⟨b, 0, none⟩) hb).trans hc
set_option maxRecDepth 100000 in
set_option maxHeartbeats 4000000 in
/-- the iterator: for every loop body that keeps what lay below n₀ -/
theorem cuts1_in (F : Fence) (n : Nat) (hf : F.fn 79) (hro : F.round = none) (hn : 1 ≤ n) (l B3 B2 n₀ : Nat) (len N : Int) (hlen : 1 ≤ len ∧ len ≤ 1000) (hN : 1 ≤ N ∧ N ≤ 1000) (h3 : B3 < n₀) (h2 : B2 < n₀) (J Jx : List Int → World → Prop)
    (hY : ∀ pre x W, J pre W → pre.length < N.toNat - 1 → YieldAt F (n - 1) Try.prog l #[.int .i64 x] W fun e W' =>
      (e = .returned (.bool true) ∧ J (pre ++ [x]) W' ∧ Below n₀ W W') ∨ (e = .returned (.bool false) ∧ Jx (pre ++ [x]) W'))
    (W : World) (c3 : W.cell? ⟨B3, 0, none⟩ = some (.int .i64 N)) (c2 : W.cell? ⟨B2, 0, none⟩ = some (.int .i64 len)) (h0 : J [] W) :
    CallsIn F n Try.prog 79 #[.func (.yield l) #[] #[], .pointer (some ⟨B3, 0, none⟩), .pointer (some ⟨B2, 0, none⟩)] W fun e W' => (∃ v, e = .returned v) ∧
      ((∃ ys, ys = evL len N (N.toNat - 1) ∧ J ys W') ∨ (∃ pre, True ∧ Jx pre W')) := by
  refine callsIn_of_wp Try.func79 rfl hf ?_ hro
  simp only [Try.ntmps79, List.size_toArray, List.length_cons, List.length_nil, Nat.reduceAdd, Nat.reduceSub, Array.replicate_succ, Array.replicate_zero, List.push_toArray, List.append_toArray, List.nil_append, List.cons_append]
  gi_wp2
  gi_loopw [4] (fun i wr => ∃ m : Nat, m ≤ N.toNat - 1 ∧ i = .int .i64 ((m + 1 : Nat) : Int) ∧ wr.cell? ⟨B3, 0, none⟩ = some (.int .i64 N) ∧ wr.cell? ⟨B2, 0, none⟩ = some (.int .i64 len) ∧ J (evL len N m) wr) (fun i _ => N.toNat - (intOf i).toNat)
  case atStart => exact ⟨0, Nat.zero_le _, rfl, c3, c2, h0⟩
  case round =>
    obtain ⟨m, hm, rfl, d3, d2, hJ⟩ := hrel
    by_cases hlt : m < N.toNat - 1
    · have HY := hY (evL len N m) (((m + 1 : Nat) : Int) * len / N) wr hJ (by rw [evL_len]; exact hlt)
      have HE := Lib.hid (evL_s len N m)
      obtain ⟨k, hk⟩ : ∃ k : Int, ((m + 1 : Nat) : Int) = k := ⟨_, rfl⟩
      have HK := Lib.hid hk
      have hkk : 1 ≤ k ∧ k < N := by omega
      rw [hk] at HY HE ⊢
      obtain ⟨p, hp⟩ : ∃ p, k * len = p := ⟨_, rfl⟩
      have hpp : 0 ≤ p ∧ p ≤ 1000000 := by
        have h1 := Int.mul_le_mul (a := k) (b := len) (c := 1000) (d := 1000) (by omega) (by omega) (by omega) (by omega)
        have h2 := Int.mul_nonneg (a := k) (b := len) (by omega) (by omega)
        omega
      have V1 : wrap64 (k * len) = p := by rw [hp, w64 ⟨by omega, by omega⟩]
      have V1v : IntKind.i64.wrap (k * len) = p := by rw [hp, IntWalk.i64_in _ (by omega)]
      rw [hp] at HY HE
      clear hp
      obtain ⟨x, hx⟩ : ∃ x, p / N = x := ⟨_, rfl⟩
      have hxx : 0 ≤ x ∧ x ≤ 1000000 := by
        have h1 := Int.ediv_nonneg (a := p) (b := N) (by omega) (by omega)
        have h2 := Int.ediv_le_self N (a := p) (by omega)
        omega
      have Q1 : p.tdiv N = x := by rw [Int.tdiv_eq_ediv_of_nonneg (by omega), hx]
      have Q2 := IntWalk.i64_in x (by omega)
      have Q2w : wrap64 x = x := w64 ⟨by omega, by omega⟩
      have Q3 : ¬ (N = 0) := by omega
      have Q4 : (N == 0) = false := by simpa using Q3
      rw [hx] at HY HE
      clear hx hk
      obtain ⟨fn, tmps, assign, body, hy, hR⟩ := HY
      gi_wp2
      refine hR.mono ?_
      rintro e W3 (⟨rfl, hJ3, hk3⟩ | ⟨rfl, hJx3⟩)
      · have e3 := cell_below hk3 h3 d3
        have e2 := cell_below hk3 h2 d2
        have V9 : wrap64 (k + 1) = k + 1 := w64 ⟨by omega, by omega⟩
        gi_wp2
        go_roundw
        case rel => exact ⟨m + 1, by omega, by have := HK.out; congr 1; omega, e3, e2, by rw [HE.out]; exact hJ3⟩
        case measure => have := HK.out; simp [intOf]; omega
      · gi_wp2
        refine bodyPost_ret (results_none rfl _ _ _) rfl ?_
        exact ⟨⟨_, rfl⟩, .inr ⟨_, trivial, hJx3⟩⟩
    · obtain rfl : m = N.toNat - 1 := by omega
      obtain ⟨k, hk⟩ : ∃ k : Int, ((N.toNat - 1 + 1 : Nat) : Int) = k := ⟨_, rfl⟩
      have hge : N ≤ k := by omega
      rw [hk]
      clear hk
      gi_wp2
      go_end0
      exact ⟨⟨_, rfl⟩, .inl ⟨_, rfl, hJ⟩⟩
theorem cuts_in (F : Fence) (n : Nat) (hf : F.fn 52) (hro : F.round = none) (len N : Int) (w : World) :
    CallsIn F n Try.prog 52 #[.int .i64 len, .int .i64 N] w fun e w' => e = .returned (.func (.func 79) #[] #[.pointer (some ⟨w.heap.size + 1, 0, none⟩), .pointer (some ⟨w.heap.size, 0, none⟩)]) ∧ w' = (w.alloc (.cells #[.int .i64 len] 3)).alloc (.cells #[.int .i64 N] 3) := by
  refine callsIn_of_wp Try.func52 rfl hf ?_ hro
  simp only [Try.ntmps52, List.size_toArray, List.length_cons, List.length_nil, Nat.reduceAdd, Nat.reduceSub, Array.replicate_succ, Array.replicate_zero, List.push_toArray, List.append_toArray, List.nil_append, List.cons_append]
  gi_wp2
  go_ret
  exact ⟨by simp, rfl⟩
theorem cuts_stops (F : Fence) (n : Nat) (hf : F.fn 79) (hro : F.round = none) (hn : 1 ≤ n) (B3 B2 n₀ : Nat) (len N : Int) (hlen : 1 ≤ len ∧ len ≤ 1000) (hN : 1 ≤ N ∧ N ≤ 1000) (w : World) (h3 : B3 < n₀) (h2 : B2 < n₀) (hn₀ : n₀ ≤ w.heap.size)
    (c3 : w.cell? ⟨B3, 0, none⟩ = some (.int .i64 N)) (c2 : w.cell? ⟨B2, 0, none⟩ = some (.int .i64 len)) :
    SeqStopsK F n Try.prog 79 #[.pointer (some ⟨B3, 0, none⟩), .pointer (some ⟨B2, 0, none⟩)] (fun x : Int => #[Value.int .i64 x]) (Below n₀) (fun ys => ys = evL len N (N.toNat - 1)) (fun _ => True) (N.toNat - 1) w := fun l J Jx W hW _ _ hY h0 =>
  cuts1_in F n hf hro hn l B3 B2 n₀ len N hlen hN h3 h2 J Jx hY W (cell_below hW (by omega) c3) (cell_below hW (by omega) c2) h0
set_option maxRecDepth 100000 in
set_option maxHeartbeats 4000000 in
/-- what a loop over an iterator appends to nothing -/
theorem appendSeq_in (F : Fence) (n : Nat) (hf : F.fn 78) (hro : F.round = none) (hn : 3 ≤ n) (g : Nat) (lb : Array Value) (hFg : F.fn g) (eg : ∀ args w, (callFunc g args).run Try.prog w = .ok (.enter g args) w)
    (ys : List Int) (Sp : List Int → Prop) (N : Nat) (hN : N ≤ 1000) (w : World) (hseq : ∀ w', Below w.heap.size w w' → SeqStopsK F (n - 1) Try.prog g lb (fun x : Int => #[Value.int .i64 x]) (Below w.heap.size) (fun zs => zs = ys) Sp N w') :
    CallsIn F n Try.prog 78 #[.slice none 0 0, .func (.func g) #[] lb] w fun e w' => ∃ v, e = .returned v ∧ w'.ownsRow w.heap.size 3 1 v ys.length (ys.map (Value.int .i64)) ∧ Below w.heap.size w w' := by
  have h1 : 1 ≤ n := by omega
  obtain ⟨i0, hi, hz0, hz1, hz2⟩ := info_parts info19
  refine callsIn_of_wp_marks Try.func78 rfl hf ?_ hro
  simp only [Try.ntmps78, List.size_toArray, List.length_cons, List.length_nil, Nat.reduceAdd, Nat.reduceSub, Array.replicate_succ, Array.replicate_zero, List.push_toArray, List.append_toArray, List.nil_append, List.cons_append]
  gi_wp2
  have bO := Boxed.new w 22 (.slice none 0 0)
  have hB0 : Below w.heap.size w (w.alloc (.cells #[.slice none 0 0] 22)) := (Below.refl _ w).alloc (Nat.le_refl _) _
  refine wpIn_rangeFunc_ownG hro h1 (gf := g) (lb := lb) rfl hFg eg
    (hseq _ hB0) belowK_t (belowK_b (by simp)) (Below.refl _ _) (fun _ => rfl)
    (fun pre W => (∃ v, Boxed W w.heap.size 22 v ∧ W.ownsRow w.heap.size 3 1 v pre.length (pre.map (Value.int .i64)) ∧ True) ∧ Below w.heap.size w W)
    (fun _ _ _ => False)
    (OwnFrom.and (Own.from (holdsRow_own w.heap.size w.heap.size 22 3 1 (fun pre : List Int => pre.length) (fun pre : List Int => pre.map (Value.int .i64)) (fun (pre : List Int) v => True)) _) (ownFrom_below (Nat.le_refl _) (by simp)))
    (fun _ _ _ _ _ hs _ _ => hs)
    ⟨⟨_, bO, World.ownsRow_nil _ _ _ _, trivial⟩, hB0⟩
    (fun x => { tmps := #[.slice none 0 0, .func (.func g) #[] lb, .pointer (some ⟨w.heap.size, 0, none⟩), undef, .slice none 0 0, .int .i64 x, .func (.func g) #[] lb, .int .i64 x, undef, undef, undef, undef, undef], defers := [] }) ?assign ?body ?done ?stop
  case assign =>
    intro l x W K hK
    gi_wp2
    exact hK
  case body =>
    rintro l pre x W ⟨⟨v, hv, hrow, _⟩, hB⟩ hlt
    have hc := hv.cell
    gi_wp2_with (gi_at_builtin; refine wpListIn_append_own _ rfl _ _ 22 rfl w.heap.size 3 i0 (.int .i64 0) 1 8 Try.underlying22 hi hz0 hz1 hz2 rfl (by decide) _ _ _ rfl (hrow.alloc _) ⟨W.heap.size, 0, none⟩ 1 1 [.int .i64 x] rfl rfl (cell_one_new _ _ _) (by simp [Value.oneCell']) (by unfold maxLen; omega) (by omega) (by have := hB.size; simp; omega) ?_; intro v' w1 hown' hgrow _; obtain ⟨g', cap', rfl⟩ := ownsRow_succ hown'; obtain ⟨hv1, hv2, hr2, hk2, hb2⟩ := hv.appended (by decide) hrow hB.size (Nat.le_refl _) hown' hgrow; have hc1 := hv1.cell; have hf1 := hv1.frozen)
    exact ⟨hk2.from _, hb2, ⟨_, hv2, by simpa using hr2, trivial⟩, hB.trans hb2⟩
  case done =>
    rintro D zs W hD rfl ⟨⟨v, hv, hrow, _⟩, hB⟩ hK
    have hc := hv.cell
    gi_wp2
    refine ⟨by simp, .inl ⟨_, _, rfl, run_takeDeferred hK, ?_⟩⟩
    exact ⟨_, results_tmp rfl _ _ _, v, rfl, ownsRow_putObj hrow _ hK rfl, hB.trans (belowK_b (w := w) (Nat.le_refl _) W D _ _ (by simp at hD; omega) hK rfl rfl)⟩
  case stop =>
    rintro D c pre W _ _ h _
    exact h.elim
set_option maxRecDepth 100000 in
set_option maxHeartbeats 4000000 in
theorem collect_in (F : Fence) (n : Nat) (hf0 : F.fn 51) (hf : F.fn 78) (hro : F.round = none) (hn : 4 ≤ n) (g : Nat) (lb : Array Value) (hFg : F.fn g) (eg : ∀ args w, (callFunc g args).run Try.prog w = .ok (.enter g args) w)
    (ys : List Int) (Sp : List Int → Prop) (N : Nat) (hN : N ≤ 1000) (w : World) (hseq : ∀ w', Below w.heap.size w w' → SeqStopsK F (n - 1 - 1) Try.prog g lb (fun x : Int => #[Value.int .i64 x]) (Below w.heap.size) (fun zs => zs = ys) Sp N w') :
    CallsIn F n Try.prog 51 #[.func (.func g) #[] lb] w fun e w' => ∃ v, e = .returned v ∧ w'.ownsRow w.heap.size 3 1 v ys.length (ys.map (Value.int .i64)) ∧ Below w.heap.size w w' := by
  have h1 : 1 ≤ n := by omega
  refine callsIn_of_wp Try.func51 rfl hf0 ?_ hro
  simp only [Try.ntmps51, List.size_toArray, List.length_cons, List.length_nil, Nat.reduceAdd, Nat.reduceSub, Array.replicate_succ, Array.replicate_zero, List.push_toArray, List.append_toArray, List.nil_append, List.cons_append]
  gi_wp2_with (gi_at_call 78; refine (appendSeq_in F (n - 1) hf hro (by omega) g lb hFg eg ys Sp N hN _ hseq).mono ?_; rintro e w' ⟨v, rfl, hrow, hb⟩)
  go_ret
  exact ⟨v, rfl, hrow, hb⟩
end Go.Proofs.Ythndjpklfgcpmaa
