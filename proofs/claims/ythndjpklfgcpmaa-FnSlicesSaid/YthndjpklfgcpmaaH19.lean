/- Chapter 19: CutsNeeded. -/
import Derived.Test.YthndjpklfgcpmaaE19
import Derived.Test.YthndjpklfgcpmaaC19
import Derived.Test.YthndjpklfgcpmaaQuiet
namespace Go.Proofs.Ythndjpklfgcpmaa
open Go.ChangeShapes Go.WideShapes Go.ChangeAt Go.RowKit Go.Shelf
set_option linter.unusedVariables false
set_option linter.unusedSimpArgs false
set_option maxHeartbeats 2000000

attribute [local go_sem] Oper.semAt_some
abbrev mark9 (D : Nat) : Deferred := { target := .collected D, args := #[] }
/-- a function leaves with marks of blocks that hold no call -/
theorem leaves_marks {F : Fence} {n : Nat} {P : Program} {fn : Func} {tmps : Array Value} {R : Ending → World → Prop} {n₀ : Nat} : ∀ (Ds : List Nat) (W : World), Ds.Nodup → (∀ D ∈ Ds, n₀ ≤ D ∧ W.heap[D]? = some (.deferred (some []))) → n₀ ≤ W.heap.size →
    (∀ W', Below n₀ W W' → LeavesIn F n P fn tmps R [] .returning W') → LeavesInM F n P fn tmps R (Ds.map mark9) .returning W
  | [], W, _, _, _, h => h W (Below.refl _ _)
  | D :: Ds, W, hnd, hD, hs, h => by
    obtain ⟨h1, h2⟩ := hD D (by simp)
    obtain ⟨d1, d2⟩ := List.nodup_cons.1 hnd
    refine ⟨by simp, .inl ⟨D, _, rfl, run_takeDeferred h2, ?_⟩⟩
    have hb : Below n₀ W (W.putObj D (.deferred none)) := (Below.refl n₀ W).grown (grownBy_putObj' _ D (.deferred none)) hs (fun j e => by cases e; exact h1)
    refine leaves_marks Ds _ d2 (fun E hE => ?_) (Nat.le_trans hs hb.size) (fun W' hW => h W' (hb.trans hW))
    obtain ⟨e1, e2⟩ := hD E (by simp [hE])
    exact ⟨e1, (World.putObj_heap_other (fun e => d1 (by rw [← e]; exact hE) : E ≠ D)).trans e2⟩
/-- two cells are kept -/
def Kc (B3 B2 : Nat) (W W' : World) : Prop := W'.cell? ⟨B3, 0, none⟩ = W.cell? ⟨B3, 0, none⟩ ∧ W'.cell? ⟨B2, 0, none⟩ = W.cell? ⟨B2, 0, none⟩
theorem Kc.trans {B3 B2 : Nat} {A B C : World} (h : Kc B3 B2 A B) (k : Kc B3 B2 B C) : Kc B3 B2 A C := ⟨k.1.trans h.1, k.2.trans h.2⟩
theorem kc_put {B3 B2 l : Nat} {W : World} {o' : Obj} (h3 : B3 < l) (h2 : B2 < l) : Kc B3 B2 W (W.putObj l o') :=
  ⟨World.cell?_of_block (World.putObj_heap_other (by simp; omega)), World.cell?_of_block (World.putObj_heap_other (by simp; omega))⟩
theorem kc_set {B3 B2 b : Nat} {W : World} {v : Value} (h3 : b < B3) (h2 : b < B2) : Kc B3 B2 W (W.setCell ⟨b, 0, none⟩ v) :=
  ⟨World.cell?_of_block (Below.heap_setCell W _ v _ (by simp; omega)), World.cell?_of_block (Below.heap_setCell W _ v _ (by simp; omega))⟩
/-- how many cuts are made so far -/
def cutN (len t : Int) : Nat := ((len - 1) / t).toNat
set_option maxRecDepth 100000 in
set_option maxHeartbeats 4000000 in
theorem whole1_in (F : Fence) (n : Nat) (hf : F.fn 80) (hro : F.round = none) (hn : 1 ≤ n) (l B3 B2 : Nat) (len t : Int) (hlen : 1 ≤ len ∧ len ≤ 1000) (ht : 1 ≤ t ∧ t ≤ 100) (J Jx : List Int → World → Prop)
    (hY : ∀ pre x W, J pre W → pre.length < 1000 → YieldAt F (n - 1) Try.prog l #[.int .i64 x] W fun e W' =>
      (e = .returned (.bool true) ∧ J (pre ++ [x]) W' ∧ Kc B3 B2 W W') ∨ (e = .returned (.bool false) ∧ Jx (pre ++ [x]) W'))
    (W : World) (c3 : W.cell? ⟨B3, 0, none⟩ = some (.int .i64 t)) (c2 : W.cell? ⟨B2, 0, none⟩ = some (.int .i64 len)) (h0 : J [] W) :
    CallsIn F n Try.prog 80 #[.func (.yield l) #[] #[], .pointer (some ⟨B3, 0, none⟩), .pointer (some ⟨B2, 0, none⟩)] W fun e W' => (∃ v, e = .returned v) ∧
      ((∃ ys, ys.length = cutN len t ∧ J ys W') ∨ (∃ pre, True ∧ Jx pre W')) := by
  have hq1 := Int.ediv_nonneg (a := len - 1) (b := t) (by omega) (by omega)
  have hq2 := Int.ediv_le_self t (a := len - 1) (by omega)
  refine callsIn_of_wp Try.func80 rfl hf ?_ hro
  simp only [Try.ntmps80, List.size_toArray, List.length_cons, List.length_nil, Nat.reduceAdd, Nat.reduceSub, Array.replicate_succ, Array.replicate_zero, List.push_toArray, List.append_toArray, List.nil_append, List.cons_append]
  gi_wp2
  gi_loopw [4] (fun p wr => ∃ (ys : List Int) (q : Int), p = .int .i64 q ∧ q = ((ys.length + 1 : Nat) : Int) * t ∧ ys.length ≤ cutN len t ∧ q ≤ 2000 ∧ wr.cell? ⟨B3, 0, none⟩ = some (.int .i64 t) ∧ wr.cell? ⟨B2, 0, none⟩ = some (.int .i64 len) ∧ J ys wr) (fun p _ => 2000 - (intOf p).toNat)
  case atStart => exact ⟨[], t, rfl, by simp, Nat.zero_le _, by omega, c3, c2, h0⟩
  case round =>
    obtain ⟨ys, q, rfl, hq, hy9, hq20, d3, d2, hJ⟩ := hrel
    have hq0 : t ≤ q := by
      rw [hq]
      have := Int.mul_le_mul_of_nonneg_right (a := 1) (b := ((ys.length + 1 : Nat) : Int)) (c := t) (by omega) (by omega)
      omega
    have HQ := Lib.hid hq
    clear hq
    by_cases hlt : q < len
    · have hlen2 : ys.length < cutN len t := by
        have h1 : ((ys.length + 1 : Nat) : Int) ≤ (len - 1) / t := (Int.le_ediv_iff_mul_le (by omega)).2 (by rw [← HQ.out]; omega)
        unfold cutN; omega
      have hc9 : cutN len t ≤ 1000 := by unfold cutN; omega
      obtain ⟨fn, tmps, assign, body, hy, hR⟩ := hY ys q wr hJ (by omega)
      have V1 : wrap64 (q + t) = q + t := w64 ⟨by omega, by omega⟩
      gi_wp2
      refine hR.mono ?_
      rintro e W3 (⟨rfl, hJ3, hk3⟩ | ⟨rfl, hJx3⟩)
      · have e3 := hk3.1.trans d3
        have e2 := hk3.2.trans d2
        gi_wp2
        go_roundw
        case rel => exact ⟨ys ++ [q], q + t, rfl, by
          have := HQ.out
          rw [List.length_append, List.length_singleton, this]
          rw [show ((ys.length + 1 + 1 : Nat) : Int) = ((ys.length + 1 : Nat) : Int) + 1 by omega, Int.add_mul]
          omega, by simp; omega, by omega, e3, e2, hJ3⟩
        case measure => simp [intOf]; omega
      · gi_wp2
        refine bodyPost_ret (results_none rfl _ _ _) rfl ?_
        exact ⟨⟨_, rfl⟩, .inr ⟨_, trivial, hJx3⟩⟩
    · have hge : len ≤ q := by omega
      have hfin : ys.length = cutN len t := by
        have h1 : (len - 1) / t < ((ys.length + 1 : Nat) : Int) := Int.ediv_lt_of_lt_mul (by omega) (by rw [← HQ.out]; omega)
        unfold cutN at hy9 ⊢; omega
      gi_wp2
      go_end0
      exact ⟨⟨_, rfl⟩, .inl ⟨_, hfin, hJ⟩⟩
theorem whole_in (F : Fence) (n : Nat) (hf : F.fn 56) (hro : F.round = none) (len N : Int) (w : World) :
    CallsIn F n Try.prog 56 #[.int .i64 len, .int .i64 N] w fun e w' => e = .returned (.func (.func 80) #[] #[.pointer (some ⟨w.heap.size + 1, 0, none⟩), .pointer (some ⟨w.heap.size, 0, none⟩)]) ∧ w' = (w.alloc (.cells #[.int .i64 len] 3)).alloc (.cells #[.int .i64 N] 3) := by
  refine callsIn_of_wp Try.func56 rfl hf ?_ hro
  simp only [Try.ntmps56, List.size_toArray, List.length_cons, List.length_nil, Nat.reduceAdd, Nat.reduceSub, Array.replicate_succ, Array.replicate_zero, List.push_toArray, List.append_toArray, List.nil_append, List.cons_append]
  gi_wp2
  go_ret
  exact ⟨by simp, rfl⟩
theorem whole_stops (F : Fence) (n : Nat) (hf : F.fn 80) (hro : F.round = none) (hn : 1 ≤ n) (B3 B2 : Nat) (len t : Int) (hlen : 1 ≤ len ∧ len ≤ 1000) (ht : 1 ≤ t ∧ t ≤ 100) (w : World) (h3 : B3 < w.heap.size) (h2 : B2 < w.heap.size)
    (c3 : w.cell? ⟨B3, 0, none⟩ = some (.int .i64 t)) (c2 : w.cell? ⟨B2, 0, none⟩ = some (.int .i64 len)) :
    SeqStopsK F n Try.prog 80 #[.pointer (some ⟨B3, 0, none⟩), .pointer (some ⟨B2, 0, none⟩)] (fun x : Int => #[Value.int .i64 x]) (Kc B3 B2) (fun ys => ys.length = cutN len t) (fun _ => True) 1000 w := fun l J Jx W hW _ _ hY h0 =>
  whole1_in F n hf hro hn l B3 B2 len t hlen ht J Jx hY W (cell_below hW h3 c3) (cell_below hW h2 c2) h0
/-- the cuts of the first k loaves -/
def cutT (xs : List Int) (t : Int) : Nat → Int
  | 0 => 0
  | k + 1 => cutT xs t k + (cutN (xs.getD k 0) t : Nat)
def cutV (n : Nat) (xs : List Int) (t : Int) : Int := if decide (n ≤ 40) && allOk (fun i => sliceB (xs.getD i 0) t) n then cutT xs t n else -1
theorem cutV_n {n : Nat} {xs : List Int} {t : Int} (h : ¬ n ≤ 40) : cutV n xs t = -1 := by unfold cutV; rw [decide_eq_false h]; rfl
theorem cutV_f {n : Nat} {xs : List Int} {t : Int} (k : Nat) (hk : k < n) (h : sliceB (xs.getD k 0) t = false) : cutV n xs t = -1 := by unfold cutV; rw [allOk_f _ _ k hk h, Bool.and_false]; rfl
theorem cutV_t {n : Nat} {xs : List Int} {t : Int} (hn : n ≤ 40) (h : ∀ i, i < n → sliceB (xs.getD i 0) t = true) : cutV n xs t = cutT xs t n := by unfold cutV; rw [allOk_t _ _ h, decide_eq_true hn]; rfl
theorem cutN_le {len t : Int} (h : sliceB len t = true) : cutN len t ≤ 1000 := by
  have := slices_in h
  have := Int.ediv_le_self t (a := len - 1) (by omega)
  unfold cutN; omega
theorem cutT_in {xs : List Int} {t : Int} : ∀ k : Nat, (∀ i, i < k → sliceB (xs.getD i 0) t = true) → 0 ≤ cutT xs t k ∧ cutT xs t k ≤ 1000 * k
  | 0, _ => by simp [cutT]
  | k + 1, h => by
    have ih := cutT_in k fun i hi => h i (by omega)
    have := cutN_le (h k (by omega))
    rw [cutT]; push_cast; omega
set_option maxRecDepth 100000 in
set_option maxHeartbeats 8000000 in
theorem iCutsNeeded (A : Option Addr) (n c : Nat) (xs : List Int) (t : Int) (w : World) (hn : n ≤ maxLen) (hx : ReadsI w A n xs) : Calls Try.prog 18 #[.slice A n c, .int .i64 t] w (Val (.int .i64 (cutV n xs t)) w) := by
  unfold maxLen at hn
  refine (callsIn_wide (n := 10)).1 ?_
  by_cases h40 : n ≤ 40
  rotate_left
  · have HV := Lib.hid (cutV_n (xs := xs) (t := t) h40)
    have h40' : (40 : Int) < (n : Int) := by omega
    refine callsIn_of_wp_marks Try.func18 rfl trivial ?_ rfl
    simp only [Try.ntmps18, List.size_toArray, List.length_cons, List.length_nil, Nat.reduceAdd, Nat.reduceSub, Array.replicate_succ, Array.replicate_zero, List.push_toArray, List.append_toArray, List.nil_append, List.cons_append]
    gi_wp2
    exact leaves_marks (n₀ := w.heap.size) [] _ List.nodup_nil (fun D hD => absurd hD (by simp)) (Nat.le_refl _) (fun W' hW' => ⟨_, results_tmp (t := 4) rfl _ _ _, Val.mk' (show Value.int .i64 (-1) = _ by rw [HV.out]) (show In w.heap.size w W' from ⟨hW', hW'.size⟩)⟩)
  have h40' : (n : Int) ≤ 40 := by omega
  have hd40 : decide ((40 : Int) < (n : Int)) = false := decide_eq_false (by omega)
  have hB0 : Below w.heap.size w (w.alloc (.cells #[.int .i64 0] 3)) := (Below.refl _ w).alloc (Nat.le_refl _) _
  refine callsIn_of_wp_marks Try.func18 rfl trivial ?_ rfl
  simp only [Try.ntmps18, List.size_toArray, List.length_cons, List.length_nil, Nat.reduceAdd, Nat.reduceSub, Array.replicate_succ, Array.replicate_zero, List.push_toArray, List.append_toArray, List.nil_append, List.cons_append]
  gi_wp2
  have bX := Boxed.new w 3 (.int .i64 0)
  refine wpIn_loop (fun a W => ∃ (k : Nat) (kk : Int) (Ds : List Nat) (u7 u14 u15 u16 u17 u18 u19 u20 u21 u22 u23 u24 u25 u26 u27 : Value), kk = (k : Int) ∧ k ≤ n ∧ (∀ i, i < k → sliceB (xs.getD i 0) t = true) ∧ Boxed W w.heap.size 3 (.int .i64 (cutT xs t k)) ∧ Ds.Nodup ∧ (∀ D ∈ Ds, w.heap.size ≤ D ∧ W.heap[D]? = some (.deferred (some []))) ∧ Below w.heap.size w W ∧ a = { tmps := #[.slice A n c, .int .i64 t, undef, undef, .int .i64 0, .pointer (some ⟨w.heap.size, 0, none⟩), undef, u7, .slice A n c, .int .i64 (n : Int), .bool false, .slice A n c, .int .i64 (n : Int), .int .i64 kk, u14, u15, u16, u17, u18, u19, u20, u21, u22, u23, u24, u25, u26, u27, undef], defers := Ds.map mark9 }) (fun a _ => n - (intOf (a.tmps.getD 13 undef)).toNat) ?_ ?_
  · exact ⟨0, 0, [], _, _, _, _, _, _, _, _, _, _, _, _, _, _, _, rfl, Nat.zero_le _, fun i hi => absurd hi (Nat.not_lt_zero _), bX, List.nodup_nil, fun D hD => absurd hD (by simp), hB0, rfl⟩
  · intro a W hinv
    obtain ⟨k, kk, Ds, u7, u14, u15, u16, u17, u18, u19, u20, u21, u22, u23, u24, u25, u26, u27, rfl, hk, hok, hbx, hnd, hDs, hB, rfl⟩ := hinv
    clear hB0 bX
    by_cases hlt : k < n
    · obtain ⟨ad, rfl, hc0⟩ := (hx.below hB (Nat.le_refl _)).2 k hlt
      have hcc := hbx.cell
      have k1_ : (k : Int) < (n : Int) := by omega
      have HT : Hid (cutT xs t (k + 1) = cutT xs t k + (cutN (xs.getD k 0) t : Nat)) := Lib.hid rfl
      have HF := Lib.hid (fun h => cutV_f (n := n) (xs := xs) (t := t) k hlt h)
      have hct := cutT_in k hok
      have HOK := Lib.hid hok
      have HTX : Hid (sliceB (xs.getD k 0) t = true → ∀ i, i < k + 1 → sliceB (xs.getD i 0) t = true) := Lib.hid fun h i hi => by
        by_cases e : i = k
        · subst e; exact h
        · exact HOK.out i (by omega)
      clear hok HOK
      generalize xs.getD k 0 = x at *
      generalize cutT xs t k = cv at *
      cases hsl : sliceB x t
      · skip
        have HV := Lib.hid (HF.out hsl)
        gi_wp2_with (refine ⟨trivial, ?_⟩; gi_at_call 55; refine (callsIn_wide.2 (icanSlice x t _)).mono ?_; rintro e w9 ⟨rfl, rfl⟩; rw [hsl])
        refine leaves_marks (n₀ := w.heap.size) Ds _ hnd (fun D hD => hDs D hD) hB.size (fun W' hW' => ?_)
        exact ⟨_, results_tmp (t := 4) rfl _ _ _, Val.mk' (show Value.int .i64 (-1) = _ by rw [HV.out]) ((show In w.heap.size w W' from ⟨hB.trans hW', Nat.le_trans hB.size hW'.size⟩))⟩
      · skip
        obtain ⟨x1, x2, t1, t2, _⟩ := slices_in hsl
        gi_wp2_with (first | (refine ⟨trivial, ?_⟩; gi_at_call 55; refine (callsIn_wide.2 (icanSlice x t _)).mono ?_; rintro e w9 ⟨rfl, rfl⟩; rw [hsl]) | (refine ⟨trivial, ?_⟩; gi_at_call 56; refine (whole_in Fence.wide _ trivial rfl x t _).mono ?_; rintro e w9 ⟨rfl, rfl⟩))
        obtain ⟨W2, hW2⟩ : ∃ W2, W2 = (W.alloc (.cells #[.int .i64 x] 3)).alloc (.cells #[.int .i64 t] 3) := ⟨_, rfl⟩
        rw [← hW2]
        have hs2 : W2.heap.size = W.heap.size + 2 := by rw [hW2]; simp
        have c3 : W2.cell? ⟨W.heap.size + 1, 0, none⟩ = some (.int .i64 t) := by rw [hW2]; simp
        have hbb : Below W.heap.size W W2 := by rw [hW2]; exact ((Below.refl _ W).alloc (Nat.le_refl _) _).alloc (by simp) _
        have c2 : W2.cell? ⟨W.heap.size, 0, none⟩ = some (.int .i64 x) := by
          rw [hW2]
          exact cell_in ((Blk.new W 3 #[.int .i64 x]).cell 0) ((In.refl _).alloc _)
        have hwl : w.heap.size < W.heap.size := hbx.lt
        have hb2 : Boxed W2 w.heap.size 3 (.int .i64 cv) := (hbb.block _ hwl).trans hbx
        have hDl : ∀ D ∈ Ds, D < W.heap.size := fun D hD => (Array.getElem?_eq_some_iff.1 (hDs D hD).2).1
        have hD2 : ∀ D ∈ Ds, W2.heap[D]? = some (.deferred (some [])) := fun D hD => (hbb.block D (hDl D hD)).trans (hDs D hD).2
        have hB2 : Below w.heap.size w W2 := hB.trans (hbb.mono hB.size)
        have hcN := cutN_le hsl
        have hk40 : (k : Int) ≤ 40 := by omega
        clear hW2 hbb hbx hcc HF
        refine wpIn_rangeFunc_ownG rfl (by omega) (gf := 80) (lb := #[.pointer (some ⟨W.heap.size + 1, 0, none⟩), .pointer (some ⟨W.heap.size, 0, none⟩)]) rfl trivial (enters_of Try.func80 (by kernel_rfl) rfl)
          (whole_stops Fence.wide (10 - 1) trivial rfl (by omega) (W.heap.size + 1) W.heap.size x t ⟨x1, x2⟩ ⟨t1, t2⟩ W2 (by omega) (by omega) c3 c2) Kc.trans (fun V l o o' hl ho hc hw => kc_put (by omega) (by omega)) (Below.refl _ _) (fun _ => rfl)
          (fun (pre : List Int) V => Boxed V w.heap.size 3 (.int .i64 (cv + (pre.length : Nat))) ∧ (∀ D ∈ Ds, V.heap[D]? = some (.deferred (some []))) ∧ Below w.heap.size w V)
          (fun _ _ _ => False)
          (fun s V V' row hs hg hr => ⟨hs.1.kept hg (fun e => by have := (hr _ e.symm).1; omega), fun D hD => (hg.block D (Array.getElem?_eq_some_iff.1 (hs.2.1 D hD)).1 (fun e => by have := (hr _ e.symm).1; have := hDl D hD; omega)).trans (hs.2.1 D hD), hs.2.2.grown hg hs.2.2.size (fun j e => by have := (hr j e).1; omega)⟩)
          (fun _ _ _ _ _ hs _ _ => hs)
          ⟨by simpa using hb2, hD2, hB2⟩
          (fun z => { tmps := #[.slice (some ad) n c, .int .i64 t, undef, undef, .int .i64 0, .pointer (some ⟨w.heap.size, 0, none⟩), undef, .int .i64 x, .slice (some ad) n c, .int .i64 (n : Int), .bool false, .slice (some ad) n c, .int .i64 (n : Int), .int .i64 (k : Int), .bool true, .pointer (some (ad.add k)), .int .i64 x, .int .i64 x, .int .i64 t, .bool true, .bool false, .int .i64 x, .int .i64 t, .func (.func 80) #[] #[.pointer (some ⟨W.heap.size + 1, 0, none⟩), .pointer (some ⟨W.heap.size, 0, none⟩)], .int .i64 z, u25, u26, u27, undef], defers := [] }) ?assign ?body ?done ?stop
        case assign =>
          intro l z V K hK
          gi_wp2
          first | exact hK | (have := hK; simpa using this) | (show K _ V; simp [Array.zip, Array.zipWith]; exact hK) | (trace_state; exact hK)
        case body =>
          rintro l pre z V ⟨hbv, hdv, hBv⟩ hlt9
          have hc := hbv.cell
          have hf := hbv.frozen
          obtain ⟨d, hd⟩ : ∃ d : Int, cv + (pre.length : Nat) = d := ⟨_, rfl⟩
          have V1 : wrap64 (d + 1) = d + 1 := w64 ⟨by omega, by omega⟩
          have hl9 : cv + ((pre ++ [z]).length : Nat) = d + 1 := by rw [List.length_append]; simp; omega
          rw [hd] at hc
          have HBV := Lib.hid hbv
          gi_wp2
          exact ⟨(KeepsOthers.setCell _ _ _).from _, kc_set (by omega) (by omega), ⟨by rw [hl9]; exact HBV.out.set _, fun D hD => (KeepsOthers.setCell _ _ _).same D _ (hdv D hD) rfl, hBv.setCell (p := ⟨w.heap.size, 0, none⟩) (Nat.le_refl _) _⟩⟩
        case done =>
          rintro D ys V hD hlen ⟨hbv, hdv, hBv⟩ hK
          have e9 : cutT xs t (k + 1) = cv + (ys.length : Nat) := by rw [HT.out, hlen]
          have hnew : D ∉ Ds := fun h => by have := hDl D h; omega
          have HBV := Lib.hid hbv
          clear hbv
          gi_wp2
          refine ⟨⟨k + 1, (k : Int) + 1, D :: Ds, _, _, _, _, _, _, _, _, _, _, _, _, _, _, _, by omega, by omega, HTX.out hsl, by rw [e9]; exact HBV.out, List.nodup_cons.2 ⟨hnew, hnd⟩, fun E hE => ?_, hBv, rfl⟩, ?_⟩
          · rcases List.mem_cons.1 hE with rfl | hE
            · exact ⟨by omega, hK⟩
            · exact ⟨(hDs E hE).1, hdv E hE⟩
          · simp [intOf]; omega
        case stop =>
          rintro D c pre V _ _ h _
          exact h.elim
    · obtain rfl : k = n := by omega
      have HV := Lib.hid (cutV_t h40 hok)
      have hcc := hbx.cell
      have hge : ¬ ((k : Int) < (k : Int)) := by omega
      gi_wp2
      refine leaves_marks (n₀ := w.heap.size) Ds _ hnd (fun D hD => hDs D hD) hB.size (fun W' hW' => ?_)
      exact ⟨_, results_tmp (t := 4) rfl _ _ _, Val.mk' (show Value.int .i64 (cutT xs t k) = _ by rw [HV.out]) ((show In w.heap.size w W' from ⟨hB.trans hW', Nat.le_trans hB.size hW'.size⟩))⟩
end Go.Proofs.Ythndjpklfgcpmaa
