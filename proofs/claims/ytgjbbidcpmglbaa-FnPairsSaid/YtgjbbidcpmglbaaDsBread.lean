/- Drawers of rows of Bread. -/
import Derived.Test.YtgjbbidcpmglbaaDl0
import Derived.Test.YtgjbbidcpmglbaaSBread
import Derived.Test.YtgjbbidcpmglbaaC10
import Derived.Test.YtgjbbidcpmglbaaDrw
namespace Go.Proofs.Ytgjbbidcpmglbaa
open Go.ChangeShapes Go.WideShapes Go.ChangeAt Go.RowKit
set_option linter.unusedVariables false
set_option linter.unusedSimpArgs false
set_option maxHeartbeats 2000000

theorem own_shape_2 {w : World} {base n : Nat} {e : TypeId} {v : Value} {size : Nat} {xs : List Value} (h : w.ownsRow base e size v n xs) : ∃ A c, v = .slice A n c := own_shape_i h
theorem own_cap' {w : World} {base n c size : Nat} {e : TypeId} {A : Option Addr} {xs : List Value} (h : w.ownsRow base e size (.slice A n c) n xs) : n ≤ c := by
  rcases h.2 with ⟨h1, h2⟩ | ⟨g, cap, cur, hv, hg, hh, hnc, _⟩
  · omega
  · injection hv with _ _ h3; omega
def flBread (xs : List BreadR) : List Value := xs.flatMap fun e => [.int .i64 e.f0, .int .i64 e.f1, .int .i64 e.f2]
theorem flBread_app (xs ys : List BreadR) : flBread (xs ++ ys) = flBread xs ++ flBread ys := by simp [flBread]
theorem flBread_len (xs : List BreadR) : (flBread xs).length = xs.length * 3 := by
  induction xs with
  | nil => rfl
  | cons x xs ih => simp only [flBread, List.flatMap_cons, List.length_append, List.length_cons, List.length_nil] at ih ⊢; omega
theorem flBread_at (xs : List BreadR) : ∀ k, k < xs.length → (flBread xs)[k * 3]? = some (.int .i64 (xs.getD k ⟨0, 0, 0⟩).f0) ∧ (flBread xs)[k * 3 + 1]? = some (.int .i64 (xs.getD k ⟨0, 0, 0⟩).f1) ∧ (flBread xs)[k * 3 + 2]? = some (.int .i64 (xs.getD k ⟨0, 0, 0⟩).f2) := by
  induction xs with
  | nil => intro k hk; simp at hk
  | cons x xs ih =>
    intro k hk
    cases k with
    | zero => simp [flBread]
    | succ k =>
      have h := ih k (by simpa using hk)
      have e0 : (k + 1) * 3 = k * 3 + 3 := by omega
      have e1 : (k + 1) * 3 + 1 = k * 3 + 1 + 3 := by omega
      have e2 : (k + 1) * 3 + 2 = k * 3 + 2 + 3 := by omega
      simp only [flBread, List.flatMap_cons, e0, e1, e2, List.getD_cons_succ] at h ⊢
      refine ⟨?_, ?_, ?_⟩ <;> (rw [List.getElem?_append_right (by simp)]; simp only [List.length_cons, List.length_nil, Nat.zero_add, Nat.add_sub_cancel])
      · exact h.1
      · exact h.2.1
      · exact h.2.2
theorem reads_own_Bread {w : World} {base n c : Nat} {A : Option Addr} {xs : List BreadR} (hl : xs.length = n) (h : w.ownsRow base 51 3 (.slice A n c) n (flBread xs)) : ReadsBread w A n xs := by
  refine ⟨hl, fun k hk => ?_⟩
  obtain ⟨g, cap, hv, _, _⟩ := h.form (by omega)
  injection hv with h1 h2 h3
  subst h1 h3
  have hf := flBread_at xs k (by omega)
  have c0 := h.cellAt (k * 3) (by omega)
  rw [hf.1] at c0
  have c1 := h.cellAt (k * 3 + 1) (by omega)
  rw [hf.2.1] at c1
  have c2 := h.cellAt (k * 3 + 2) (by omega)
  rw [hf.2.2] at c2
  refine ⟨_, rfl, ?_, ?_, ?_⟩
  · rw [Addr.add_lit, Nat.zero_add]; exact c0
  · simp only [Addr.add_lit, Nat.zero_add]; exact c1
  · simp only [Addr.add_lit, Nat.zero_add]; exact c2
theorem infoDsBread : (Try.prog.info? 51).map (fun i => (i.zero, i.size, i.bytes)) = some (some (.agg #[.int .i64 0, .int .i64 0, .int .i64 0]), 3, 24) := by kernel_rfl
theorem own_new3 (w : World) (t : TypeId) (B : Nat) (hB : B ≤ w.heap.size) : (w.alloc (.cells #[] t)).ownsRow B t 3 (.slice (some ⟨w.heap.size, 0, none⟩) 0 0) 0 [] :=
  ⟨by simp, .inr ⟨w.heap.size, 0, #[], rfl, hB, heap_alloc_new w _, Nat.le_refl _, Nat.zero_le _, by simp, by simp⟩⟩
/-- a row of Bread, drawn -/
def GotBreadS (B g : Nat) (W0 w : World) (lo hi : Nat) (P : BreadR → Prop) (e : Ending) (w' : World) : Prop :=
  ∃ (A : Option Addr) (c n : Nat) (xs : List BreadR), e = .returned (.slice A n c) ∧ lo ≤ n ∧ n ≤ hi ∧ xs.length = n ∧ (∀ i, i < n → P (xs.getD i ⟨0, 0, 0⟩)) ∧ w'.ownsRow w.heap.size 51 3 (.slice A n c) n (flBread xs) ∧ St B g W0 w'
theorem getD_app_Bread (L : List BreadR) (m : Nat) (v : BreadR) (hl : L.length = m) (P : BreadR → Prop) (h : ∀ i, i < m → P (L.getD i ⟨0, 0, 0⟩)) (hv : P v) : ∀ i, i < m + 1 → P ((L ++ [v]).getD i ⟨0, 0, 0⟩) := fun i hi => by
  by_cases e : i < m
  · rw [show (L ++ [v]).getD i ⟨0, 0, 0⟩ = L.getD i ⟨0, 0, 0⟩ by simp [List.getD_eq_getElem?_getD, List.getElem?_append_left (by omega : i < L.length)]]
    exact h i e
  · obtain rfl : i = m := by omega
    rw [show (L ++ [v]).getD i ⟨0, 0, 0⟩ = v by simp [List.getD_eq_getElem?_getD, List.getElem?_append_right (by omega : L.length ≤ i), hl]]
    exact hv
theorem wpList_appG {P : Program} {ops : Array Oper} {rest : List Oper} {o : Oper} {a : Act} {Q : Exit → Act → World → Prop} (w0 : World) (gx : Nat) (hgx : w0.heap.size = gx) (hgd : o.guard = none) (s x : Operand) (t : TypeId)
    (ho : o.op = .call { callee := .builtin .append, args := #[s, x], argTypes := #[t, t] })
    (base : Nat) (e : TypeId) (i : TypeInfo) (z : Value) (size bytes : Nat) (ht : P.underlying t = some (.slice e)) (hi : P.info? e = some i) (hz : i.zero = some z)
    (hsize : i.size = size) (hby : i.bytes = bytes) (hzs : z.cells.size = size) (hsz : 0 < size)
    (v : Value) (n : Nat) (xs : List Value) (hs : a.eval s = v) (hown : w0.ownsRow base e size v n xs)
    (m : Nat) (cs : Array Value) (hx : a.eval x = .slice (some ⟨gx, 0, none⟩) m m) (hl : cs.toList.length = m * size) (h1 : ∀ u ∈ cs.toList, u.oneCell' = true)
    (h63 : n + m ≤ maxLen) (hbytes : (n + m) * bytes ≤ 140737488355328) (hbase : base ≤ w0.heap.size)
    (h : ∀ v' w', w'.ownsRow base e size v' (n + m) (xs ++ cs.toList) → Below base w0 w' → wpList P ops Q rest (a.put o.dst v') w') :
    wpList P ops Q (o :: rest) a (w0.alloc (.cells cs e)) := by
  subst hgx
  exact wpList_app w0 hgd s x t ho base e i z size bytes ht hi hz hsize hby hzs hsz v n xs hs hown m cs hx hl h1 h63 hbytes hbase h
def GotBr (B g : Nat) (W0 : World) (e : Ending) (w' : World) : Prop := ∃ a b c : Int, ((160 ≤ a ∧ a ≤ 255) ∧ (a ≤ b ∧ b ≤ a + 40) ∧ 10 ≤ c ∧ c ≤ 59) ∧ e = .returned (.agg #[.int .i64 a, .int .i64 b, .int .i64 c]) ∧ St B g W0 w'
set_option maxHeartbeats 4000000 in
set_option maxRecDepth 10000 in
theorem mkBread_s (B g : Nat) (W0 w : World) (h : St B g W0 w) : Calls Try.prog 105 #[.pointer (some ⟨g, 0, none⟩)] w (GotBr B g W0) := by
  obtain ⟨r, hr⟩ : ∃ r, r = w.heap.size := ⟨_, rfl⟩
  have hgl := h.1.lt
  have hge := h.1.ge
  have hgr : g ≠ r := by omega
  have hrw : w.heap.size ≤ r := by omega
  have hBr : B ≤ r := by omega
  have kr : Blk (w.alloc (.cells #[.int .i64 0, .int .i64 0, .int .i64 0] 51)) r 51 #[.int .i64 0, .int .i64 0, .int .i64 0] := by rw [hr]; exact Blk.new w _ _
  have hs0 : St B g (w.alloc (.cells #[.int .i64 0, .int .i64 0, .int .i64 0] 51)) (w.alloc (.cells #[.int .i64 0, .int .i64 0, .int .i64 0] 51)) := ⟨h.1.alloc _, only_refl _ _⟩
  have hg0 : w.grownBy (w.alloc (.cells #[.int .i64 0, .int .i64 0, .int .i64 0] 51)) (some g) := only_alloc (only_refl w (some g)) _
  have hrz : r < (w.alloc (.cells #[.int .i64 0, .int .i64 0, .int .i64 0] 51)).heap.size := by rw [hr]; simp
  have HH := Lib.hid h.2
  go_enter Try.func105, Try.ntmps105
  go_wp2_with fail
  rw [← hr]
  clear hr
  generalize (w.alloc (.cells #[.int .i64 0, .int .i64 0, .int .i64 0] 51)) = wa at *
  refine (below_s 20 B g wa _ (by omega) (by omega) hs0).mono ?_
  rintro _ w1 ⟨x, ⟨hx0, hx1⟩, rfl, hs1⟩
  go_wp2_with fail
  refine (below_s 50 B g wa _ (by omega) (by omega) hs1).mono ?_
  rintro _ w2 ⟨y, ⟨hy0, hy1⟩, rfl, hs2⟩
  have km := kr.grown hs2.2 (fun e => by injection e with e; omega)
  obtain ⟨a, ha⟩ : ∃ a : Int, 160 + 5 * x = a := ⟨_, rfl⟩
  obtain ⟨c, hc⟩ : ∃ c : Int, 10 + y = c := ⟨_, rfl⟩
  obtain ⟨q, hq⟩ : ∃ q, q = w2.heap.size := ⟨_, rfl⟩
  have kq : Blk (w2.alloc (.cells #[.int .i64 a, .int .i64 0, .int .i64 c] 51)) q 51 #[.int .i64 a, .int .i64 0, .int .i64 c] := by rw [hq]; exact Blk.new w2 _ _
  have kn : Blk (w2.alloc (.cells #[.int .i64 a, .int .i64 0, .int .i64 c] 51)) r 51 #[.int .i64 0, .int .i64 0, .int .i64 0] := km.step ((Below.refl _ w2).alloc (Nat.le_refl _) _)
  have hs3 : St B g wa (w2.alloc (.cells #[.int .i64 a, .int .i64 0, .int .i64 c] 51)) := hs2.alloc _
  have hrq : r < q := by have := hs2.2.size; omega
  have hgq : g ≠ q := by have := hs2.1.lt; omega
  have hqa : wa.heap.size ≤ q := by have := hs2.2.size; omega
  have hBq : B ≤ q := by omega
  have V1 : wrap64 (5 * x) = 5 * x := w64 ⟨by omega, by omega⟩
  have V2 : wrap64 (160 + 5 * x) = a := by rw [w64 ⟨by omega, by omega⟩]; omega
  have V3 : wrap64 (10 + y) = c := by rw [w64 ⟨by omega, by omega⟩]; omega
  have ha1 : 160 ≤ a ∧ a ≤ 255 := by omega
  have hc1 : 10 ≤ c ∧ c ≤ 59 := by omega
  clear kr hs0 hs1 hs2 km
  go_wp2_with fail
  rw [← hq]
  clear hq V1 V2 V3 ha hc
  generalize (w2.alloc (.cells #[.int .i64 a, .int .i64 0, .int .i64 c] 51)) = w3 at *
  have cq0 : w3.cell? ⟨q, 0, none⟩ = some (.int .i64 a) := kq.cell 0
  go_region_with (go_at_call 103; (refine (below_s 9 B g w3.drew w3.drew (by omega) (by omega) ⟨hs3.1.drew, only_refl _ _⟩).mono ?_; rintro _ w4 ⟨z, ⟨hz0, hz1⟩, rfl, hs4⟩; have k4 := kq.drew.grown hs4.2 (fun e => by injection e with e; omega); have kn4 := kn.drew.grown hs4.2 (fun e => by injection e with e; omega); have e2 : w4.cell? ⟨q, 0, none⟩ = some (.int .i64 a) := k4.cell 0; have e1 : w4.cell? ⟨q, 1, none⟩ = some (.int .i64 0) := k4.cell 1; have y2z := k4.frozen 1; have s4 : St B g wa w4 := ⟨hs4.1, only_trans (only_drew hs3.2) hs4.2⟩; obtain ⟨b, hb⟩ : ∃ b : Int, a + 5 * z = b := ⟨_, rfl⟩; have hb1 : a ≤ b ∧ b ≤ a + 40 := (by omega); have hw8 : IntKind.i64.wrap (5 * z) = 5 * z := (IntWalk.i64_in _ (by omega)); have hw9 : IntKind.i64.wrap (a + 5 * z) = b := (by rw [← hb]; exact IntWalk.i64_in _ (by omega)); clear hb))
  all_goals (
    have k5 : Blk (w4.setCell ⟨q, 1, none⟩ (.int .i64 b)) q 51 #[.int .i64 a, .int .i64 b, .int .i64 c] := k4.set_ 1 (.int .i64 b)
    have kn5 : Blk (w4.setCell ⟨q, 1, none⟩ (.int .i64 b)) r 51 #[.int .i64 0, .int .i64 0, .int .i64 0] := kn4.far (p := ⟨q, 1, none⟩) (show r ≠ q by omega) (.int .i64 b)
    have s5 : St B g wa (w4.setCell ⟨q, 1, none⟩ (.int .i64 b)) := ⟨s4.1.far (p := ⟨q, 1, none⟩) hgq hBq (.int .i64 b), only_setCell s4.2 (p := ⟨q, 1, none⟩) (.inr hqa) (.int .i64 b)⟩
    generalize (w4.setCell ⟨q, 1, none⟩ (.int .i64 b)) = w5 at k5 kn5 s5 ⊢
    have cq0 : w5.cell? ⟨q, 0, none⟩ = some (.int .i64 a) := k5.cell 0
    have cq1 : w5.cell? ⟨q, 1, none⟩ = some (.int .i64 b) := k5.cell 1
    have cq2 : w5.cell? ⟨q, 2, none⟩ = some (.int .i64 c) := k5.cell 2
    have cr0 := kn5.cell 0
    have zr0 := kn5.frozen 0
    have cr1 := kn5.cell 1
    have zr1 := kn5.frozen 1
    have cr2 := kn5.cell 2
    have zr2 := kn5.frozen 2
    have HS : Hid (St B g W0 (((w5.setCell ⟨r, 0, none⟩ (.int .i64 a)).setCell ⟨r, 1, none⟩ (.int .i64 b)).setCell ⟨r, 2, none⟩ (.int .i64 c))) := Lib.hid ⟨((s5.1.far (p := ⟨r, 0, none⟩) hgr hBr (.int .i64 a)).far (p := ⟨r, 1, none⟩) hgr hBr (.int .i64 b)).far (p := ⟨r, 2, none⟩) hgr hBr (.int .i64 c), only_trans HH.out (only_setCell (only_setCell (only_setCell (only_trans hg0 s5.2) (p := ⟨r, 0, none⟩) (.inr hrw) (.int .i64 a)) (p := ⟨r, 1, none⟩) (.inr hrw) (.int .i64 b)) (p := ⟨r, 2, none⟩) (.inr hrw) (.int .i64 c))⟩
    have HK : Hid ((((w5.setCell ⟨r, 0, none⟩ (.int .i64 a)).setCell ⟨r, 1, none⟩ (.int .i64 b)).setCell ⟨r, 2, none⟩ (.int .i64 c)).cell? ⟨r, 0, none⟩ = some (.int .i64 a) ∧ (((w5.setCell ⟨r, 0, none⟩ (.int .i64 a)).setCell ⟨r, 1, none⟩ (.int .i64 b)).setCell ⟨r, 2, none⟩ (.int .i64 c)).cell? ⟨r, 1, none⟩ = some (.int .i64 b) ∧ (((w5.setCell ⟨r, 0, none⟩ (.int .i64 a)).setCell ⟨r, 1, none⟩ (.int .i64 b)).setCell ⟨r, 2, none⟩ (.int .i64 c)).cell? ⟨r, 2, none⟩ = some (.int .i64 c)) := Lib.hid (by
      have h := ((kn5.set_ 0 (.int .i64 a)).set_ 1 (.int .i64 b)).set_ 2 (.int .i64 c)
      have h0 := h.cell 0
      have h1 := h.cell 1
      have h2 := h.cell 2
      exact ⟨by simpa using h0, by simpa using h1, by simpa using h2⟩)
    simp at cr0 cr1 cr2
    clear k4 kn4 s4 k5 kn5 s5 kq kn hs3 hs4 e2 e1 y2z hw8 hw9 hg0
    go_wp2
    obtain ⟨hk0, hk1, hk2⟩ := HK.out
    exact bodyPost_ret (v := .agg #[.int .i64 a, .int .i64 b, .int .i64 c]) (by simp [results, Try.results105, go_sem, hk0, hk1, hk2]) rfl ⟨a, b, c, ⟨ha1, hb1, hc1⟩, rfl, HS.out⟩)
set_option maxHeartbeats 4000000 in
set_option maxRecDepth 20000 in
theorem l10List_s (B g : Nat) (W0 w : World) (h : St B g W0 w) : Calls Try.prog 70 #[.pointer (some ⟨g, 0, none⟩)] w (GotBreadS B g W0 w 0 6 (fun v => (160 ≤ v.f0 ∧ v.f0 ≤ 255) ∧ (v.f0 ≤ v.f1 ∧ v.f1 ≤ v.f0 + 40) ∧ 10 ≤ v.f2 ∧ v.f2 ≤ 59)) := by
  obtain ⟨i0, hi0, hiz, his, hib⟩ := info_parts infoDsBread
  have hgl := h.1.lt
  have h0w := h.2.size
  have hs0 : St B g W0 (w.alloc (.cells #[] 51)) := h.alloc _
  have own0 := own_new3 w 51 w.heap.size (Nat.le_refl _)
  obtain ⟨W1, hW1⟩ : ∃ W1, W1 = w.alloc (.cells #[] 51) := ⟨_, rfl⟩
  rw [← hW1] at hs0 own0
  have hsz : W1.heap.size = w.heap.size + 1 := by rw [hW1]; simp
  go_enter Try.func70, Try.ntmps70
  go_wp2_with fail
  rw [← hW1]
  refine (below_s 7 B g W1 W1 (by omega) (by omega) ⟨hs0.1, only_refl _ _⟩).mono ?_
  rintro _ w2 ⟨n0, ⟨hn0, hn1⟩, rfl, hs2⟩
  have own2 := own_only own0 hs2.2 hgl
  have st2 : St B g W0 w2 := ⟨hs2.1, only_trans hs0.2 hs2.2⟩
  have hz2' : w.heap.size ≤ w2.heap.size := by have := hs2.2.size; omega
  obtain ⟨n, hn⟩ : ∃ n : Nat, n0 = n := ⟨(n0).toNat, by omega⟩
  have HN := Lib.hid hn
  have hnl : 0 ≤ n ∧ n ≤ 6 := by omega
  skip
  clear hs0 own0 hs2 hn
  go_wp2
  rw [HN.out]
  clear hn0 hn1
  go_loopw [3, 5] (fun v i wr => ∃ (k : Nat) (L : List BreadR), k ≤ n ∧ i = .int .i64 k ∧ L.length = k ∧ wr.ownsRow w.heap.size 51 3 v k (flBread L) ∧ (∀ i, i < k → (fun v : BreadR => (160 ≤ v.f0 ∧ v.f0 ≤ 255) ∧ (v.f0 ≤ v.f1 ∧ v.f1 ≤ v.f0 + 40) ∧ 10 ≤ v.f2 ∧ v.f2 ≤ 59) (L.getD i ⟨0, 0, 0⟩)) ∧ St B g W0 wr ∧ w.heap.size ≤ wr.heap.size) (fun _ i _ => n - (intOf i).toNat)
  case atStart => exact ⟨0, [], Nat.zero_le _, rfl, rfl, own2, fun i hi => absurd hi (Nat.not_lt_zero _), st2, hz2'⟩
  case round =>
    clear own2 st2 hz2'
    obtain ⟨k, L, hk, rfl, hL, own0, hP, st0, hz0'⟩ := hrel
    obtain ⟨A1, c1, rfl⟩ := own_shape_i own0
    by_cases hlt : k < n
    · have HP := Lib.hid hP
      clear hP
      have hk40 : k ≤ 1000 := by omega
      have hz0 := hz0'
      clear hz0'
      obtain ⟨v0, hv0⟩ : ∃ v0, v0 = wr := ⟨_, rfl⟩
      subst hv0
      go_wp2_with fail
      refine (mkBread_s B g v0 v0 ⟨st0.1, only_refl _ _⟩).mono ?_
      rintro _ v1 ⟨y0, y1, y2, hyy, rfl, hs1⟩
      have own1 := own_only own0 hs1.2 hgl
      have st1 : St B g W0 v1 := ⟨hs1.1, only_trans st0.2 hs1.2⟩
      have hz1 : w.heap.size ≤ v1.heap.size := Nat.le_trans hz0 hs1.2.size
      have own0 := own1.alloc (.cells #[.int .i64 y0, .int .i64 y1, .int .i64 y2] 51)
      have st0 := st1.alloc (.cells #[.int .i64 y0, .int .i64 y1, .int .i64 y2] 51)
      have hz0 : w.heap.size ≤ (v1.alloc (.cells #[.int .i64 y0, .int .i64 y1, .int .i64 y2] 51)).heap.size := by simp; omega
      clear own1 st1 hz1 hs1
      have hPy : (fun v : BreadR => (160 ≤ v.f0 ∧ v.f0 ≤ 255) ∧ (v.f0 ≤ v.f1 ∧ v.f1 ≤ v.f0 + 40) ∧ 10 ≤ v.f2 ∧ v.f2 ≤ 59) ⟨y0, y1, y2⟩ := by simp only []; omega
      have F1 : Hid (∀ u ∈ (#[Value.int .i64 y0, Value.int .i64 y1, Value.int .i64 y2] : Array Value).toList, u.oneCell' = true) := Lib.hid (by intro u hu; simp at hu; rcases hu with rfl | rfl | rfl <;> rfl)
      have f12 : k + 1 ≤ maxLen := by unfold maxLen; omega
      have f13 : (k + 1) * 24 ≤ 140737488355328 := by omega
      go_wp2_with (at_builtin; refine wpList_appG (v1.alloc (.cells #[.int .i64 y0, .int .i64 y1, .int .i64 y2] 51)) (v1.heap.size + 1) (by simp) rfl (.tmp 17) (.tmp 19) 46 rfl w.heap.size 51 i0 (.agg #[.int .i64 0, .int .i64 0, .int .i64 0]) 3 24 Try.underlying46 hi0 hiz his hib rfl (by omega) (.slice A1 k c1) k (flBread L) rfl own0 1 #[Value.int .i64 y0, Value.int .i64 y1, Value.int .i64 y2] rfl rfl F1.out f12 f13 hz0 ?_; intro v1_ w1 hown1 hbw1)
      have st1_ : St B g W0 w1 := st0.base hbw1 hgl (Nat.le_trans h0w (Nat.le_refl _))
      have hown2 : w1.ownsRow w.heap.size 51 3 v1_ (k + 1) (flBread (L ++ [⟨y0, y1, y2⟩])) := by rw [flBread_app]; exact hown1
      have hP2 := getD_app_Bread L k ⟨y0, y1, y2⟩ hL (fun v : BreadR => (160 ≤ v.f0 ∧ v.f0 ≤ 255) ∧ (v.f0 ≤ v.f1 ∧ v.f1 ≤ v.f0 + 40) ∧ 10 ≤ v.f2 ∧ v.f2 ≤ 59) HP.out hPy
      have hz1_ : w.heap.size ≤ w1.heap.size := Nat.le_trans hz0 hbw1.size
      clear hown1 hbw1 own0 st0 hz0 f12 f13
      go_wp2
      go_roundw
      case rel => exact ⟨k + 1, L ++ [⟨y0, y1, y2⟩], by omega, by go_num, by simp [hL], hown2, hP2, st1_, hz1_⟩
      case measure => simp [intOf]; omega
    · obtain rfl : k = n := by omega
      go_wp2
      go_ret
      exact ⟨A1, c1, k, L, rfl, hnl.1, hnl.2, hL, hP, own0, st0⟩
theorem DrawBreads_c (a : Option Addr) (len cap : Nat) (w : World) (hb : Bytes w w.heap.size a len) :
    Calls Try.prog 26 #[.slice a len cap] w (fun e w' => ∃ (A : Option Addr) (c n : Nat) (xs : List BreadR), e = .returned (.slice A n c) ∧ (0 ≤ n ∧ n ≤ 6) ∧ (∀ i, i < n → (fun v : BreadR => (160 ≤ v.f0 ∧ v.f0 ≤ 255) ∧ (v.f0 ≤ v.f1 ∧ v.f1 ≤ v.f0 + 40) ∧ 10 ≤ v.f2 ∧ v.f2 ≤ 59) (xs.getD i ⟨0, 0, 0⟩)) ∧ ReadsBread w' A n xs ∧ n ≤ c ∧ Below w.heap.size w w') := by
  have HN := Lib.hid (new_s a len cap w hb)
  go_enter Try.func26, Try.ntmps26
  go_wp2_with fail
  refine HN.out.mono ?_
  rintro _ w1 ⟨rfl, hc, hb1⟩
  go_wp2_with fail
  refine (l10List_s w.heap.size w.heap.size w1 w1 ⟨hc, only_refl _ _⟩).mono ?_
  rintro _ w2 ⟨A, c, n, xs, rfl, h1, h2, hl, hP, hown, hs⟩
  have hs2 := hs.2
  go_wp2
  go_ret
  refine ⟨A, c, n, xs, rfl, ⟨h1, h2⟩, hP, reads_own_Bread hl hown, own_cap' hown, ?_⟩
  exact hb1.trans (below_of_only hs2 (Nat.le_refl _) hb1.size)
end Go.Proofs.Ytgjbbidcpmglbaa
