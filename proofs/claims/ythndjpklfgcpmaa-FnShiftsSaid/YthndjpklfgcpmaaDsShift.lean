/- Drawer of rows of shifts. -/
import Derived.Test.YthndjpklfgcpmaaDl0
import Derived.Test.YthndjpklfgcpmaaSShift
import Derived.Test.YthndjpklfgcpmaaC22
import Derived.Test.YthndjpklfgcpmaaDrw
import Derived.Test.YthndjpklfgcpmaaAppS
namespace Go.Proofs.Ythndjpklfgcpmaa
open Go.ChangeShapes Go.WideShapes Go.ChangeAt Go.RowKit
set_option linter.unusedVariables false
set_option linter.unusedSimpArgs false
set_option maxHeartbeats 2000000

theorem own_shape_2 {w : World} {base n : Nat} {e : TypeId} {v : Value} {size : Nat} {xs : List Value} (h : w.ownsRow base e size v n xs) : ∃ A c, v = .slice A n c := own_shape_i h
theorem own_cap' {w : World} {base n c size : Nat} {e : TypeId} {A : Option Addr} {xs : List Value} (h : w.ownsRow base e size (.slice A n c) n xs) : n ≤ c := by
  rcases h.2 with ⟨h1, h2⟩ | ⟨g, cap, cur, hv, hg, hh, hnc, _⟩
  · omega
  · injection hv with _ _ h3; omega
def flShift (xs : List ShiftR) : List Value := xs.flatMap fun e => [.int .i64 e.f0, .int .i64 e.f1]
theorem flShift_app (xs ys : List ShiftR) : flShift (xs ++ ys) = flShift xs ++ flShift ys := by simp [flShift]
theorem flShift_len (xs : List ShiftR) : (flShift xs).length = xs.length * 2 := by
  induction xs with
  | nil => rfl
  | cons x xs ih => simp only [flShift, List.flatMap_cons, List.length_append, List.length_cons, List.length_nil] at ih ⊢; omega
theorem flShift_at (xs : List ShiftR) : ∀ k, k < xs.length → (flShift xs)[k * 2]? = some (.int .i64 (xs.getD k ⟨0, 0⟩).f0) ∧ (flShift xs)[k * 2 + 1]? = some (.int .i64 (xs.getD k ⟨0, 0⟩).f1) := by
  induction xs with
  | nil => intro k hk; simp at hk
  | cons x xs ih =>
    intro k hk
    cases k with
    | zero => simp [flShift]
    | succ k =>
      have h := ih k (by simpa using hk)
      have e0 : (k + 1) * 2 = k * 2 + 2 := by omega
      have e1 : (k + 1) * 2 + 1 = k * 2 + 1 + 2 := by omega
      simp only [flShift, List.flatMap_cons, e0, e1, List.getD_cons_succ] at h ⊢
      refine ⟨?_, ?_⟩ <;> (rw [List.getElem?_append_right (by simp)]; simp only [List.length_cons, List.length_nil, Nat.zero_add, Nat.add_sub_cancel])
      · exact h.1
      · exact h.2
theorem reads_own_Shift {w : World} {base n c : Nat} {A : Option Addr} {xs : List ShiftR} (hl : xs.length = n) (h : w.ownsRow base 41 2 (.slice A n c) n (flShift xs)) : ReadsShift w A n xs := by
  refine ⟨hl, fun k hk => ?_⟩
  obtain ⟨g, cap, hv, _, _⟩ := h.form (by omega)
  injection hv with h1 h2 h3
  subst h1 h3
  have hf := flShift_at xs k (by omega)
  have c0 := h.cellAt (k * 2) (by omega)
  rw [hf.1] at c0
  have c1 := h.cellAt (k * 2 + 1) (by omega)
  rw [hf.2] at c1
  refine ⟨_, rfl, ?_, ?_⟩
  · rw [Addr.add_lit, Nat.zero_add]; exact c0
  · simp only [Addr.add_lit, Nat.zero_add]; exact c1
theorem own_spot {w : World} {base n c : Nat} {e : TypeId} {size : Nat} {A : Option Addr} {xs : List Value} (h : w.ownsRow base e size (.slice A n c) n xs) : ∀ ad, A = some ad → ad.spot = none := by
  intro ad hA
  subst hA
  rcases h.2 with ⟨h1, _⟩ | ⟨g, cap, cur, hv, _⟩
  · cases h1
  · injection hv with h1 _ _
    injection h1 with h1
    subst h1
    rfl
theorem infoDsShift : (Try.prog.info? 41).map (fun i => (i.zero, i.size, i.bytes)) = some (some (.agg #[.int .i64 0, .int .i64 0]), 2, 16) := by kernel_rfl
theorem own_new2s (w : World) (t : TypeId) (B : Nat) (hB : B ≤ w.heap.size) : (w.alloc (.cells #[] t)).ownsRow B t 2 (.slice (some ⟨w.heap.size, 0, none⟩) 0 0) 0 [] :=
  ⟨by simp, .inr ⟨w.heap.size, 0, #[], rfl, hB, heap_alloc_new w _, Nat.le_refl _, Nat.zero_le _, by simp, by simp⟩⟩
/-- append of what was built just before, only the row's own block may turn -/
theorem wpList_appH {P : Program} {ops : Array Oper} {rest : List Oper} {o : Oper} {a : Act} {Q : Exit → Act → World → Prop} (w0 : World) (gx : Nat) (hgx : w0.heap.size = gx) (hgd : o.guard = none) (s x : Operand) (t : TypeId)
    (ho : o.op = .call { callee := .builtin .append, args := #[s, x], argTypes := #[t, t] })
    (base : Nat) (e : TypeId) (i : TypeInfo) (z : Value) (size bytes : Nat) (ht : P.underlying t = some (.slice e)) (hi : P.info? e = some i) (hz : i.zero = some z)
    (hsize : i.size = size) (hby : i.bytes = bytes) (hzs : z.cells.size = size) (hsz : 0 < size)
    (v : Value) (n : Nat) (xs : List Value) (hs : a.eval s = v) (hown : w0.ownsRow base e size v n xs)
    (m : Nat) (cs : Array Value) (hx : a.eval x = .slice (some ⟨gx, 0, none⟩) m m) (hl : cs.toList.length = m * size) (h1 : ∀ u ∈ cs.toList, u.oneCell' = true)
    (h63 : n + m ≤ maxLen) (hbytes : (n + m) * bytes ≤ 140737488355328) (hbase : base ≤ w0.heap.size)
    (h : ∀ v' w', w'.ownsRow base e size v' (n + m) (xs ++ cs.toList) → w0.grownBy w' v.ownBlock → wpList P ops Q rest (a.put o.dst v') w') :
    wpList P ops Q (o :: rest) a (w0.alloc (.cells cs e)) := by
  subst hgx
  refine wpList_append_own _ hgd s x t ho base e i z size bytes ht hi hz hsize hby hzs hsz v n xs hs (hown.alloc _) ⟨w0.heap.size, 0, none⟩ m m cs.toList hx hl
    (World.news_of_block (fr := (0, 0)) (t := e) (heap_alloc_new w0 _)) h1 h63 hbytes (by rw [Deep.nblk_alloc]; omega) fun v' w' h2 h3 _ => h v' w' h2 ?_
  exact ⟨h3.os, h3.tape, h3.output, Nat.le_trans (by simp) h3.size, fun i hi hne => (h3.block i (by simp; omega) hne).trans (Below.heap_alloc w0 _ i hi)⟩
/-- shifts in their order, the next one from a on -/
def PSh (L : List ShiftR) (k : Nat) (a : Int) : Prop := (∀ i, i < k → 0 ≤ (L.getD i z22).f0 ∧ (L.getD i z22).f0 < 150 ∧ (L.getD i z22).f0 + 1 ≤ (L.getD i z22).f1 ∧ (L.getD i z22).f1 ≤ (L.getD i z22).f0 + 12 ∧ (L.getD i z22).f1 ≤ a) ∧ ∀ i, i + 1 < k → (L.getD i z22).f1 ≤ (L.getD (i + 1) z22).f0
theorem PSh.app {L : List ShiftR} {k : Nat} {a b c : Int} (h : PSh L k a) (hl : L.length = k) (ha : 0 ≤ a) (ha2 : a < 150) (hb : a + 1 ≤ b) (hb2 : b ≤ a + 12) (hc : b ≤ c) : PSh (L ++ [(⟨a, b⟩ : ShiftR)]) (k + 1) c := by
  have e1 : ∀ i, i < k → (L ++ [(⟨a, b⟩ : ShiftR)]).getD i z22 = L.getD i z22 := fun i hi => by simp [List.getD_eq_getElem?_getD, List.getElem?_append_left (by omega : i < L.length)]
  have e2 : (L ++ [(⟨a, b⟩ : ShiftR)]).getD k z22 = ⟨a, b⟩ := by simp [List.getD_eq_getElem?_getD, List.getElem?_append_right (by omega : L.length ≤ k), hl]
  refine ⟨fun i hi => ?_, fun i hi => ?_⟩
  · by_cases e : i = k
    · subst e; rw [e2]; simp only []; omega
    · rw [e1 i (by omega)]
      have := h.1 i (by omega)
      omega
  · by_cases e : i + 1 = k
    · rw [e, e2, e1 i (by omega)]
      have := h.1 i (by omega)
      simp only []; omega
    · rw [e1 i (by omega), e1 (i + 1) (by omega)]
      exact h.2 i (by omega)
/-- a row of shifts, drawn -/
def GotSh (B g : Nat) (W0 w : World) (e : Ending) (w' : World) : Prop :=
  ∃ (A : Option Addr) (c n : Nat) (xs : List ShiftR) (a : Int), e = .returned (.slice A n c) ∧ n ≤ 6 ∧ xs.length = n ∧ PSh xs n a ∧ w'.ownsRow w.heap.size 41 2 (.slice A n c) n (flShift xs) ∧ St B g W0 w'
def GotShifts (w : World) (e : Ending) (w' : World) : Prop :=
  ∃ (A : Option Addr) (c n : Nat) (xs : List ShiftR) (a : Int), e = .returned (.slice A n c) ∧ n ≤ 6 ∧ PSh xs n a ∧ ReadsShift w' A n xs ∧ (∀ ad, A = some ad → ad.spot = none) ∧ Below w.heap.size w w'
set_option maxHeartbeats 8000000 in
set_option maxRecDepth 20000 in
theorem l22List_s (B g : Nat) (W0 w : World) (h : St B g W0 w) : Calls Try.prog 61 #[.pointer (some ⟨g, 0, none⟩)] w (GotSh B g W0 w) := by
  obtain ⟨i0, hi0, hiz, his, hib⟩ := info_parts infoDsShift
  have hgl := h.1.lt
  have hBg := h.1.ge
  have h0w := h.2.size
  have hs0 : St B g W0 (w.alloc (.cells #[] 41)) := h.alloc _
  have own0 := own_new2s w 41 w.heap.size (Nat.le_refl _)
  obtain ⟨W1, hW1⟩ : ∃ W1, W1 = w.alloc (.cells #[] 41) := ⟨_, rfl⟩
  rw [← hW1] at hs0 own0
  have hsz : W1.heap.size = w.heap.size + 1 := by rw [hW1]; simp
  go_enter Try.func61, Try.ntmps61
  go_wp2_with fail
  rw [← hW1]
  refine (below_s 24 B g W1 W1 (by omega) (by omega) ⟨hs0.1, only_refl _ _⟩).mono ?_
  rintro _ w2 ⟨a0, ⟨ha0, ha1⟩, rfl, hs2⟩
  have own2 := own_only own0 hs2.2 hgl
  have st2 : St B g W0 w2 := ⟨hs2.1, only_trans hs0.2 hs2.2⟩
  have hz2 : w.heap.size ≤ w2.heap.size := by have := hs2.2.size; omega
  clear hs0 own0 hs2
  go_wp2_with fail
  refine (below_s 7 B g w2 w2 (by omega) (by omega) ⟨st2.1, only_refl _ _⟩).mono ?_
  rintro _ w3 ⟨m0, ⟨hm0, hm1⟩, rfl, hs3⟩
  have own3 := own_only own2 hs3.2 hgl
  have st3 : St B g W0 w3 := ⟨hs3.1, only_trans st2.2 hs3.2⟩
  have hz3 : w.heap.size ≤ w3.heap.size := by have := hs3.2.size; omega
  clear own2 st2 hs3
  obtain ⟨q0, hq0⟩ : ∃ q : Nat, m0 = q := ⟨m0.toNat, by omega⟩
  subst hq0
  go_wp2
  go_loopw [3, 4, 5] (fun v at_ m wr => ∃ (k q : Nat) (a : Int) (L : List ShiftR), k + q ≤ 6 ∧ m = .int .i64 q ∧ at_ = .int .i64 a ∧ (0 ≤ a ∧ a ≤ 181) ∧ L.length = k ∧ wr.ownsRow w.heap.size 41 2 v k (flShift L) ∧ PSh L k a ∧ St B g W0 wr ∧ w.heap.size ≤ wr.heap.size) (fun _ _ m _ => (intOf m).toNat)
  case atStart => exact ⟨0, q0, a0, [], by omega, rfl, rfl, by omega, rfl, own3, ⟨fun i hi => absurd hi (Nat.not_lt_zero _), fun i hi => absurd hi (Nat.not_lt_zero _)⟩, st3, hz3⟩
  case round =>
    clear own3 st3 hz3 hm0 hm1 ha0 ha1
    obtain ⟨k, q, a, L, hkq, rfl, rfl, haa, hL, own0, hP, st0, hz0⟩ := hrel
    obtain ⟨A1, c1, rfl⟩ := own_shape_i own0
    by_cases hq : q = 0
    · subst hq
      go_wp2
      go_ret
      exact ⟨A1, c1, k, L, a, rfl, by omega, hL, hP, own0, st0⟩
    have q1_ : (0 : Int) < (q : Int) := by omega
    by_cases ha9 : a < 150
    rotate_left
    · have a1_ : (150 : Int) ≤ a := by omega
      go_wp2
      go_ret
      exact ⟨A1, c1, k, L, a, rfl, by omega, hL, hP, own0, st0⟩
    have HP := Lib.hid hP
    clear hP
    obtain ⟨v0, hv0⟩ : ∃ v0, v0 = wr := ⟨_, rfl⟩
    subst hv0
    go_wp2_with fail
    refine (below_s 12 B g v0 v0 (by omega) (by omega) ⟨st0.1, only_refl _ _⟩).mono ?_
    rintro _ v1 ⟨x, ⟨hx0, hx1⟩, rfl, hs1⟩
    have own1 := own_only own0 hs1.2 hgl
    have st1 : St B g W0 v1 := ⟨hs1.1, only_trans st0.2 hs1.2⟩
    have hz1 : w.heap.size ≤ v1.heap.size := Nat.le_trans hz0 hs1.2.size
    clear own0 st0 hz0 hs1
    obtain ⟨b, hb⟩ : ∃ b : Int, a + 1 + x = b := ⟨_, rfl⟩
    have V1 : wrap64 (a + 1) = a + 1 := w64 ⟨by omega, by omega⟩
    have V2 : wrap64 (a + 1 + x) = b := by rw [w64 ⟨by omega, by omega⟩]; exact hb
    have hbb : a + 1 ≤ b ∧ b ≤ a + 12 := by omega
    clear hb hx0 hx1
    obtain ⟨r, hr⟩ : ∃ r, r = v1.heap.size := ⟨_, rfl⟩
    have kr : Blk (v1.alloc (.cells #[.int .i64 a, .int .i64 b] 41)) r 41 #[.int .i64 a, .int .i64 b] := by rw [hr]; exact Blk.new v1 _ _
    have own2 := own1.alloc (.cells #[.int .i64 a, .int .i64 b] 41)
    have st2 := st1.alloc (.cells #[.int .i64 a, .int .i64 b] 41)
    have hz2 : w.heap.size ≤ (v1.alloc (.cells #[.int .i64 a, .int .i64 b] 41)).heap.size := by simp; omega
    have hsz2 : (v1.alloc (.cells #[.int .i64 a, .int .i64 b] 41)).heap.size = r + 1 := by rw [hr]; simp
    have hrw : w.heap.size ≤ r := by omega
    have hor : ∀ j, (Value.slice A1 k c1).ownBlock = some j → j ≠ r := fun j hj e => by
      have h9 := own_lt own1 j hj
      omega
    have hgr : g ≠ r := by have := st1.1.lt; omega
    clear own1 st1 hz1
    have F1 : Hid (∀ u ∈ (#[Value.int .i64 a, Value.int .i64 b] : Array Value).toList, u.oneCell' = true) := Lib.hid (by intro u hu; simp at hu; rcases hu with rfl | rfl <;> rfl)
    have f12 : k + 1 ≤ maxLen := cap12 (by omega)
    have f13 : (k + 1) * 16 ≤ 140737488355328 := by omega
    go_wp2_with (at_builtin; (rw [← hr]); refine wpList_appH (v1.alloc (.cells #[.int .i64 a, .int .i64 b] 41)) (r + 1) hsz2 rfl (.tmp 27) (.tmp 29) 36 rfl w.heap.size 41 i0 (.agg #[.int .i64 0, .int .i64 0]) 2 16 Try.underlying36 hi0 hiz his hib rfl (by omega) (.slice A1 k c1) k (flShift L) rfl own2 1 #[Value.int .i64 a, Value.int .i64 b] rfl rfl F1.out f12 f13 hz2 ?_; intro v1_ w4 hown4 hg4)
    have hown5 : w4.ownsRow w.heap.size 41 2 v1_ (k + 1) (flShift (L ++ [⟨a, b⟩])) := by rw [flShift_app]; exact hown4
    have hbl := own_block_le own2
    have k4 : Blk w4 r 41 #[.int .i64 a, .int .i64 b] := kr.grown hg4 (fun e => hor r e.symm rfl)
    have hb4 : Below w.heap.size (v1.alloc (.cells #[.int .i64 a, .int .i64 b] 41)) w4 := (Below.refl _ _).grown hg4 hz2 hbl
    have st4 : St B g W0 w4 := st2.base hb4 hgl h0w
    have hz4 : w.heap.size ≤ w4.heap.size := Nat.le_trans hz2 hg4.size
    have cr1 : w4.cell? ⟨r, 1, none⟩ = some (.int .i64 b) := k4.cell 1
    clear hown4 hg4 hb4 own2 st2 hz2 hbl hsz2 kr hor f12 f13 V1 V2
    obtain ⟨w5, hw5⟩ : ∃ q, q = w4 := ⟨_, rfl⟩
    subst hw5
    subst hr
    go_wp2_with fail
    go_region_with (go_at_call 58; (refine (below_s 20 B g w5.drew w5.drew (by omega) (by omega) ⟨st4.1.drew, only_refl _ _⟩).mono ?_; rintro _ w6 ⟨z, ⟨hz0, hz1⟩, rfl, hs6⟩; have k6 := k4.drew.grown hs6.2 (fun e => by injection e with e; omega); have e1 : w6.cell? ⟨v1.heap.size, 1, none⟩ = some (.int .i64 b) := k6.cell 1; have s6 : St B g W0 w6 := ⟨hs6.1, only_trans (only_drew st4.2) hs6.2⟩; have own6 := own_only (own_step hown5 (Below.refl _ _).drew) hs6.2 hgl; have hz6 : w.heap.size ≤ w6.heap.size := Nat.le_trans hz4 hs6.2.size; obtain ⟨c, hc⟩ : ∃ c : Int, b + z = c := ⟨_, rfl⟩; have hcb : b ≤ c ∧ c ≤ b + 19 := (by omega); have hw9 : IntKind.i64.wrap (b + z) = c := (by rw [← hc]; exact IntWalk.i64_in _ (by omega)); clear hc))
    all_goals (
      have HP2 := Lib.hid (HP.out.app hL haa.1 ha9 hbb.1 hbb.2 hcb.1)
      clear k4 k6 st4 hs6 hown5 cr1 e1 hw9
      go_wp2
      go_roundw
      case rel => exact ⟨k + 1, q - 1, c, L ++ [⟨a, b⟩], by omega, by first | (congr 1; omega) | go_num, rfl, by omega, by simp [hL], own6, HP2.out, s6, hz6⟩
      case measure => simp [intOf]; omega)
theorem DrawShifts_c (a : Option Addr) (len cap : Nat) (w : World) (hb : Bytes w w.heap.size a len) :
    Calls Try.prog 27 #[.slice a len cap] w (GotShifts w) := by
  have HN := Lib.hid (new_s a len cap w hb)
  go_enter Try.func27, Try.ntmps27
  go_wp2_with fail
  refine HN.out.mono ?_
  rintro _ w1 ⟨rfl, hc, hb1⟩
  go_wp2_with fail
  refine (l22List_s w.heap.size w.heap.size w1 w1 ⟨hc, only_refl _ _⟩).mono ?_
  rintro _ w2 ⟨A, c, n, xs, a2, rfl, h1, hl, hP, hown, hs⟩
  have hs2 := hs.2
  go_wp2
  go_ret
  exact ⟨A, c, n, xs, a2, rfl, h1, hP, reads_own_Shift hl hown, own_spot hown, hb1.trans (below_of_only hs2 (Nat.le_refl _) hb1.size)⟩
end Go.Proofs.Ythndjpklfgcpmaa
