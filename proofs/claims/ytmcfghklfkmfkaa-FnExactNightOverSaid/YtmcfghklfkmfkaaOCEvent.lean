/- Rows of Event of the call's own. -/
import Derived.Test.YtmcfghklfkmfkaaSEvent
import Derived.Test.YtmcfghklfkmfkaaOwnI
import Derived.Test.YtmcfghklfkmfkaaSum
import Derived.Test.YtmcfghklfkmfkaaStop
namespace Go.Proofs.Ytmcfghklfkmfkaa
open Go.ChangeShapes Go.WideShapes Go.ChangeAt Go.RowKit
set_option linter.unusedVariables false
set_option linter.unusedSimpArgs false
set_option maxHeartbeats 2000000

def flEvent (xs : List EventR) : List Value := xs.flatMap fun e => [.int .i64 e.f0, .int .i64 e.f1]
theorem flEvent_len (xs : List EventR) : (flEvent xs).length = xs.length * 2 := by
  induction xs with
  | nil => rfl
  | cons x xs ih => simp only [flEvent, List.flatMap_cons, List.length_append, List.length_cons, List.length_nil] at ih ⊢; omega
theorem flEvent_at (xs : List EventR) : ∀ k, k < xs.length → (flEvent xs)[k * 2]? = some (.int .i64 (xs.getD k ⟨0, 0⟩).f0) ∧ (flEvent xs)[k * 2 + 1]? = some (.int .i64 (xs.getD k ⟨0, 0⟩).f1) := by
  induction xs with
  | nil => intro k hk; simp at hk
  | cons x xs ih =>
    intro k hk
    cases k with
    | zero => simp [flEvent]
    | succ k =>
      have h := ih k (by simpa using hk)
      have e0 : (k + 1) * 2 = k * 2 + 2 := by omega
      have e1 : (k + 1) * 2 + 1 = k * 2 + 1 + 2 := by omega
      simp only [flEvent, List.flatMap_cons, e0, e1, List.getD_cons_succ] at h ⊢
      refine ⟨?_, ?_⟩ <;> (rw [List.getElem?_append_right (by simp)]; simp only [List.length_cons, List.length_nil, Nat.zero_add, Nat.add_sub_cancel])
      · exact h.1
      · exact h.2
theorem flEvent_app (xs ys : List EventR) : flEvent (xs ++ ys) = flEvent xs ++ flEvent ys := by simp [flEvent]
theorem flEvent_one (xs : List EventR) : ∀ u ∈ flEvent xs, u.oneCell' = true := by
  intro u hu
  simp only [flEvent, List.mem_flatMap, List.mem_cons, List.not_mem_nil, or_false] at hu
  obtain ⟨x, _, rfl | rfl⟩ := hu
  all_goals rfl
/-- block g holds these Events -/
def OCEvent (w : World) (g n c : Nat) (xs : List EventR) : Prop :=
  ∃ cur : Array Value, Blk w g 78 cur ∧ n ≤ c ∧ c ≤ maxLen ∧ cur.size = c * 2 ∧ xs.length = n ∧ ∀ t, t < n → cur[t * 2]? = some (.int .i64 (xs.getD t ⟨0, 0⟩).f0) ∧ cur[t * 2 + 1]? = some (.int .i64 (xs.getD t ⟨0, 0⟩).f1)
section
variable {w w' : World} {g n c : Nat} {xs : List EventR}
theorem OCEvent.reads (h : OCEvent w g n c xs) : ReadsEvent w (some ⟨g, 0, none⟩) n xs := by
  obtain ⟨cur, hb, _, _, hs, hl, hc⟩ := h
  refine ⟨hl, fun k hk => ⟨_, rfl, ?_⟩⟩
  have := hc k hk
  simp only [Addr.add_lit, Nat.zero_add, hb.cell]
  exact this
theorem OCEvent.lt (h : OCEvent w g n c xs) : g < w.heap.size := by obtain ⟨cur, hb, _⟩ := h; exact hb.lt
theorem OCEvent.len (h : OCEvent w g n c xs) : xs.length = n := by obtain ⟨cur, hb, _, _, _, hl, _⟩ := h; exact hl
theorem OCEvent.below {B : Nat} (h : OCEvent w g n c xs) (hb : Below B w w') (hg : g < B) : OCEvent w' g n c xs := by
  obtain ⟨cur, hk, r⟩ := h
  exact ⟨cur, hk.below hb hg, r⟩
theorem OCEvent.step (h : OCEvent w g n c xs) (hb : Below w.heap.size w w') : OCEvent w' g n c xs := h.below hb h.lt
theorem OCEvent.alloc (h : OCEvent w g n c xs) (o : Obj) : OCEvent (w.alloc o) g n c xs := h.step ((Below.refl _ w).alloc (Nat.le_refl _) o)
theorem OCEvent.drew (h : OCEvent w g n c xs) : OCEvent w.drew g n c xs := h.step (Below.refl _ w).drew
theorem OCEvent.drewN (h : OCEvent w g n c xs) (q : Nat) : OCEvent (w.drewN q) g n c xs := h.step (below_drewN (Below.refl _ w) q)
theorem OCEvent.blk (h : OCEvent w g n c xs) : ∃ cur : Array Value, Blk w g 78 cur := by obtain ⟨cur, hb, _⟩ := h; exact ⟨cur, hb⟩
theorem OCEvent.ne {g' : Nat} {t : TypeId} {cs : Array Value} (h : OCEvent w g n c xs) (hk : Blk w g' t cs) (ht : t ≠ 78) : g ≠ g' := by
  intro e
  subst e
  obtain ⟨cur, hb⟩ := h.blk
  have := hb.symm.trans hk
  injection this with this
  injection this with _ h2 _
  exact ht h2.symm
theorem OCEvent.only {g' : Nat} (h : OCEvent w g n c xs) (hb : w.grownBy w' (some g')) (hne : g ≠ g') : OCEvent w' g n c xs := by
  obtain ⟨cur, hk, r⟩ := h
  exact ⟨cur, hk.grown hb (fun e => by injection e; omega), r⟩
theorem OCEvent.far {g' : Nat} {t : TypeId} {cs : Array Value} (h : OCEvent w g n c xs) (hk : Blk w g' t cs) (ht : t ≠ 78) (hb : w.grownBy w' (some g')) : OCEvent w' g n c xs := h.only hb (h.ne hk ht)
theorem OCEvent.row (h : OCEvent w g n c xs) : w.ownsRow g 78 2 (.slice (some ⟨g, 0, none⟩) n c) n (flEvent xs) := by
  obtain ⟨cur, hk, hnc, hcm, hs, hl, hc⟩ := h
  refine ⟨by rw [flEvent_len, hl], .inr ⟨g, c, cur, rfl, Nat.le_refl _, hk, hnc, hcm, hs, ?_⟩⟩
  have hfl := flEvent_len xs
  apply List.ext_getElem?
  intro j
  rw [List.getElem?_take]
  by_cases hj : j < n * 2
  · rw [if_pos hj, Array.getElem?_toList]
    have h1 := hc (j / 2) (by omega)
    have h2 := flEvent_at xs (j / 2) (by omega)
    rcases (by omega : j = (j / 2) * 2 ∨ j = (j / 2) * 2 + 1) with e | e
    · rw [e]; exact (h1.1).trans (h2.1).symm
    · rw [e]; exact (h1.2).trans (h2.2).symm
  · rw [if_neg hj, List.getElem?_eq_none (by omega)]
theorem OCEvent.of {B : Nat} {v : Value} (h : w.ownsRow B 78 2 v n (flEvent xs)) (hv : v ≠ .slice none 0 0) : ∃ g c, v = .slice (some ⟨g, 0, none⟩) n c ∧ B ≤ g ∧ OCEvent w g n c xs := by
  have h1 := h.1
  have hfl := flEvent_len xs
  rcases h.2 with ⟨rfl, _⟩ | ⟨g, cap, cur, rfl, hg, hk, hnc, hcm, hs, htk⟩
  · exact absurd rfl hv
  · refine ⟨g, cap, rfl, hg, cur, hk, hnc, hcm, hs, by omega, fun t ht => ?_⟩
    have h2 := flEvent_at xs t (by omega)
    have h3 : ∀ j, j < n * 2 → cur[j]? = (flEvent xs)[j]? := fun j hj => by rw [← htk, List.getElem?_take, if_pos hj, Array.getElem?_toList]
    refine ⟨?_, ?_⟩
    · rw [h3 _ (by omega)]; exact h2.1
    · rw [h3 _ (by omega)]; exact h2.2
theorem OCEvent.own (h : OwnEvent w g n xs) (hn : n ≤ maxLen) : OCEvent w g n n xs := by
  obtain ⟨cur, hk, hs, hl, hc⟩ := h
  exact ⟨cur, hk, Nat.le_refl _, hn, hs, hl, hc⟩
theorem OCEvent.news (hx : ReadsEvent w (some ⟨g, 0, none⟩) n xs) : ∀ j u, (flEvent xs)[j]? = some u → w.cell? (Addr.add ⟨g, 0, none⟩ j) = some u := by
  intro j u hu
  have hfl := flEvent_len xs
  have hj : j < n * 2 := by
    have := (List.getElem?_eq_some_iff.1 hu).1
    rw [hfl, hx.1] at this
    exact this
  obtain ⟨a, ha, h1⟩ := hx.2 (j / 2) (by omega)
  injection ha with ha
  subst ha
  have h2 := flEvent_at xs (j / 2) (by have := hx.1; omega)
  simp only [Addr.add_lit, Nat.zero_add] at h1 ⊢
  rcases (by omega : j = (j / 2) * 2 ∨ j = (j / 2) * 2 + 1) with e | e
  · rw [e] at hu ⊢; exact (h1.1).trans ((h2.1).symm.trans hu)
  · rw [e] at hu ⊢; exact (h1.2).trans ((h2.2).symm.trans hu)
end
/-- a row of the call's own is the answer -/
def RowOEvent (xs : List EventR) (w : World) (e : Ending) (w' : World) : Prop := ∃ g c, e = .returned (.slice (some ⟨g, 0, none⟩) xs.length c) ∧ OCEvent w' g xs.length c xs ∧ w.heap.size ≤ g ∧ Below w.heap.size w w'
theorem toEventS_o (A : Option Addr) (n c : Nat) (xs : List EventR) (w : World) (hn : (n : Int) ≤ 10000000) (hx : ReadsEvent w A n xs) :
    Calls Try.prog 67 #[.slice A n c] w (fun e w' => ∃ g, e = .returned (.slice (some ⟨g, 0, none⟩) n n) ∧ OCEvent w' g n n xs ∧ w.heap.size ≤ g ∧ Below w.heap.size w w') := by
  refine (toEventS_c A n c xs w hn hx).mono ?_
  rintro e w' ⟨g, he, ho, hg, hb⟩
  have hl := hx.1
  rw [hl] at he ho
  exact ⟨g, he, OCEvent.own ho (by unfold maxLen; omega), hg, hb⟩
def marksEvent (k n : Nat) : List EventR := (List.range n).map fun i => ⟨((k + i * 2 : Nat) : Int), ((k + i * 2 + 1 : Nat) : Int)⟩
theorem marksEvent_len (k n : Nat) : (marksEvent k n).length = n := by simp [marksEvent]
theorem marksEvent_at (k n i : Nat) (h : i < n) : (marksEvent k n).getD i ⟨0, 0⟩ = ⟨((k + i * 2 : Nat) : Int), ((k + i * 2 + 1 : Nat) : Int)⟩ := by simp [marksEvent, h]
def MarkedOEvent (g k n c : Nat) (w : World) (e : Ending) (w' : World) : Prop := e = .returned (.int .i64 ((k + 2 * n : Nat) : Int)) ∧ OCEvent w' g n c (marksEvent k n) ∧ w.grownBy w' (some g)
set_option maxHeartbeats 2000000 in
theorem markEventS_o (g n c k : Nat) (xs : List EventR) (w : World) (hn : (n : Int) ≤ 1048576) (hk : (k : Int) ≤ 10000000) (h : OCEvent w g n c xs) :
    Calls Try.prog 76 #[.slice (some ⟨g, 0, none⟩) n c, .int .i64 (k : Int)] w (MarkedOEvent g k n c w) := by
  obtain ⟨cur0, hb0, hnc, hcm, hs0, _, _⟩ := h
  have HS0 := Lib.hid hs0
  clear hs0
  have HCM := Lib.hid hcm
  clear hcm
  go_enter Try.func76, Try.ntmps76
  go_wp2
  go_loopw [1, 5] (fun q i wr => ∃ (j : Nat) (cur : Array Value), j ≤ n ∧ i = .int .i64 j ∧ q = .int .i64 ((k + 2 * j : Nat) : Int) ∧ Blk wr g 78 cur ∧ cur.size = c * 2 ∧ (∀ t, t < j → cur[t * 2]? = some (.int .i64 ((k + t * 2 : Nat) : Int)) ∧ cur[t * 2 + 1]? = some (.int .i64 ((k + t * 2 + 1 : Nat) : Int))) ∧ w.grownBy wr (some g)) (fun _ i _ => n - (intOf i).toNat)
  case atStart => exact ⟨0, cur0, Nat.zero_le _, rfl, rfl, hb0, HS0.out, fun t ht => absurd ht (Nat.not_lt_zero _), only_refl _ _⟩
  case round =>
    clear hb0 HS0
    obtain ⟨j, cur, hj, rfl, rfl, hK, hs, hp, ho⟩ := hrel
    have HS := Lib.hid hs
    have HP := Lib.hid hp
    clear hs hp
    have hkk : (k : Int) ≤ 10000000 := by omega
    by_cases hlt : j < n
    · have hlt2 : ∀ t, t < 2 → j * 2 + t < cur.size := by have := HS.out; omega
      obtain ⟨y0, hy0⟩ : ∃ y, wr.cell? ⟨g, j * 2, none⟩ = some y := ⟨cur[j * 2 + 0]'(hlt2 0 (by omega)), by rw [hK.cell]; simp⟩
      have z0 := hK.frozen (j * 2)
      obtain ⟨y1, hy1⟩ : ∃ y, wr.cell? ⟨g, j * 2 + 1, none⟩ = some y := ⟨cur[j * 2 + 1]'(hlt2 1 (by omega)), by rw [hK.cell]; simp⟩
      have z1 := hK.frozen (j * 2 + 1)
      have hlt3 := hK.lt
      have HK := Lib.hid hK
      clear hK hlt2
      go_wp2
      go_roundw
      case rel =>
        refine ⟨j + 1, (cur.setIfInBounds (j * 2) (.int .i64 ((k + 2 * j : Nat) : Int))).setIfInBounds (j * 2 + 1) (.int .i64 ((k + 2 * j : Nat) + 1 : Int)), by omega, by go_num, ?_, (HK.out.set_ _ _).set_ _ _, by simp; exact HS.out, fun t ht => ?_, only_setCell (only_setCell (ho) (p := ⟨g, j * 2, none⟩) (.inl rfl) _) (p := ⟨g, j * 2 + 1, none⟩) (.inl rfl) _⟩
        · exact v_int (by omega)
        have hsz := HS.out
        by_cases e : t = j
        · subst e
          simp [Array.getElem?_setIfInBounds, hsz]
          refine ⟨?_, ?_⟩ <;> (refine ⟨by omega, ?_⟩; omega)
        · have h := HP.out t (by omega)
          simp only [Array.getElem?_setIfInBounds]
          simp only [if_neg (show j * 2 ≠ t * 2 by omega), if_neg (show j * 2 ≠ t * 2 + 1 by omega), if_neg (show j * 2 + 1 ≠ t * 2 by omega), if_neg (show j * 2 + 1 ≠ t * 2 + 1 by omega)]
          exact h
      case measure => simp [intOf]; omega
    · obtain rfl : j = n := by omega
      go_wp2
      go_ret
      refine ⟨ret_int rfl, ⟨cur, hK, by omega, HCM.out, HS.out, marksEvent_len _ _, fun t ht => ?_⟩, ho⟩
      rw [marksEvent_at _ _ _ ht]
      exact HP.out t ht
theorem heldEventS_o (A : Option Addr) (n c k : Nat) (w : World) (hn : (n : Int) ≤ 1048576) (hk : (k : Int) ≤ 10000000) (hx : ReadsEvent w A n (marksEvent k n)) :
    Calls Try.prog 77 #[.slice A n c, .int .i64 k] w (Val (.int .i64 ((k + 2 * n : Nat) : Int)) w) := by
  go_enter Try.func77, Try.ntmps77
  go_wp2
  go_loopw [1, 5] (fun q i wr => ∃ (j : Nat), j ≤ n ∧ i = .int .i64 j ∧ q = .int .i64 ((k + 2 * j : Nat) : Int) ∧ In w.heap.size w wr) (fun _ i _ => n - (intOf i).toNat)
  case atStart => exact ⟨0, Nat.zero_le _, rfl, rfl, by (repeat (first | exact In.refl _ | assumption | apply In.alloc | apply In.drewN | apply In.drew | (refine In.step ?_ (by assumption))))⟩
  case round =>
    obtain ⟨j, hj, rfl, rfl, hi⟩ := hrel
    have hkk : (k : Int) ≤ 10000000 := by omega
    by_cases hlt : j < n
    · obtain ⟨a, rfl, ha⟩ := (hx.in_ hi).2 j hlt
      rw [marksEvent_at k n j hlt] at ha
      simp only at ha
      obtain ⟨ha0, ha1⟩ := ha
      go_wp2
      go_roundw
      case rel => exact ⟨j + 1, by omega, by go_num, v_int (by omega), by (repeat (first | exact In.refl _ | assumption | apply In.alloc | apply In.drewN | apply In.drew | (refine In.step ?_ (by assumption))))⟩
      case measure => simp [intOf]; omega
    · obtain rfl : j = n := by omega
      go_wp2
      go_ret
      exact ⟨ret_int rfl, In.below (by (repeat (first | exact In.refl _ | assumption | apply In.alloc | apply In.drewN | apply In.drew | (refine In.step ?_ (by assumption)))))⟩
theorem own_emptyEvent (w : World) : (w.alloc (.cells #[] 78)).ownsRow w.heap.size 78 2 (.slice (some ⟨w.heap.size, 0, none⟩) 0 0) 0 [] :=
  ⟨rfl, .inr ⟨w.heap.size, 0, #[], rfl, Nat.le_refl _, heap_alloc_new w _, Nat.le_refl _, Nat.zero_le _, by simp, rfl⟩⟩
theorem infoEvent_p : ∃ i, Try.prog.info? 78 = some i ∧ i.zero = some (.agg #[.int .i64 0, .int .i64 0]) ∧ i.size = 2 ∧ i.bytes ≤ 64 := by
  have h := infoEvent
  cases hh : Try.prog.info? 78 with
  | none => rw [hh] at h; cases h
  | some i =>
    rw [hh] at h
    simp at h
    have h2 := bytesEvent
    rw [hh] at h2
    exact ⟨i, rfl, h.1, h.2, by simpa using h2⟩
theorem OCEvent.lit1 (w : World) (e : EventR) : OCEvent (w.alloc (.cells #[.int .i64 e.f0, .int .i64 e.f1] 78)) w.heap.size 1 1 [e] := by
  refine ⟨_, Blk.new w _ _, Nat.le_refl _, by unfold maxLen; omega, rfl, rfl, fun t ht => ?_⟩
  obtain rfl : t = 0 := by omega
  exact ⟨rfl, rfl⟩
theorem OCEvent.lit0 (w : World) : OCEvent (w.alloc (.cells #[] 78)) w.heap.size 0 0 [] := ⟨_, Blk.new w _ _, Nat.le_refl _, by unfold maxLen; omega, rfl, rfl, fun t ht => absurd ht (Nat.not_lt_zero _)⟩
end Go.Proofs.Ytmcfghklfkmfkaa
