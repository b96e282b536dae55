/- Chapter 22: MostShifts: the order of the ends. -/
import Derived.Test.YthndjpklfgcpmaaS22
import Derived.Laws.CopyRow
namespace Go.Proofs.Ythndjpklfgcpmaa
open Go.ChangeShapes Go.WideShapes Go.ChangeAt Go.RowKit
set_option linter.unusedVariables false
set_option linter.unusedSimpArgs false
set_option maxHeartbeats 2000000

/-- the shifts' cells -/
def csL (xs : List ShiftR) (n : Nat) : List Value := (List.range (n * 2)).map fun j => .int .i64 (if j % 2 = 0 then (xs.getD (j / 2) z22).f0 else (xs.getD (j / 2) z22).f1)
theorem csL_len (xs : List ShiftR) (n : Nat) : (csL xs n).length = n * 2 := by simp [csL]
theorem csL_at {xs : List ShiftR} {n i : Nat} (hi : i < n) : (csL xs n)[i * 2]? = some (.int .i64 (xs.getD i z22).f0) ∧ (csL xs n)[i * 2 + 1]? = some (.int .i64 (xs.getD i z22).f1) := by
  constructor
  · rw [csL, List.getElem?_map, List.getElem?_range (by omega)]
    simp only [Option.map_some]
    rw [if_pos (by omega), show i * 2 / 2 = i by omega]
  · rw [csL, List.getElem?_map, List.getElem?_range (by omega)]
    simp only [Option.map_some]
    rw [if_neg (by omega), show (i * 2 + 1) / 2 = i by omega]
theorem add_spot {a : Addr} (h : a.spot = none) (k : Nat) : a.add k = ⟨a.block, a.off + k, none⟩ := by
  cases a with
  | mk b o s =>
    simp only at h
    subst h
    rw [Addr.add_lit]
theorem run_copyShift {P : Program} (w : World) (dT sT ty elem : TypeId) (g n : Nat) (A : Option Addr) (c : Nat) (cur : Array Value) (t : TypeId) (xs : List ShiftR) (hu : P.underlying dT = some (.slice elem)) (hs : (P.info? elem).map (·.size) = some 2)
    (hg : Blk w g t cur) (hcs : cur.size = n * 2) (hx : ReadsShift w A n xs) (hA : ∀ ad, A = some ad → ad.spot = none) :
    (Builtin.copy_ #[dT, sT] ty #[.slice (some ⟨g, 0, none⟩) n n, .slice A n c]).run P w = .ok (goInt n) (w.setRow g (csL xs n).toArray) := by
  have hmin : Nat.min n n = n := Nat.min_self n
  have h1 : ∀ v ∈ csL xs n, v.oneCell' = true := by
    intro v hv
    simp only [csL, List.mem_map] at hv
    obtain ⟨j, _, rfl⟩ := hv
    rfl
  cases hq : P.info? elem with
  | none => simp [hq] at hs
  | some i =>
    have hi : i.size = 2 := by simpa [hq] using hs
    cases A with
    | none =>
      have hn0 : n = 0 := by
        by_cases e : n = 0
        · exact e
        · obtain ⟨ad, h, _⟩ := hx.2 0 (by omega)
          cases h
      subst hn0
      have hc0 : cur = #[] := by apply Array.eq_empty_of_size_eq_zero; omega
      subst hc0
      have hsr : w.setRow g (csL xs 0).toArray = w := setRow_self w g #[] t (0, 0) hg
      rw [hsr]
      simp [Builtin.copy_, run_underlying hu, Builtin.lenOf, Builtin.firstCells, sizeOf, typeInfo, hq, storeCells]
    | some a =>
      have hsp := hA a rfl
      have hsrc : ∀ j v, (csL xs n)[j]? = some v → w.cell? (a.add j) = some v := fun j v hj => by
        have hjl : j < n * 2 := by have := (List.getElem?_eq_some_iff.1 hj).1; rw [csL_len] at this; exact this
        obtain ⟨ad, had, c0, c1⟩ := hx.2 (j / 2) (by omega)
        injection had with had
        subst had
        rw [add_spot hsp] at c0 c1 ⊢
        obtain ⟨e0, e1⟩ := csL_at (xs := xs) (n := n) (i := j / 2) (by omega)
        by_cases hp : j % 2 = 0
        · rw [show j / 2 * 2 = j by omega] at c0 e0
          rw [e0] at hj
          exact c0.trans hj
        · rw [show j / 2 * 2 + 1 = j by omega] at e1
          simp only [Nat.add_assoc] at c1
          rw [show j / 2 * 2 + 1 = j by omega] at c1
          rw [e1] at hj
          exact c1.trans hj
      have hl := run_loadCells_list (P := P) w a (csL xs n) hsrc
      have hst := run_storeCells_at P g 0 t (csL xs n) 0 cur w hg (by rw [csL_len]; omega) h1
      rw [csL_len] at hl hst
      have htk : (cur.toList.take (0 + 0) ++ csL xs n ++ cur.toList.drop (0 + 0 + n * 2)).toArray = (csL xs n).toArray := by
        rw [List.drop_eq_nil_of_le (by simp; omega)]
        simp
      rw [htk] at hst
      simp [Builtin.copy_, run_underlying hu, Builtin.lenOf, Builtin.firstCells, sizeOf, typeInfo, hq, hi, hl, hst]
/-- the operation copy, its run known -/
theorem wpList_copyS {P : Program} (w : World) {ops : Array Oper} {rest : List Oper} {o : Oper} {a : Act} {Q : Exit → Act → World → Prop} (hgd : o.guard = none) (d s : Operand) (t t' : TypeId)
    (ho : o.op = .call { callee := .builtin .copy, args := #[d, s], argTypes := #[t, t'] }) (v u : Value) (hd : a.eval d = v) (hs : a.eval s = u) {v' : Value} {w' : World}
    (hr : (Builtin.copy_ #[t, t'] o.type #[v, u]).run P w = .ok v' w') (h : wpList P ops Q rest (a.put o.dst v') w') : wpList P ops Q (o :: rest) a w :=
  wpList_plain hgd fun K hK => by
    unfold Oper.wp execOp
    simp only [ho, resolve, invoke, builtin, Sem.run_bind, Sem.run_pure, Result.andThen_ok, List.map_toArray, List.map_cons, List.map_nil, hd, hs, hr]
    exact hK _ _ h
/-- block g holds what is left behind t finds -/
def LfAt (w : World) (g n : Nat) (xs : List ShiftR) (t : Nat) : Prop := ∃ cur : Array Value, Blk w g 41 cur ∧ cur.size = n * 2 ∧ ∀ i, i < n → cur[i * 2]? = some (.int .i64 (xs.getD i z22).f0) ∧ cur[i * 2 + 1]? = some (.int .i64 (lf xs n t i))
section
variable {w w' : World} {g n t : Nat} {xs : List ShiftR}
theorem LfAt.cell0 (h : LfAt w g n xs t) {i : Nat} (hi : i < n) : w.cell? ⟨g, i * 2, none⟩ = some (.int .i64 (xs.getD i z22).f0) := by
  obtain ⟨cur, hb, hs, hc⟩ := h
  rw [hb.cell]; exact (hc i hi).1
theorem LfAt.cell1 (h : LfAt w g n xs t) {i : Nat} (hi : i < n) : w.cell? ⟨g, i * 2 + 1, none⟩ = some (.int .i64 (lf xs n t i)) := by
  obtain ⟨cur, hb, hs, hc⟩ := h
  rw [hb.cell]; exact (hc i hi).2
theorem LfAt.free (h : LfAt w g n xs t) (i : Nat) : w.frozen? ⟨g, i, none⟩ = false := by
  obtain ⟨cur, hb, _⟩ := h
  exact hb.frozen i
theorem LfAt.lt (h : LfAt w g n xs t) : g < w.heap.size := by
  obtain ⟨cur, hb, _⟩ := h
  exact hb.lt
theorem LfAt.step (h : LfAt w g n xs t) (hb : Below w.heap.size w w') : LfAt w' g n xs t := by
  obtain ⟨cur, hk, r⟩ := h
  exact ⟨cur, hk.step hb, r⟩
theorem LfAt.far (h : LfAt w g n xs t) {p : Addr} (hp : g ≠ p.block) (u : Value) : LfAt (w.setCell p u) g n xs t := by
  obtain ⟨cur, hk, r⟩ := h
  exact ⟨cur, hk.far hp u, r⟩
theorem LfAt.next (h : LfAt w g n xs t) : LfAt (w.setCell ⟨g, od xs n t * 2 + 1, none⟩ (.int .i64 180)) g n xs (t + 1) := by
  obtain ⟨cur, hk, hs, hc⟩ := h
  refine ⟨_, hk.set_ _ _, by simp; exact hs, fun i hi => ?_⟩
  rw [Array.getElem?_setIfInBounds, Array.getElem?_setIfInBounds]
  rw [if_neg (by omega)]
  refine ⟨(hc i hi).1, ?_⟩
  rw [lf_s]
  by_cases e : i = od xs n t
  · rw [if_pos (by omega), if_pos (by omega), if_pos e]
  · rw [if_neg (by omega), if_neg e]; exact (hc i hi).2
end
theorem OwnInt.put2 {w : World} {g n b : Nat} {ps : List Int} (h : OwnInt w g n ps) (v : Int) : OwnInt (w.setCell ⟨g, b, none⟩ (.int .i64 v)) g n (ps.set b v) := by
  have h1 := (World.ownsRow.stored h b (.int .i64 v)).1
  rw [← iv_set] at h1
  exact h1
theorem OwnInt.cell2 {w : World} {g n b : Nat} {ps : List Int} (h : OwnInt w g n ps) (hb : b < n) : w.cell? ⟨g, b, none⟩ = some (.int .i64 (ps.getD b 0)) := by
  obtain ⟨ad, ha, hc⟩ := h.reads.2 b hb
  injection ha with ha
  subst ha
  rw [Addr.add_lit, Nat.zero_add] at hc
  exact hc
theorem OwnInt.free2 {w : World} {g n b : Nat} {ps : List Int} (h : OwnInt w g n ps) : w.frozen? ⟨g, b, none⟩ = false := World.ownsRow.frozenAt h b
theorem OwnInt.far2 {w : World} {g n g' j : Nat} {u : Value} {ps : List Int} (h : OwnInt w g n ps) (hne : g ≠ g') : OwnInt (w.setCell ⟨g', j, none⟩ u) g n ps := h.only (only_set ⟨g', j, none⟩ u) hne
/-- the order so far: t found, at t the best of the first k -/
def OrdK (xs : List ShiftR) (n t : Nat) (a : Nat) (ys : List Int) : Prop := ys.length = n ∧ (∀ s, s < t → s < n → ys.getD s 0 = (od xs n s : Int)) ∧ ys.getD t 0 = (a : Int) ∧ ∀ s, t < s → s < n → ys.getD s 0 = 0
theorem OrdK.set {xs : List ShiftR} {n t a b : Nat} {ys : List Int} (h : OrdK xs n t a ys) (ht : t < n) : OrdK xs n t b (ys.set t (b : Int)) := by
  obtain ⟨h1, h2, h3, h4⟩ := h
  refine ⟨by simp [h1], fun s hs hn => ?_, ?_, fun s hs hn => ?_⟩
  · rw [← h2 s hs hn]; simp [List.getD_eq_getElem?_getD, List.getElem?_set, show ¬ t = s by omega]
  · simp [List.getD_eq_getElem?_getD, List.getElem?_set, h1, ht]
  · refine Eq.trans ?_ (h4 s hs hn); simp [List.getD_eq_getElem?_getD, List.getElem?_set, show ¬ t = s by omega]
theorem OrdK.next {xs : List ShiftR} {n t : Nat} {ys : List Int} (h : OrdK xs n t (od xs n t) ys) (ht : t + 1 < n) : OrdK xs n (t + 1) 0 ys := by
  obtain ⟨h1, h2, h3, h4⟩ := h
  refine ⟨h1, fun s hs hn => ?_, h4 (t + 1) (by omega) ht, fun s hs hn => h4 s (by omega) hn⟩
  by_cases e : s = t
  · subst e; exact h3
  · exact h2 s (by omega) hn
def odL (xs : List ShiftR) (n : Nat) : List Int := (List.range n).map fun s => (od xs n s : Int)
theorem odL_len (xs : List ShiftR) (n : Nat) : (odL xs n).length = n := by simp [odL]
theorem odL_at (xs : List ShiftR) (n s : Nat) (h : s < n) : (odL xs n).getD s 0 = (od xs n s : Int) := by simp [odL, h]
theorem ord_all {xs : List ShiftR} {n : Nat} {ys : List Int} (hl : ys.length = n) (h : ∀ s, s < n → ys.getD s 0 = (od xs n s : Int)) : ys = odL xs n := by
  apply List.ext_getElem (by rw [hl, odL_len])
  intro i h1 h2
  have e1 := h i (by omega)
  have e2 := odL_at xs n i (by omega)
  rw [List.getD_eq_getElem?_getD, List.getElem?_eq_getElem h1] at e1
  rw [List.getD_eq_getElem?_getD, List.getElem?_eq_getElem h2] at e2
  exact e1.trans e2.symm
/-- behind t rounds -/
def OrdT (xs : List ShiftR) (n t : Nat) (ys : List Int) : Prop := ys.length = n ∧ (∀ s, s < t → s < n → ys.getD s 0 = (od xs n s : Int)) ∧ ∀ s, t ≤ s → s < n → ys.getD s 0 = 0
theorem OrdT.open_ {xs : List ShiftR} {n t : Nat} {ys : List Int} (h : OrdT xs n t ys) (ht : t < n) : OrdK xs n t 0 ys := ⟨h.1, h.2.1, h.2.2 t (Nat.le_refl _) ht, fun s hs hn => h.2.2 s (by omega) hn⟩
theorem OrdK.shut {xs : List ShiftR} {n t : Nat} {ys : List Int} (h : OrdK xs n t (od xs n t) ys) : OrdT xs n (t + 1) ys := by
  obtain ⟨h1, h2, h3, h4⟩ := h
  refine ⟨h1, fun s hs hn => ?_, fun s hs hn => h4 s (by omega) hn⟩
  by_cases e : s = t
  · subst e; exact h3
  · exact h2 s (by omega) hn
theorem infoSh : (Try.prog.info? 41).map (fun i => (i.zero, i.size, i.bytes)) = some (some (.agg #[.int .i64 0, .int .i64 0]), 2, 16) := by kernel_rfl
theorem szSh : (Try.prog.info? 41).map (·.size) = some 2 := by kernel_rfl
set_option maxRecDepth 20000 in
set_option maxHeartbeats 16000000 in
theorem ibyEnd (A : Option Addr) (n c : Nat) (xs : List ShiftR) (w : World) (hn : n ≤ 20) (hA : ∀ ad, A = some ad → ad.spot = none) (hS : ShI xs n) (hx : ReadsShift w A n xs) : Calls Try.prog 64 #[.slice A n c] w (RowB (odL xs n) w) := by
  obtain ⟨i0, hi0, hz0, hz1, hz2⟩ := info_parts infoIm
  obtain ⟨j0, hj0, hy0, hy1, hy2⟩ := info_parts infoSh
  have HX := Lib.hid hx
  have HA := Lib.hid hA
  have HS := Lib.hid hS
  clear hx hA hS
  go_enter Try.func64, Try.ntmps64
  go_wp2_with (at_make; refine wpList_make_full _ rfl (.tmp 9) (.tmp 9) 36 rfl w.heap.size 41 j0 (.agg #[.int .i64 0, .int .i64 0]) 2 Try.underlying36 hj0 hy0 hy1 .i64 .i64 (n : Int) (n : Int) n rfl rfl rfl rfl ?h2 ?h3 ?h4 ?_)
  case h2 => rw [hy2]; omega
  case h3 => unfold maxLen; omega
  case h4 => exact Nat.le_refl _
  intro w1 hown0 hgrow0
  have hb0 : Below w.heap.size w w1 := (Below.refl _ _).grown hgrow0 (Nat.le_refl _) (fun j hj => by cases hj)
  clear hgrow0
  obtain ⟨cur0, hk0, hs0⟩ : ∃ cur : Array Value, Blk w1 w.heap.size 41 cur ∧ cur.size = n * 2 := by
    rcases hown0.2 with ⟨h, _⟩ | ⟨g, cap, cur, h, hg, hh, hnc, hcp, hcs, htake⟩
    · cases h
    · injection h with h1 h2 h3
      injection h1 with h1
      injection h1 with h1
      subst h1 h3
      exact ⟨cur, hh, hcs⟩
  clear hown0
  have hxw1 := HX.out.in_ ⟨hb0, hb0.size⟩
  have HCP := Lib.hid (fun ty => run_copyShift (P := Try.prog) w1 36 36 ty 41 w.heap.size n A c cur0 41 xs Try.underlying36 szSh hk0 hs0 hxw1 HA.out)
  have hk2 : Blk (w1.setRow w.heap.size (csL xs n).toArray) w.heap.size 41 (csL xs n).toArray := setRow_heap w1 _ cur0 _ _ (0, 0) hk0
  have hb2 : Below w.heap.size w (w1.setRow w.heap.size (csL xs n).toArray) := hb0.trans ⟨rfl, rfl, rfl, by simp, fun i hi => setRow_other w1 _ i _ (by omega)⟩
  have hL0 : LfAt (w1.setRow w.heap.size (csL xs n).toArray) w.heap.size n xs 0 := ⟨_, hk2, by simp [csL_len], fun i hi => by simpa [lf] using csL_at (xs := xs) hi⟩
  clear hk2 hk0 hs0 hxw1 hb0
  generalize w1.setRow w.heap.size (csL xs n).toArray = w2 at *
  have hi2 : In w.heap.size w w2 := ⟨hb2, hb2.size⟩
  have hgl := hL0.lt
  clear hb2
  go_wp2_with (first | (refine wpList_copyS _ rfl (.tmp 11) (.tmp 12) 36 36 rfl _ _ rfl rfl (HCP.out _) ?_) | (at_make; refine wpList_make_full _ rfl (.tmp 15) (.tmp 15) 22 rfl w2.heap.size 3 i0 (.int .i64 0) 1 Try.underlying22 hi0 hz0 hz1 .i64 .i64 (n : Int) (n : Int) n rfl rfl rfl rfl ?h2 ?h3 ?h4 ?_))
  case h2 => rw [hz2]; omega
  case h3 => unfold maxLen; omega
  case h4 => exact Nat.le_refl _
  clear HCP
  intro w3 hown0 hgrow0
  have hb3 : Below w2.heap.size w2 w3 := (Below.refl _ _).grown hgrow0 (Nat.le_refl _) (fun j hj => by cases hj)
  have ho0 : OwnInt w3 w2.heap.size n (List.replicate n 0) := by rw [toList_madeCells_one, iv_zeros] at hown0; exact hown0
  have hT0 : OrdT xs n 0 (List.replicate n 0) := ⟨by simp, fun s hs => absurd hs (Nat.not_lt_zero _), fun s _ hs => by simp [List.getD_eq_getElem?_getD, hs]⟩
  have hL3 := hL0.step hb3
  have hi3 := hi2.step hb3
  have hgo : w.heap.size ≤ w2.heap.size := hi2.size
  have hne : w.heap.size ≠ w2.heap.size := by omega
  clear hown0 hgrow0 hb3 hL0 hi2 hgl
  generalize w2.heap.size = go at *
  generalize hgg : w.heap.size = gl at *
  have hgl' : gl ≤ gl := Nat.le_refl _
  go_wp2
  go_loopw [19] (fun i wr => ∃ (t : Nat) (ys : List Int), t ≤ n ∧ i = .int .i64 t ∧ LfAt wr gl n xs t ∧ OwnInt wr go n ys ∧ OrdT xs n t ys ∧ In gl w wr) (fun i _ => n - (intOf i).toNat)
  case atStart => exact ⟨0, _, Nat.zero_le _, rfl, hL3, ho0, hT0, hi3⟩
  case round =>
    clear hL3 ho0 hT0 hi3
    obtain ⟨t, ys, ht, rfl, hL, ho, hT, hi⟩ := hrel
    by_cases hlt : t < n
    · have hK := hT.open_ hlt
      have t1_ : (t : Int) < (n : Int) := by omega
      clear hT
      go_wp2
      go_loopw [24] (fun i wr => ∃ (k : Nat) (ys : List Int), k ≤ n ∧ i = .int .i64 k ∧ LfAt wr gl n xs t ∧ OwnInt wr go n ys ∧ OrdK xs n t (am (lf xs n t) k) ys ∧ In gl w wr) (fun i _ => n - (intOf i).toNat)
      case atStart => exact ⟨0, ys, Nat.zero_le _, rfl, hL, ho, hK, hi⟩
      case round =>
        clear hL ho hK hi
        obtain ⟨k, ys, hk, rfl, hL, ho, hK, hi⟩ := hrel
        by_cases hlt2 : k < n
        · have k1_ : (k : Int) < (n : Int) := by omega
          have ck0 := hL.cell0 hlt2
          have ck1 := hL.cell1 hlt2
          have han : am (lf xs n t) k < n := by
            by_cases e : k = 0
            · subst e; simp only [am]; omega
            · have := am_lt (lf xs n t) k (by omega); omega
          have ct : wr.cell? ⟨go, t, none⟩ = some (.int .i64 (am (lf xs n t) k : Nat)) := by rw [ho.cell2 hlt, hK.2.2.1]
          have ca := hL.cell1 han
          have HAM : Hid (am (lf xs n t) (k + 1) = if lf xs n t k < lf xs n t (am (lf xs n t) k) then k else am (lf xs n t) k) := Lib.hid rfl
          have HK := Lib.hid hK
          have HL := Lib.hid hL
          have HO := Lib.hid ho
          have fo := fun (b : Nat) => ho.free2 (b := b)
          generalize am (lf xs n t) k = a at *
          generalize lf xs n t k = x1 at *
          generalize lf xs n t a = y1 at *
          generalize (xs.getD k z22).f0 = x0 at *
          have a1_ : (a : Int) < (n : Int) := by omega
          have hir : In gl w (wr.alloc (.cells #[.int .i64 x0, .int .i64 x1] 41)) := hi.alloc _
          have hLr : LfAt (wr.alloc (.cells #[.int .i64 x0, .int .i64 x1] 41)) gl n xs t := hL.step ((Below.refl _ wr).alloc (Nat.le_refl _) _)
          have hor : OwnInt (wr.alloc (.cells #[.int .i64 x0, .int .i64 x1] 41)) go n ys := ho.step ((Below.refl _ wr).alloc (Nat.le_refl _) _)
          clear hL ho hi hK
          have kb : Blk (wr.alloc (.cells #[.int .i64 x0, .int .i64 x1] 41)) wr.heap.size 41 #[.int .i64 x0, .int .i64 x1] := Blk.new wr _ _
          have cb1 : (wr.alloc (.cells #[.int .i64 x0, .int .i64 x1] 41)).cell? ⟨wr.heap.size, 1, none⟩ = some (.int .i64 x1) := kb.cell 1
          have ct2 := cell_alloc ct (.cells #[.int .i64 x0, .int .i64 x1] 41)
          have ca2 := cell_alloc ca (.cells #[.int .i64 x0, .int .i64 x1] 41)
          have HLR := Lib.hid hLr
          have HOR := Lib.hid hor
          have HIR := Lib.hid hir
          clear hLr hor hir kb
          by_cases hlt3 : x1 < y1
          · have HE := Lib.hid (HAM.out.trans (if_pos hlt3))
            go_wp2
            generalize wr.alloc (.cells #[.int .i64 x0, .int .i64 x1] 41) = W at *
            go_quiet (fail)
            have fo2 : W.frozen? ⟨go, t, none⟩ = false := HOR.out.free2
            go_wp2
            go_roundw
            case rel => exact ⟨k + 1, ys.set t (k : Int), by omega, by go_num, LfAt.far (HLR.out.step (by (repeat (first | exact Below.refl _ _ | apply below_drewN | apply Below.drew | (refine Below.alloc ?_ (Nat.le_refl _) _))))) (show gl ≠ go by omega) _, OwnInt.put2 (HOR.out.step (by (repeat (first | exact Below.refl _ _ | apply below_drewN | apply Below.drew | (refine Below.alloc ?_ (Nat.le_refl _) _))))) _, by rw [HE.out]; exact HK.out.set hlt, In.set_ (In.step HIR.out (by (repeat (first | exact Below.refl _ _ | apply below_drewN | apply Below.drew | (refine Below.alloc ?_ (Nat.le_refl _) _))))) (p := ⟨go, t, none⟩) hgo _⟩
            case measure => simp [intOf]; omega
          · have HE := Lib.hid (HAM.out.trans (if_neg hlt3))
            have hge3 : y1 ≤ x1 := by omega
            go_wp2
            generalize wr.alloc (.cells #[.int .i64 x0, .int .i64 x1] 41) = W at *
            go_quiet (fail)
            go_wp2
            go_roundw
            case rel => exact ⟨k + 1, ys, by omega, by go_num, HLR.out.step (by (repeat (first | exact Below.refl _ _ | apply below_drewN | apply Below.drew | (refine Below.alloc ?_ (Nat.le_refl _) _)))), HOR.out.step (by (repeat (first | exact Below.refl _ _ | apply below_drewN | apply Below.drew | (refine Below.alloc ?_ (Nat.le_refl _) _)))), by rw [HE.out]; exact HK.out, In.step HIR.out (by (repeat (first | exact Below.refl _ _ | apply below_drewN | apply Below.drew | (refine Below.alloc ?_ (Nat.le_refl _) _))))⟩
            case measure => simp [intOf]; omega
        · obtain rfl : k = n := by omega
          have hod : od xs k t < k := od_lt HS.out hlt
          have ct : wr.cell? ⟨go, t, none⟩ = some (.int .i64 (od xs k t : Nat)) := by rw [ho.cell2 hlt, hK.2.2.1]; rfl
          have co := hL.cell1 hod
          have fo := hL.free (od xs k t * 2 + 1)
          have hL2 := hL.next
          have ho2 := ho.far2 (j := od xs k t * 2 + 1) (u := .int .i64 180) (show go ≠ gl by omega)
          have hT2 := OrdK.shut hK
          have hi2 : In gl w (wr.setCell ⟨gl, od xs k t * 2 + 1, none⟩ (.int .i64 180)) := hi.set_ (p := ⟨gl, od xs k t * 2 + 1, none⟩) hgl' _
          have HL2 := Lib.hid hL2
          have HT2 := Lib.hid hT2
          clear hL ho hK hi hL2 hT2
          have o1_ : ((od xs k t : Nat) : Int) < (k : Int) := by omega
          generalize od xs k t = a at *
          go_wp2
          go_roundw
          case rel => exact ⟨t + 1, ys, by omega, by go_num, HL2.out, ho2, HT2.out, hi2⟩
          case measure => simp [intOf]; omega
    · obtain rfl : t = n := by omega
      have HY := Lib.hid (ord_all hT.1 fun s hs => hT.2.1 s hs hs)
      have hl := hT.1
      have HO := Lib.hid ho
      clear hT ho hL
      go_wp2
      go_ret
      exact rowB_of (by rw [← HY.out]; exact hl) (by rw [← HY.out, hgg]; exact own_base (own_step HO.out (by (repeat (first | exact Below.refl _ _ | apply below_drewN | apply Below.drew | (refine Below.alloc ?_ (Nat.le_refl _) _))))) hgo) (by rw [hgg]; exact In.below (by (repeat (first | exact In.refl _ | assumption | apply In.alloc | apply In.drewN | apply In.drew | (refine In.step ?_ (by assumption))))))
end Go.Proofs.Ythndjpklfgcpmaa
