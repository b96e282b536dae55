/- Rows of numbers of the call's own, each with a capacity, in a row of its own; their marking. -/
import Derived.Test.YtmkfnhgaiheckaaSS
import Derived.Test.YtmkfnhgaiheckaaOwnM
import Derived.Test.YtmkfnhgaiheckaaOwnC
import Derived.Test.YtmkfnhgaiheckaaApp
namespace Go.Proofs.Ytmkfnhgaiheckaa
open Go.ChangeShapes Go.WideShapes Go.ChangeAt Go.RowKit
set_option linter.unusedVariables false
set_option linter.unusedSimpArgs false
set_option maxHeartbeats 2000000

theorem wpList_app4 {P : Program} {ops : Array Oper} {rest : List Oper} {o : Oper} {a : Act} {Q : Exit → Act → World → Prop} (w0 : World) (hgd : o.guard = none) (s x : Operand) (t : TypeId)
    (ho : o.op = .call { callee := .builtin .append, args := #[s, x], argTypes := #[t, t] })
    (base : Nat) (e : TypeId) (i : TypeInfo) (z : Value) (bytes : Nat) (ht : P.underlying t = some (.slice e)) (hi : P.info? e = some i) (hz : i.zero = some z)
    (hsize : i.size = 1) (hby : i.bytes = bytes) (hzs : z.cells.size = 1) (hbm : bytes ≤ 64)
    (v : Value) (n : Nat) (xs : List Value) (hs : a.eval s = v) (hown : w0.ownsRow base e 1 v n xs)
    (y : Value) (gx : Nat) (hgx : w0.heap.size = gx) (hx : a.eval x = .slice (some ⟨gx, 0, none⟩) 1 1) (hy : y.oneCell' = true) (h63 : n + 1 ≤ 1000000) (hbase : base ≤ w0.heap.size)
    (h : ∀ v' w', w'.ownsRow base e 1 v' (n + 1) (xs ++ [y]) → w0.grownBy w' v.ownBlock → wpList P ops Q rest (a.put o.dst v') w') :
    wpList P ops Q (o :: rest) a (w0.alloc (.cells #[y] e)) := by
  subst hgx
  have hnews : ∀ (j : Nat) u, [y][j]? = some u → (w0.alloc (.cells #[y] e)).cell? ((⟨w0.heap.size, 0, none⟩ : Addr).add j) = some u := by
    intro j u hu
    obtain rfl : j = 0 := by
      have := (List.getElem?_eq_some_iff.1 hu).1
      simp at this; omega
    have hk := Blk.new w0 e #[y]
    rw [Addr.add_lit, Nat.zero_add, hk.cell]
    simpa using hu
  have h1 : ∀ u ∈ [y], u.oneCell' = true := by intro u hu; simp at hu; subst hu; exact hy
  have hbb : (n + 1) * bytes ≤ 140737488355328 := by
    have := Nat.mul_le_mul h63 hbm
    omega
  refine wpList_append_own _ hgd s x t ho base e i z 1 bytes ht hi hz hsize hby hzs Nat.one_pos v n xs hs (hown.alloc _) ⟨w0.heap.size, 0, none⟩ 1 1 [y] hx rfl hnews h1 (by unfold maxLen; simp; omega) (by simpa using hbb) (by simp; omega) fun v' w' h2 h3 _ => ?_
  exact h v' w' h2 ⟨h3.os, h3.tape, h3.output, Nat.le_trans (by simp) h3.size, fun i hi hne => (h3.block i (by simp; omega) hne).trans (Below.heap_alloc w0 _ i hi)⟩
theorem infoSSb : (Try.prog.info? 43).map (fun i => (i.zero, i.size, i.bytes)) = some (some (.slice none 0 0), 1, 24) := by kernel_rfl
abbrev rlen (xs : List IntSR) (t : Nat) : Nat := (xs.getD t []).length
/-- a row of rows, each in a block of its own -/
def RowsP (w : World) (B : Nat) (v : Value) (n : Nat) (xs : List IntSR) (vs : List Value) (G C : Nat → Nat) : Prop :=
  w.ownsRow B 43 1 v n vs ∧ xs.length = n ∧ (∀ t, t < n → vs[t]? = some (.slice (some ⟨G t, 0, none⟩) (rlen xs t) (C t)) ∧ B ≤ G t ∧ rlen xs t ≤ 1000000 ∧ OwnC w (G t) (rlen xs t) (C t) (xs.getD t [])) ∧ ∀ t u, t < u → u < n → G t < G u
def RowsC (w : World) (B : Nat) (v : Value) (n : Nat) (xs : List IntSR) : Prop := ∃ (vs : List Value) (G C : Nat → Nat), RowsP w B v n xs vs G C
theorem RowsP.step {w w' : World} {B n : Nat} {v : Value} {xs : List IntSR} {vs : List Value} {G C : Nat → Nat} (h : RowsP w B v n xs vs G C) (hb : Below w.heap.size w w') : RowsP w' B v n xs vs G C :=
  ⟨own_step h.1 hb, h.2.1, fun t ht => ⟨(h.2.2.1 t ht).1, (h.2.2.1 t ht).2.1, (h.2.2.1 t ht).2.2.1, (h.2.2.1 t ht).2.2.2.step hb⟩, h.2.2.2⟩
theorem RowsC.step {w w' : World} {B n : Nat} {v : Value} {xs : List IntSR} (h : RowsC w B v n xs) (hb : Below w.heap.size w w') : RowsC w' B v n xs := by
  obtain ⟨vs, G, C, h⟩ := h
  exact ⟨vs, G, C, h.step hb⟩
theorem RowsC.drew {w : World} {B n : Nat} {v : Value} {xs : List IntSR} (h : RowsC w B v n xs) : RowsC w.drew B v n xs := h.step (Below.refl _ w).drew
theorem RowsC.alloc {w : World} {B n : Nat} {v : Value} {xs : List IntSR} (h : RowsC w B v n xs) (o : Obj) : RowsC (w.alloc o) B v n xs := h.step ((Below.refl _ w).alloc (Nat.le_refl _) o)
theorem RowsC.base {w : World} {B B' n : Nat} {v : Value} {xs : List IntSR} (h : RowsC w B v n xs) (hB : B' ≤ B) : RowsC w B' v n xs := by
  obtain ⟨vs, G, C, h1, h2, h3, h4⟩ := h
  exact ⟨vs, G, C, own_base h1 hB, h2, fun t ht => ⟨(h3 t ht).1, Nat.le_trans hB (h3 t ht).2.1, (h3 t ht).2.2⟩, h4⟩
theorem RowsC.nil (w : World) (B : Nat) : RowsC w B (.slice none 0 0) 0 [] := ⟨[], fun _ => 0, fun _ => 0, ⟨rfl, .inl ⟨rfl, rfl⟩⟩, rfl, fun t ht => absurd ht (Nat.not_lt_zero _), fun t u _ h => absurd h (Nat.not_lt_zero _)⟩
theorem RowsC.new (w : World) (B : Nat) (hB : B ≤ w.heap.size) : RowsC (w.alloc (.cells #[] 43)) B (.slice (some ⟨w.heap.size, 0, none⟩) 0 0) 0 [] :=
  ⟨[], fun _ => 0, fun _ => 0, ⟨by simp, .inr ⟨w.heap.size, 0, #[], rfl, hB, heap_alloc_new w _, Nat.le_refl _, Nat.zero_le _, by simp, by simp⟩⟩, rfl, fun t ht => absurd ht (Nat.not_lt_zero _), fun t u _ h => absurd h (Nat.not_lt_zero _)⟩
theorem own_formG {w : World} {B n : Nat} {e : TypeId} {v : Value} {xs : List Value} (h : w.ownsRow B e 1 v n xs) : (v = .slice none 0 0 ∧ n = 0) ∨ ∃ g c cur, v = .slice (some ⟨g, 0, none⟩) n c ∧ B ≤ g ∧ Blk w g e cur ∧ n ≤ c ∧ c ≤ maxLen := by
  rcases h.2 with ⟨e1, e2⟩ | ⟨g, cap, cur, hv, hg, hh, h1, h2, _⟩
  · left
    subst e2
    exact ⟨e1, rfl⟩
  · exact .inr ⟨g, cap, cur, hv, hg, hh, h1, h2⟩
theorem RowsC.shape {w : World} {B n : Nat} {v : Value} {xs : List IntSR} (h : RowsC w B v n xs) : ∃ A c, v = .slice A n c ∧ n ≤ c ∧ c ≤ maxLen := by
  obtain ⟨vs, G, C, h1, _⟩ := h
  rcases own_formG h1 with ⟨rfl, rfl⟩ | ⟨g, c, cur, rfl, _, _, a, b⟩
  · exact ⟨none, 0, rfl, Nat.le_refl _, Nat.zero_le _⟩
  · exact ⟨_, c, rfl, a, b⟩
theorem ownC_cap {w : World} {g n c : Nat} {xs : List Int} (h : OwnC w g n c xs) : n ≤ c ∧ c ≤ maxLen := by
  rcases h.2 with ⟨hn, _⟩ | ⟨g2, cap, cur, hv, hg, hx, a, b, _⟩
  · cases hn
  · injection hv with _ _ e3
    subst e3
    exact ⟨a, b⟩
theorem RowsC.reads {w : World} {B n c : Nat} {A : Option Addr} {xs : List IntSR} (h : RowsC w B (.slice A n c) n xs) : ReadsIntS w A n xs := by
  obtain ⟨vs, G, C, h1, h2, h3, h4⟩ := h
  refine ⟨h2, fun k hk => ?_⟩
  rcases own_formG h1 with ⟨_, rfl⟩ | ⟨g, c', cur, hv, _⟩
  · omega
  · injection hv with e1 _ _
    subst e1
    obtain ⟨a1, a2, a3, a4⟩ := h3 k hk
    refine ⟨_, rfl, some ⟨G k, 0, none⟩, C k, ?_, (ownC_cap a4).1, (ownC_cap a4).2, a4.reads⟩
    rw [Addr.add_lit, Nat.zero_add, h1.cellAt k (by omega)]
    exact a1
theorem ownC_lit2 (w : World) (a b : Int) : OwnC (w.alloc (.cells #[.int .i64 a, .int .i64 b] 3)) w.heap.size 2 2 [a, b] :=
  ⟨rfl, .inr ⟨w.heap.size, 2, _, rfl, Nat.le_refl _, heap_alloc_new w _, Nat.le_refl _, by unfold maxLen; omega, by simp, by simp [iv]⟩⟩
theorem ownC_only {w w' : World} {g n c : Nat} {xs : List Int} {j : Option Nat} (h : OwnC w g n c xs) (hb : w.grownBy w' j) (hne : ∀ i, j = some i → g ≠ i) : OwnC w' g n c xs := by
  cases j with
  | none => exact h.only (grown_some (g := g + 1) hb) (by omega)
  | some i => exact h.only hb (hne i rfl)
theorem RowsP.lt {w : World} {B n : Nat} {v : Value} {xs : List IntSR} {vs : List Value} {G C : Nat → Nat} (h : RowsP w B v n xs vs G C) : ∀ t, t < n → G t < w.heap.size := fun t ht => (h.2.2.1 t ht).2.2.2.lt
def lenR (xs : List IntSR) : Nat → Nat
  | 0 => 0
  | k + 1 => lenR xs k + (xs.getD k []).length
theorem lenR_mono (xs : List IntSR) (a b : Nat) (h : a ≤ b) : lenR xs a ≤ lenR xs b := by
  induction b with
  | zero => rw [show a = 0 by omega]; exact Nat.le_refl _
  | succ b ih =>
    by_cases e : a = b + 1
    · subst e; exact Nat.le_refl _
    · have := ih (by omega)
      rw [lenR]; omega
theorem OwnC.same {w w' : World} {g n c : Nat} {xs : List Int} (h : OwnC w g n c xs) (hh : w'.heap[g]? = w.heap[g]?) : OwnC w' g n c xs := by
  refine ⟨h.1, ?_⟩
  rcases h.2 with ⟨hn, _⟩ | ⟨g2, cap, cur, hv, hg, hx, rest⟩
  · cases hn
  · injection hv with e1 _ e3
    injection e1 with e1
    injection e1 with e1
    subst e1 e3
    exact .inr ⟨g, c, cur, rfl, hg, hh.trans hx, rest⟩
theorem RowsC.keep {w w' : World} {B hi n : Nat} {v : Value} {xs : List IntSR} (h : RowsC w B v n xs) (hb : ∀ i, hi ≤ i → i < w.heap.size → w'.heap[i]? = w.heap[i]?) (hB : hi ≤ B) : RowsC w' B v n xs := by
  obtain ⟨vs, G, C, h1, h2, h3, h4⟩ := h
  refine ⟨vs, G, C, ⟨h1.1, ?_⟩, h2, fun t ht => ?_, h4⟩
  · rcases h1.2 with hn | ⟨g, cap, cur, rfl, hg, hx, rest⟩
    · exact .inl hn
    · have hl : g < w.heap.size := Blk.lt (show Blk w g _ cur from hx)
      exact .inr ⟨g, cap, cur, rfl, hg, (hb g (by omega) hl).trans hx, rest⟩
  · obtain ⟨a1, a2, a3, a4⟩ := h3 t ht
    exact ⟨a1, a2, a3, a4.same (hb _ (by omega) a4.lt)⟩
/-- the rows' marks -/
def marksSS (k : Nat) (xs : List IntSR) (n : Nat) : List IntSR := (List.range n).map fun t => marksI (k + lenR xs t) (rlen xs t)
theorem marksSS_len (k n : Nat) (xs : List IntSR) : (marksSS k xs n).length = n := by simp [marksSS]
theorem marksSS_at (k n t : Nat) (xs : List IntSR) (h : t < n) : (marksSS k xs n).getD t [] = marksI (k + lenR xs t) (rlen xs t) := by simp [marksSS, h]
/-- the first j rows bear their marks -/
def MarkedTo (w : World) (B : Nat) (n : Nat) (xs : List IntSR) (k : Nat) (G C : Nat → Nat) (j : Nat) : Prop :=
  ∀ t, t < n → OwnC w (G t) (rlen xs t) (C t) (if t < j then marksI (k + lenR xs t) (rlen xs t) else xs.getD t [])
set_option maxHeartbeats 4000000 in
theorem markRows_c (A : Option Addr) (n c k B : Nat) (xs : List IntSR) (w : World) (hn : n ≤ 100000) (hk : k ≤ 1000) (hB : B ≤ w.heap.size) (ht : lenR xs n ≤ 1000000) (h : RowsC w B (.slice A n c) n xs) :
    Calls Try.prog 22 #[.slice A n c, .int .i64 (k : Int)] w (fun e w' => e = .returned (.int .i64 ((k + lenR xs n : Nat) : Int)) ∧ RowsC w' B (.slice A n c) n (marksSS k xs n) ∧ Below B w w') := by
  obtain ⟨vs, G, C, h1, h2, h3, h4⟩ := h
  have H3 := Lib.hid h3
  have H4 := Lib.hid h4
  have HT := Lib.hid (fun j (hj : j ≤ n) => lenR_mono xs j n hj)
  have hm0 : MarkedTo w B n xs k G C 0 := fun t ht => by rw [if_neg (by omega)]; exact (h3 t ht).2.2.2
  have H1 := Lib.hid h1
  have H2 := Lib.hid h2
  clear h3 h4 h1 h2
  go_enter Try.func22, Try.ntmps22
  go_wp2
  go_loopw [1, 5] (fun q i wr => ∃ j : Nat, j ≤ n ∧ i = .int .i64 j ∧ q = .int .i64 ((k + lenR xs j : Nat) : Int) ∧ wr.ownsRow B 43 1 (.slice A n c) n vs ∧ MarkedTo wr B n xs k G C j ∧ Below B w wr) (fun _ i _ => n - (intOf i).toNat)
  case atStart => exact ⟨0, Nat.zero_le _, rfl, rfl, H1.out, hm0, Below.refl _ _⟩
  case round =>
    clear hm0
    obtain ⟨j, hj, rfl, rfl, hK, hR, hS⟩ := hrel
    by_cases hlt : j < n
    · have hm := HT.out (j + 1) (by omega)
      have hU : lenR xs (j + 1) = lenR xs j + rlen xs j := rfl
      obtain ⟨hcj, hgj, hlj, _⟩ := H3.out j hlt
      rcases own_formG hK with ⟨_, rfl⟩ | ⟨g, c', cur, hv, hg, hblk, _⟩
      · omega
      injection hv with e1 _ e3
      subst e1 e3
      have ck : wr.cell? ⟨g, j, none⟩ = some (.slice (some ⟨G j, 0, none⟩) (rlen xs j) (C j)) := by rw [hK.cellAt j (by omega)]; exact hcj
      have hRj := hR j hlt
      rw [if_neg (by omega)] at hRj
      have hngj : ∀ t, t < n → G t ≠ g := fun t ht => (hR t ht).ne hblk (by decide)
      have HM := Lib.hid (markC_c (G j) (rlen xs j) (C j) (k + lenR xs j) (xs.getD j []) wr (by omega) (by omega) hRj)
      have HK : Hid (∀ w2, wr.grownBy w2 (some (G j)) → w2.ownsRow B 43 1 (.slice (some ⟨g, 0, none⟩) n c) n vs) := Lib.hid fun w2 hb2 => by
        refine ⟨hK.1, ?_⟩
        rcases hK.2 with ⟨hn', _⟩ | ⟨g2, cap, cur2, hv2, hg2, hh2, rest⟩
        · cases hn'
        · injection hv2 with e1 _ e3
          injection e1 with e1
          injection e1 with e1
          subst e1 e3
          exact .inr ⟨g, c, cur2, rfl, hg2, (hb2.block g hblk.lt (fun e => by injection e with e; exact hngj j hlt e.symm)).trans hh2, rest⟩
      have HMT : Hid (∀ w2, wr.grownBy w2 (some (G j)) → OwnC w2 (G j) (rlen xs j) (C j) (marksI (k + lenR xs j) (rlen xs j)) → MarkedTo w2 B n xs k G C (j + 1)) := Lib.hid fun w2 hb2 ho2 t ht => by
        by_cases e : t = j
        · subst e; rw [if_pos (by omega)]; exact ho2
        · have := hR t ht
          have hne : G t ≠ G j := by
            rcases Nat.lt_or_gt_of_ne e with e2 | e2
            · have := H4.out t j e2 hlt; omega
            · have := H4.out j t e2 ht; omega
          have e3 : (if t < j + 1 then marksI (k + lenR xs t) (rlen xs t) else xs.getD t []) = (if t < j then marksI (k + lenR xs t) (rlen xs t) else xs.getD t []) := by
            by_cases e4 : t < j
            · rw [if_pos e4, if_pos (by omega)]
            · rw [if_neg e4, if_neg (by omega)]
          rw [e3]
          exact this.only hb2 hne
      rw [hU] at hm
      have HU := Lib.hid hU
      have HBB : Hid (∀ w2, wr.grownBy w2 (some (G j)) → Below B w w2) := Lib.hid fun w2 hb2 => hS.grown hb2 (Nat.le_trans hB hS.size) (fun i hi => by injection hi with hi; omega)
      clear hR hK hcj hU hS hRj hngj hblk
      generalize hmm : rlen xs j = m at *
      generalize lenR xs j = L at *
      go_wp2_with fail
      refine HM.out.mono ?_
      rintro _ w2 ⟨rfl, ho2, hb2⟩
      have hk2 := HK.out w2 hb2
      have hm2 := HMT.out w2 hb2 ho2
      have hs2 := HBB.out w2 hb2
      clear HM HK HMT HBB ho2 hb2
      go_wp2
      go_roundw
      case rel => exact ⟨j + 1, by omega, by go_num, v_int (by rw [HU.out]; omega), hk2, hm2, hs2⟩
      case measure => simp [intOf]; omega
    · obtain rfl : j = n := by omega
      have HR := Lib.hid hR
      have HK := Lib.hid hK
      clear hR hK
      go_wp2
      go_ret
      refine ⟨rfl, ⟨vs, G, C, HK.out, marksSS_len _ _ _, fun t ht => ?_, H4.out⟩, hS⟩
      have h9 := HR.out t ht
      rw [if_pos ht] at h9
      obtain ⟨a1, a2, a3, _⟩ := H3.out t ht
      have e2 : rlen (marksSS k xs j) t = rlen xs t := by rw [rlen, marksSS_at _ _ _ _ ht, marksI_len]
      rw [e2, marksSS_at _ _ _ _ ht]
      exact ⟨a1, a2, a3, h9⟩
set_option maxHeartbeats 4000000 in
theorem heldRows_c (A : Option Addr) (n c k : Nat) (xs : List IntSR) (w : World) (hn : n ≤ 100000) (hk : k ≤ 1000) (ht : lenR xs n ≤ 1000000) (hx : ReadsIntS w A n (marksSS k xs n)) :
    Calls Try.prog 23 #[.slice A n c, .int .i64 (k : Int)] w (Val (.int .i64 ((k + lenR xs n : Nat) : Int)) w) := by
  have HT := Lib.hid (fun j (hj : j ≤ n) => lenR_mono xs j n hj)
  go_enter Try.func23, Try.ntmps23
  go_wp2
  go_loopw [1, 5] (fun q i wr => ∃ j : Nat, j ≤ n ∧ i = .int .i64 j ∧ q = .int .i64 ((k + lenR xs j : Nat) : Int) ∧ In w.heap.size w wr) (fun _ i _ => n - (intOf i).toNat)
  case atStart => exact ⟨0, Nat.zero_le _, rfl, rfl, by (repeat (first | exact In.refl _ | assumption | apply In.alloc | apply In.drewN | apply In.drew | (refine In.step ?_ (by assumption))))⟩
  case round =>
    obtain ⟨j, hj, rfl, rfl, hi⟩ := hrel
    by_cases hlt : j < n
    · have hm := HT.out (j + 1) (by omega)
      have hU : lenR xs (j + 1) = lenR xs j + rlen xs j := rfl
      rw [hU] at hm
      have HU := Lib.hid hU
      obtain ⟨ad, rfl, D, d, hc, hd1, hd2, hr⟩ := (hx.in_ hi).2 j hlt
      have e1 := marksSS_at k n j xs hlt
      rw [e1] at hc hd1 hr
      rw [marksI_len] at hc hd1 hr
      have HH := Lib.hid (heldI_c D (rlen xs j) d (k + lenR xs j))
      have HR := Lib.hid hr
      clear hr e1 hU
      generalize rlen xs j = m at *
      generalize lenR xs j = L at *
      obtain ⟨T, hT⟩ : ∃ T : Int, ((k + L + m : Nat) : Int) = T := ⟨_, rfl⟩
      have hge : 0 ≤ T := by omega
      have HTT := Lib.hid hT
      rw [hT] at HH
      clear hT
      go_wp2_with fail
      refine (HH.out _ (by omega) (by omega) HR.out).mono ?_
      rintro _ w2 ⟨rfl, hb2⟩
      go_wp2
      go_roundw
      case rel => exact ⟨j + 1, by omega, by go_num, v_int (by rw [HU.out]; have := HTT.out; omega), by (repeat (first | exact In.refl _ | assumption | apply In.alloc | apply In.drewN | apply In.drew | (refine In.step ?_ (by assumption))))⟩
      case measure => simp [intOf]; omega
    · obtain rfl : j = n := by omega
      go_wp2
      go_ret
      exact Val.mk' rfl (by (repeat (first | exact In.refl _ | assumption | apply In.alloc | apply In.drewN | apply In.drew | (refine In.step ?_ (by assumption)))))
end Go.Proofs.Ytmkfnhgaiheckaa
