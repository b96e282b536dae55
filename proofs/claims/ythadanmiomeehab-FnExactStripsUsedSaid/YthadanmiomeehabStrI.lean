/- Chapter 32: StripsUsed of the program: the walk. -/
import Derived.Test.YthadanmiomeehabStr
namespace Go.Proofs.Ythadanmiomeehab
open Go.ChangeShapes Go.WideShapes Go.ChangeAt Go.RowKit
set_option linter.unusedVariables false
set_option linter.unusedSimpArgs false
set_option maxHeartbeats 2000000

theorem set_last (L : List Int) (a b : Int) (M : Nat) (h : L.length = M) : (L ++ [a]).set M b = L ++ [b] := by subst h; simp
theorem own_ge {w : World} {B n : Nat} {v : Value} {xs : List Value} {e : TypeId} {size : Nat} (h : w.ownsRow B e size v n xs) : ∀ j, v.ownBlock = some j → B ≤ j := by
  intro j hj
  rcases h.2 with ⟨rfl, _⟩ | ⟨g, cap, cur, rfl, hg, _⟩
  · cases hj
  · simp [Value.ownBlock] at hj; omega
theorem below_of_own {a w : World} {row : Option Nat} {B : Nat} (h : a.grownBy w row) (hr : ∀ j, row = some j → B ≤ j) (hB : B ≤ a.heap.size) : Below B a w :=
  ⟨h.os, h.tape, h.output, h.size, fun i hi => h.block i (by omega) (fun e => by have := hr i e.symm; omega)⟩
set_option maxHeartbeats 4000000 in
theorem iStripsUsed (A : Option Addr) (n c : Nat) (xs : List Int) (sp : Int) (B : Option Addr) (m d : Nat) (os : List Int) (w : World) (hn : n ≤ maxLen) (hx : ReadsI w A n xs) (hm : m ≤ maxLen) (hy : ReadsI w B m os) :
    Calls Try.prog 26 #[.slice A n c, .int .i64 sp, .slice B m d] w (Val (i64 (stripsV n xs sp m os)) w) := by
  obtain ⟨i0, hi0, hz0, hz1, hz2⟩ := info_parts infoI
  have HX := Lib.hid hx
  have HY := Lib.hid hy
  have kA0 : Blk (w.alloc (.cells #[.slice A n c] 22)) w.heap.size 22 #[.slice A n c] := Blk.new w _ _
  have in0 : In w.heap.size w (w.alloc (.cells #[.slice A n c] 22)) := by (repeat (first | exact In.refl _ | assumption | apply In.alloc | apply In.drewN | apply In.drew | (refine In.step ?_ (by assumption))))
  obtain ⟨bA, hbA⟩ : ∃ b, b = w.heap.size := ⟨_, rfl⟩
  go_enter Try.func26, Try.ntmps26
  go_wp2_with fail
  rw [← hbA] at kA0 ⊢
  have hwA : w.heap.size ≤ bA := by omega
  clear hbA
  generalize (w.alloc (.cells #[.slice A n c] 22)) = w0 at *
  refine (iLengthsOk A n c xs sp _ hn (HX.out.below in0.below (Nat.le_refl _))).mono ?_
  rintro _ _ ⟨rfl, rfl⟩
  have cA0 := kA0.cell 0
  cases h1 : lenB n xs sp
  · have HV : Hid (stripsV n xs sp m os = -1) := Lib.hid (by simp [stripsV, stripsB, h1])
    clear hx hy
    go_wp2
    go_ret
    exact Val.mk' (v_int HV.out.symm) in0
  obtain ⟨n12, s1, s2, hxs⟩ := len_at h1
  go_wp2_with fail
  refine (iisOrder12 B m d n os _ hm n12 (HY.out.below in0.below (Nat.le_refl _))).mono ?_
  rintro _ w1 ⟨rfl, hb1⟩
  have i1 : In w.heap.size w w1 := in0.step hb1
  have kA1 := kA0.step hb1
  have cA1 := kA1.cell 0
  cases h2 : (decide (m = n) && allOk (ordOk n os) m)
  · have HV : Hid (stripsV n xs sp m os = -1) := Lib.hid (by simp only [stripsV, stripsB, h1, h2]; simp)
    clear hx hy
    go_wp2
    go_ret
    exact Val.mk' (v_int HV.out.symm) i1
  have HV : Hid (stripsV n xs sp m os = ((cutTo sp xs os m).length : Int)) := Lib.hid (by simp only [stripsV, stripsB, h1, h2]; simp)
  rw [Bool.and_eq_true, decide_eq_true_eq] at h2
  have hord := ord_at h2.2
  have HMN := Lib.hid h2.1
  have hm12 : m ≤ 12 := by have := h2.1; omega
  have HCA := Lib.hid (cut_all n hxs m hord)
  have HORD := Lib.hid hord
  have HXS := Lib.hid hxs
  have lA1 := kA1.lt
  obtain ⟨B1, hB1⟩ : ∃ B1, B1 = w1.heap.size := ⟨_, rfl⟩
  have hwB : w.heap.size ≤ B1 := by have := i1.size; omega
  have hBw : B1 ≤ w1.heap.size := by omega
  have hAB : bA < B1 := by omega
  have hown0 : w1.ownsRow B1 3 1 (.slice none 0 0) 0 (iv []) := ⟨rfl, .inl ⟨rfl, rfl⟩⟩
  have j1 : In B1 w1 w1 := ⟨Below.refl _ _, hBw⟩
  clear hx hy hb1 kA0 cA0 in0 h1 h2 hord hxs hB1 lA1
  go_wp2
  go_loopw [7, 24] (fun v i wr => ∃ (k : Nat), k ≤ m ∧ i = .int .i64 k ∧ wr.ownsRow B1 3 1 v (cutTo sp xs os k).length (iv (cutTo sp xs os k)) ∧ In B1 w1 wr) (fun _ i _ => m - (intOf i).toNat)
  case atStart => exact ⟨0, Nat.zero_le _, rfl, hown0, j1⟩
  case round =>
    clear hown0 j1
    obtain ⟨k, hk, rfl, hown, hi⟩ := hrel
    obtain ⟨A1, c1, rfl⟩ := own_shape_i hown
    have i2 : In w.heap.size w wr := ⟨i1.below.trans (hi.below.mono hwB), by have := hi.size; omega⟩
    by_cases hlt : k < m
    · obtain ⟨q, rfl, hq⟩ := (HY.out.below i2.below (Nat.le_refl _)).2 k hlt
      have ho := HORD.out k hlt
      obtain ⟨t, ht⟩ : ∃ t : Nat, os.getD k 0 = t := ⟨(os.getD k 0).toNat, by omega⟩
      rw [ht] at hq ho
      have htn : t < n := by omega
      obtain ⟨b, rfl, hb⟩ := (HX.out.below i2.below (Nat.le_refl _)).2 t htn
      have hln := HXS.out t htn
      obtain ⟨hall, hlen⟩ := HCA.out k hk
      have hall1 := HCA.out (k + 1) hlt
      have HST : Hid (cutTo sp xs os (k + 1) = stpL sp (xs.getD t 0) (cutTo sp xs os k)) := Lib.hid (by rw [cutTo, ht, Int.toNat_natCast])
      obtain ⟨ln, hl⟩ : ∃ ln, xs.getD t 0 = ln := ⟨_, rfl⟩
      rw [hl] at hb hln HST
      have HBT : Hid (∀ W, In w.heap.size w W → W.cell? (b.add t) = some (.int .i64 ln)) := Lib.hid (fun W h => by
        obtain ⟨b', hb', h9⟩ := (HX.out.below h.below (Nat.le_refl _)).2 t htn
        injection hb' with hb'
        subst hb'
        rw [hl] at h9
        exact h9)
      generalize hL0 : cutTo sp xs os k = L at *
      generalize hM0 : L.length = M at *
      have HM := Lib.hid hM0
      have HAG := Lib.hid (fun j => all_getD hall (by omega) j)
      clear hl ht hL0 hM0 hall hall1
      have lA : bA < wr.heap.size := by have := hi.size; omega
      have kA := kA1.below hi.below hAB
      have cA := kA.cell 0
      go_wp2_with fail
      have hexb : Below wr.heap.size wr (wr.alloc (.cells #[.int .i64 (t : Int)] 3)) := (Below.refl _ _).alloc (Nat.le_refl _) _
      have kI0 : Blk (wr.alloc (.cells #[.int .i64 (t : Int)] 3)) wr.heap.size 3 #[.int .i64 (t : Int)] := Blk.new wr _ _
      have hgl := own_lt hown
      obtain ⟨bi, hbi⟩ : ∃ b, b = wr.heap.size := ⟨_, rfl⟩
      have hiB : B1 ≤ wr.heap.size := hi.size
      rw [← hbi] at kI0 hgl hiB ⊢
      have ownI := own_step hown hexb
      have iI : In B1 w1 (wr.alloc (.cells #[.int .i64 (t : Int)] 3)) := hi.alloc _
      have kAI := kA.step hexb
      have iW : In w.heap.size w (wr.alloc (.cells #[.int .i64 (t : Int)] 3)) := i2.alloc _
      generalize (wr.alloc (.cells #[.int .i64 (t : Int)] 3)) = wi at *
      clear hexb hown hi i2 kA cA hb hq hbi lA
      have cAI := kAI.cell 0
      have lAI := kAI.lt
      have cI := kI0.cell 0
      have lI := kI0.lt
      have hbt := HBT.out wi iW
      refine (istripIx ⟨bA, 0, none⟩ b n c t ln wi cAI htn hbt bi cI A1 M c1 L (by omega) (reads_own_i ownI)).mono ?_
      rintro _ _ ⟨rfl, rfl⟩
      obtain ⟨f, hf⟩ : ∃ f, fstP (fitP ln L) M = f := ⟨_, rfl⟩
      rw [hf]
      have hfin := fstP_in (fitP ln L) M
      rw [hf] at hfin
      by_cases hneg : f < 0
      · have HS2 : Hid (cutTo sp xs os (k + 1) = L ++ [sp - ln]) := Lib.hid (by rw [HST.out]; exact stp_no (by rw [HM.out, hf]; exact hneg))
        have hM6 : M + 1 ≤ 1000000 := by omega
        have hBi : B1 ≤ wi.heap.size := iI.size
        clear hf hfin
        go_wp2_with (first | (go_at_call 46; refine (sIn _ _ _ _).mono ?_; rintro e w' ⟨rfl, rfl⟩) | (go_at_call 56; refine (iIn _ _ _ _).mono ?_; rintro e w' ⟨rfl, rfl⟩) | (at_builtin; refine wpList_app3 wi rfl (.tmp 35) (.tmp 37) 22 rfl B1 i0 (.int .i64 0) Try.underlying22 hi0 hz0 hz1 hz2 rfl (.slice A1 M c1) M L rfl ownI sp rfl hM6 hBi ?_; intro v9 w9 hown9 hgr9))
        obtain ⟨g, cap, rfl, hgB, hg9⟩ := hown9.form (by omega)
        have hge := own_ge ownI
        have hbw : Below B1 wi w9 := below_of_own hgr9 hge hBi
        have kA9 := kAI.below hbw hAB
        have kI9 := kI0.grown hgr9 (fun h => Nat.lt_irrefl _ (hgl bi h.symm))
        have i9 : In B1 w1 w9 := iI.wide hbw
        have iW9 : In w.heap.size w w9 := iW.wide (hbw.mono hwB)
        have hb9 := HBT.out w9 iW9
        have cA9 := kA9.cell 0
        have cI9 := kI9.cell 0
        have cM : w9.cell? ⟨g, M, none⟩ = some (.int .i64 sp) := by
          rw [hown9.cellAt M (by omega), iv_at _ M (by rw [List.length_append, HM.out]; simp)]
          have : (L ++ [sp]).getD M 0 = sp := by rw [← HM.out]; simp
          rw [this]
        have fM := hown9.frozenAt M
        have hst := (hown9.stored M (.int .i64 (sp - ln))).1
        rw [← iv_set, set_last L sp (sp - ln) M HM.out] at hst
        have HO : Hid ((w9.setCell ⟨g, M, none⟩ (.int .i64 (sp - ln))).drew.ownsRow B1 3 1 (.slice (some ⟨g, 0, none⟩) (M + 1) cap) (cutTo sp xs os (k + 1)).length (iv (cutTo sp xs os (k + 1)))) := Lib.hid (by
          rw [HS2.out, List.length_append, HM.out]
          exact own_step hst (Below.refl _ _).drew)
        have i10 : In B1 w1 (w9.setCell ⟨g, M, none⟩ (.int .i64 (sp - ln))).drew := (i9.set_ (p := ⟨g, M, none⟩) hgB _).drew
        have hw64 : IntKind.i64.wrap (sp - ln) = sp - ln := IntWalk.i64_in _ (by omega)
        have hw65 : wrap64 (sp - ln) = sp - ln := w64 (by omega)
        clear hst hown9 hgr9 hbw kA9 kI9 ownI kAI kI0 hgl hge iI i9 iW9
        go_region
        go_wp2
        go_roundw
        case rel => exact ⟨k + 1, by omega, by go_num, HO.out, i10⟩
        case measure => simp [intOf]; omega
      · obtain ⟨j, rfl⟩ : ∃ j : Nat, f = j := ⟨f.toNat, by omega⟩
        have hjM : j < M := (fst_is hf).2
        have HS2 : Hid (cutTo sp xs os (k + 1) = L.set j (L.getD j 0 - ln)) := Lib.hid (by rw [HST.out]; exact stp_at (by rw [HM.out, hf]))
        obtain ⟨g, cap, hv, hgB, hg9⟩ := ownI.form (by omega)
        injection hv with hv1 hv2 hv3
        subst hv1 hv3
        have hag := HAG.out j
        have cM : wi.cell? ⟨g, j, none⟩ = some (.int .i64 (L.getD j 0)) := by
          rw [ownI.cellAt j (by omega), iv_at _ j (by rw [HM.out]; exact hjM)]
        have fM := ownI.frozenAt j
        have hst := (ownI.stored j (.int .i64 (L.getD j 0 - ln))).1
        rw [← iv_set] at hst
        have HO : Hid ((wi.setCell ⟨g, j, none⟩ (.int .i64 (L.getD j 0 - ln))).drew.ownsRow B1 3 1 (.slice (some ⟨g, 0, none⟩) M c1) (cutTo sp xs os (k + 1)).length (iv (cutTo sp xs os (k + 1)))) := Lib.hid (by
          rw [HS2.out, List.length_set, HM.out]
          exact own_step hst (Below.refl _ _).drew)
        have i10 : In B1 w1 (wi.setCell ⟨g, j, none⟩ (.int .i64 (L.getD j 0 - ln))).drew := (iI.set_ (p := ⟨g, j, none⟩) hgB _).drew
        have hneg2 : decide ((j : Int) < 0) = false := decide_eq_false (by omega)
        obtain ⟨y, hyy⟩ : ∃ y, L.getD j 0 = y := ⟨_, rfl⟩
        rw [hyy] at hag cM HO i10
        have hw64 : IntKind.i64.wrap (y - ln) = y - ln := IntWalk.i64_in _ (by omega)
        have hw65 : wrap64 (y - ln) = y - ln := w64 (by omega)
        clear hst ownI kAI kI0 hgl iI iW hf hfin hyy hneg
        go_wp2
        go_region
        go_wp2
        go_roundw
        case rel => exact ⟨k + 1, by omega, by go_num, HO.out, i10⟩
        case measure => simp [intOf]; omega
    · obtain rfl : k = m := by omega
      go_wp2
      go_ret
      exact Val.mk' (v_int HV.out.symm) i2
end Go.Proofs.Ythadanmiomeehab
