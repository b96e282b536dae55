/- Chapter 21: FarFirst, the program. -/
import Derived.Test.YtmkfnhgaiheckaaFarP
import Derived.Test.YtmkfnhgaiheckaaOwnM
namespace Go.Proofs.Ytmkfnhgaiheckaa
open Go.ChangeShapes Go.WideShapes Go.ChangeAt Go.RowKit Go.Conc
set_option linter.unusedVariables false
set_option linter.unusedSimpArgs false
set_option maxHeartbeats 2000000

theorem infoF21 : (Try.prog.info? 3).map (fun i => (i.zero, i.size, i.bytes)) = some (some (.int .i64 0), 1, 8) := by kernel_rfl
theorem ihasTooLarge (A : Option Addr) (n c : Nat) (xs : List ShopR) (room : Int) (w : World) (hn : n ≤ 10) (hx : ReadsShop w A n xs) : Calls Try.prog 159 #[.slice A n c, .int .i64 room] w (Val (.bool (!allOk (bigAt xs room) n)) w) := by
  go_enter Try.func159, Try.ntmps159
  go_wp2
  go_loopw [9] (fun i wr => ∃ k : Nat, k ≤ n ∧ i = .int .i64 k ∧ (∀ i, i < k → bigAt xs room i = true) ∧ In w.heap.size w wr) (fun i _ => n - (intOf i).toNat)
  case atStart => exact ⟨0, Nat.zero_le _, rfl, fun i hi => absurd hi (Nat.not_lt_zero _), by (repeat (first | exact In.refl _ | assumption | apply In.alloc | apply In.drewN | apply In.drew | (refine In.step ?_ (by assumption))))⟩
  case round =>
    obtain ⟨k, hk, rfl, ho, hi⟩ := hrel
    have HO := Lib.hid ho
    clear ho
    by_cases hlt : k < n
    · obtain ⟨a, rfl, ha0, ha1⟩ := (hx.in_ hi).2 k hlt
      have HK : Hid (bigAt xs room k = decide ((xs.getD k z21).f1 ≤ room)) := Lib.hid rfl
      have HF := Lib.hid (fun h => allOk_f (bigAt xs room) n k hlt h)
      generalize xs.getD k z21 = x at *
      obtain ⟨x0, x1⟩ := x
      simp only at ha0 ha1 HK
      have q0 : Blk (wr.alloc (.cells #[.int .i64 x0, .int .i64 x1] 175)) wr.heap.size 175 #[.int .i64 x0, .int .i64 x1] := Blk.new wr _ _
      have c1 := q0.cell 1
      clear q0
      by_cases hr : x1 ≤ room
      · have HT : Hid (bigAt xs room k = true) := Lib.hid (by rw [HK.out]; exact decide_eq_true hr)
        go_wp2
        go_roundw
        case rel => exact ⟨k + 1, by omega, by go_num, fun i hi => by
            by_cases e : i = k
            · subst e; exact HT.out
            · exact HO.out i (by omega), by (repeat (first | exact In.refl _ | assumption | apply In.alloc | apply In.drewN | apply In.drew | (refine In.step ?_ (by assumption))))⟩
        case measure => simp [intOf]; omega
      · have HV : Hid (allOk (bigAt xs room) n = false) := Lib.hid (HF.out (by rw [HK.out]; exact decide_eq_false hr))
        go_wp2
        go_ret
        exact Val.mk' (v_bool (by rw [HV.out]; rfl)) (by (repeat (first | exact In.refl _ | assumption | apply In.alloc | apply In.drewN | apply In.drew | (refine In.step ?_ (by assumption)))))
    · obtain rfl : k = n := by omega
      have HV : Hid (allOk (bigAt xs room) k = true) := Lib.hid (allOk_t _ _ HO.out)
      go_wp2
      go_ret
      exact Val.mk' (v_bool (by rw [HV.out]; rfl)) (by (repeat (first | exact In.refl _ | assumption | apply In.alloc | apply In.drewN | apply In.drew | (refine In.step ?_ (by assumption)))))
theorem mkc21 (n : Nat) (hn : n ≤ 10) (w : World) : (Instr.makeChan 213 (.int .i64 (n : Int))).run Try.prog w = .ok (.chan (some w.heap.size)) (w.alloc (.chan n #[] false 0 0 false)) := by
  have h : (Try.prog.info? 3).map (·.bytes) = some 8 := by kernel_rfl
  obtain ⟨i, hi, hb⟩ := Option.map_eq_some_iff.1 h
  simpa using run_makeChan (P := Try.prog) (w := w) Try.underlying213 hi .i64 n (by omega) (by rw [hb]; omega)
set_option maxRecDepth 20000 in
theorem ifarthestFirst (A : Option Addr) (n c : Nat) (xs : List ShopR) (w : World) (hn : n ≤ 10) : Calls Try.prog 160 #[.slice A n c] w (fun e w' => ∃ ch, e = .returned (.chan (some ch)) ∧ w'.heap[ch]? = some (.chan n (bufD ((n : Int) - 1) n) false n 0 false) ∧ w.heap.size ≤ ch ∧ Below w.heap.size w w') := by
  have hmc := mkc21 n hn
  have hn9 : (n : Int) ≤ 10 := by omega
  go_enter Try.func160, Try.ntmps160
  go_wp2_with fail
  clear hmc
  obtain ⟨c, hcw⟩ : ∃ c, c = w.heap.size := ⟨_, rfl⟩
  have hch : (w.alloc (.chan n #[] false 0 0 false)).heap[c]? = some (.chan n (bufD ((n : Int) - 1) 0) false 0 0 false) := by rw [hcw]; exact heap_alloc_new w _
  have hi0 : In w.heap.size w (w.alloc (.chan n #[] false 0 0 false)) := by (repeat (first | exact In.refl _ | assumption | apply In.alloc | apply In.drewN | apply In.drew | (refine In.step ?_ (by assumption))))
  have HC : Hid (w.heap.size ≤ c) := Lib.hid (by omega)
  rw [← hcw]
  clear hcw
  go_loopw [4] (fun i wr => ∃ j : Nat, j ≤ n ∧ i = .int .i64 ((n : Int) - 1 - j) ∧ wr.heap[c]? = some (.chan n (bufD ((n : Int) - 1) j) false j 0 false) ∧ In w.heap.size w wr) (fun i _ => (intOf i + 1).toNat)
  case atStart => exact ⟨0, Nat.zero_le _, by simp, hch, hi0⟩
  case round =>
    clear hch hi0
    obtain ⟨j, hj, rfl, hch, hi⟩ := hrel
    obtain ⟨k, hk⟩ : ∃ k : Int, (n : Int) - 1 - j = k := ⟨_, rfl⟩
    have HK := Lib.hid hk
    by_cases hlt : j < n
    · have HZ : Hid ((bufD ((n : Int) - 1) j).size < n) := Lib.hid (by rw [bufD_size]; exact hlt)
      have hki : 0 ≤ k ∧ k ≤ 10 := by omega
      have HCH := Lib.hid hch
      rw [hk]
      clear hch hlt hj hk
      go_upto_region 5 with fail
      refine wp_region_sem ?_
      show SemOps _ _ _ [0, 1, 2] _ _
      refine SemOps.value rfl rfl (v := .chan (some c)) (w' := wr) (by simp [execOp, Act.eval, go_sem]) ?_
      refine SemOps.value rfl rfl (v := .int .i64 k) (w' := wr) (by simp [execOp, Act.eval, go_sem]) ?_
      refine SemOps.send_room (c := c) (v := .int .i64 k) (z' := .tuple #[]) rfl rfl (by simp [execOp, scase, Act.eval, Act.put, go_sem]) HCH.out HZ.out ?_
      refine SemOps.nil ?_
      obtain ⟨w9, hw9⟩ : ∃ w9, w9 = wr.setChan c n ((bufD ((n : Int) - 1) j).push (.int .i64 k)) false (j + 1) 0 false := ⟨_, rfl⟩
      have HH : Hid (w9.heap[c]? = some (.chan n (bufD ((n : Int) - 1) (j + 1)) false (j + 1) 0 false)) := Lib.hid (by
        rw [hw9, ← HK.out, bufD_push]; exact heap_setChan _ _ _ _ _ _ _ _ (Array.getElem?_eq_some_iff.1 HCH.out).1)
      have hi9 : In w.heap.size w w9 := by rw [hw9]; exact hi.setChan HC.out _ _ _ _ _ _
      rw [← hw9]
      clear hw9
      simp only [Act.put, List.setIfInBounds_toArray, List.set_cons_zero, List.set_cons_succ, List.getElem_toArray, List.getElem_cons_zero, List.getElem_cons_succ]
      go_wp2
      go_roundw
      case rel => exact ⟨j + 1, by have := HK.out; omega, by congr 1; have := HK.out; omega, HH.out, hi9⟩
      case measure => simp [intOf]; omega
    · have hki : k < 0 := by omega
      have hki2 : -1 ≤ k := by omega
      obtain rfl : j = n := by omega
      rw [hk]
      clear hlt hj hk
      go_wp2
      go_ret
      exact ⟨c, rfl, hch, HC.out, hi.below⟩
theorem shape_succ {w : World} {B n : Nat} {e : TypeId} {v : Value} {xs : List Value} (h : w.ownsRow B e 1 v (n + 1) xs) : ∃ g c, v = .slice (some ⟨g, 0, none⟩) (n + 1) c ∧ B ≤ g := by
  rcases own_formG h with ⟨_, hn⟩ | ⟨g, c, cur, rfl, hg, _⟩
  · omega
  · exact ⟨g, c, rfl, hg⟩
theorem cell_last {w : World} {B m go cap : Nat} {e : TypeId} {vs : List Value} {y : Value} (h : w.ownsRow B e 1 (.slice (some ⟨go, 0, none⟩) (m + 1) cap) (m + 1) (vs ++ [y])) (hvl : vs.length = m) : w.cell? ⟨go, m, none⟩ = some y := by
  have hc := h.cellAt m (by omega)
  rw [List.getElem?_append_right (by omega), hvl] at hc
  simpa using hc
theorem ne_outer {w : World} {B n g m c : Nat} {v : Value} {vs : List Value} {ys : List Int} (h : w.ownsRow B 43 1 v n vs) (ho : OwnC w g m c ys) {i : Nat} (hi : v.ownBlock = some i) : g ≠ i := by
  rcases own_formG h with ⟨rfl, _⟩ | ⟨g', c', cur, rfl, _, hk, _⟩
  · simp [Value.ownBlock] at hi
  · simp [Value.ownBlock] at hi
    subst hi
    exact ho.ne hk (by decide)
theorem own_geB {w : World} {B n : Nat} {e : TypeId} {v : Value} {xs : List Value} (h : w.ownsRow B e 1 v n xs) : ∀ i, v.ownBlock = some i → B ≤ i := own_ge_s h
theorem far_room {xs : List ShopR} {n : Nat} {room : Int} (h : ∀ i, i < n → 1 ≤ (xs.getD i z21).f1 ∧ (xs.getD i z21).f1 ≤ 100 ∧ 0 ≤ (xs.getD i z21).f0 ∧ (xs.getD i z21).f0 ≤ 1000) (hr : 1 ≤ room ∧ room ≤ 100) : ∀ j, j ≤ n → -100 ≤ fR xs n room j ∧ fR xs n room j ≤ 100 := by
  intro j
  induction j with
  | zero => intro _; exact ⟨by show -100 ≤ (0 : Int); omega, by show (0 : Int) ≤ 100; omega⟩
  | succ j ih =>
    intro hj
    have h1 := h (n - 1 - j) (by omega)
    have h2 := ih (by omega)
    by_cases hz : j = 0
    · subst hz
      have e := (far_first (xs := xs) (n := n) (room := room)).2.2
      simp only [Nat.sub_zero] at h1
      show -100 ≤ fR xs n room 1 ∧ fR xs n room 1 ≤ 100
      omega
    · by_cases hc : fR xs n room j < (xs.getD (n - 1 - j) z21).f1
      · have e := (far_new (by omega) hc).2.2
        omega
      · have e := (far_same (by omega) hc).2.2
        omega
/-- nothing yet, or trips of which the last one grows -/
def TripS (w : World) (B : Nat) (v : Value) (j : Nat) (D : List IntSR) (cur : List Int) : Prop := (j = 0 ∧ w.ownsRow B 43 1 v 0 []) ∨ (0 < j ∧ RowsL w B v D.length D cur)
theorem far_end {w : World} {B B1 n : Nat} {v : Value} {xs : List ShopR} {room : Int} (h : TripS w B1 v n (fD xs n room n) (fC xs n room n)) (hf : 0 < n → FarL n xs room = fD xs n room n ++ [fC xs n room n]) (hl : (fC xs n room n).length ≤ 1000000) (hB : B ≤ B1) : RowsC w B v (FarL n xs room).length (FarL n xs room) := by
  rcases h with ⟨h0, h1⟩ | ⟨h0, h1⟩
  · subst h0
    rw [FarL_0]
    have hT := RowsT.nil w B1 []
    exact RowsC.base ⟨_, _, _, h1, hT.1, hT.2.1, hT.2.2⟩ hB
  · rw [hf h0]
    have h2 := h1.rows hl
    have e : (fD xs n room n ++ [fC xs n room n]).length = (fD xs n room n).length + 1 := by simp
    rw [e]
    exact h2.base hB
set_option maxHeartbeats 16000000 in
set_option maxRecDepth 20000 in
theorem iFarFirst (A : Option Addr) (n c : Nat) (xs : List ShopR) (room : Int) (w : World) (hn : n ≤ maxLen) (hx : ReadsShop w A n xs) : Calls Try.prog 82 #[.slice A n c, .int .i64 room] w (RowRCB (FarL n xs room) (farB n xs room) w) := by
  obtain ⟨j0, hj0, hy0, hy1, hy2⟩ := info_parts infoSSb
  obtain ⟨i0, hi0, hz0, hz1, hz2⟩ := info_parts infoF21
  go_enter Try.func82, Try.ntmps82
  go_wp2_with fail
  refine (icanDrive A n c xs room _ hn hx).mono ?_
  rintro _ w1 ⟨rfl, hb1⟩
  have i1 : In w.heap.size w w1 := (In.refl w).step hb1
  clear hb1
  cases hq : (shopsB n xs && inB room 1 100)
  · skip
    have HV : Hid (farB n xs room = false) := Lib.hid (by unfold farB; rw [hq]; rfl)
    have HL := Lib.hid (FarL_f HV.out)
    go_wp2
    exact bodyPost_ret (v := .tuple #[.slice none 0 0, .bool false]) (by simp [results, Try.results82, go_sem]) rfl (⟨_, by rw [HV.out], by rw [HL.out]; exact RowsC.nil _ _, i1.below⟩)
  · skip
    have hsh := (Bool.and_eq_true _ _ ▸ hq : _ ∧ _).1
    have hrm := inB_tt (Bool.and_eq_true _ _ ▸ hq : _ ∧ _).2
    have hn10 := (shops_at hsh).1
    go_wp2_with fail
    refine (ihasTooLarge A n c xs room _ hn10 (hx.in_ i1)).mono ?_
    rintro _ w2 ⟨rfl, hb2⟩
    have i2 := i1.step hb2
    clear hb2 i1
    cases hal : allOk (bigAt xs room) n
    · skip
      have HV : Hid (farB n xs room = false) := Lib.hid (by unfold farB; rw [hq, hal]; rfl)
      have HL := Lib.hid (FarL_f HV.out)
      clear hq hal
      go_wp2
      exact bodyPost_ret (v := .tuple #[.slice none 0 0, .bool false]) (by simp [results, Try.results82, go_sem]) rfl (⟨_, by rw [HV.out], by rw [HL.out]; exact RowsC.nil _ _, i2.below⟩)
    · skip
      have HV : Hid (farB n xs room = true) := Lib.hid (by unfold farB; rw [hq, hal]; rfl)
      have HLV := Lib.hid (fun i (hi : i < n) => loaves_in hsh hi)
      have HRM : Hid (∀ i, i < n → (xs.getD i z21).f1 ≤ room) := Lib.hid fun i hi => of_decide_eq_true (allOk_at _ _ hal i hi)
      clear hq hal hsh
      have hn9 : (n : Int) ≤ 10 := by omega
      go_wp2_with fail
      refine (ifarthestFirst A n c xs _ hn10).mono ?_
      rintro _ w3 ⟨ch, rfl, hch, hcw, hb3⟩
      have i3 := i2.step hb3
      have hcl : ch < w3.heap.size := (Array.getElem?_eq_some_iff.1 hch).1
      obtain ⟨B1, hB1⟩ : ∃ B1 : Nat, w3.heap.size = B1 := ⟨_, rfl⟩
      have HCW : Hid (w.heap.size ≤ ch) := Lib.hid (Nat.le_trans i2.size hcw)
      have HCB : Hid (ch < B1) := Lib.hid (by omega)
      have HWB : Hid (w.heap.size ≤ B1) := Lib.hid (by have := HCW.out; have := HCB.out; omega)
      have hB3 : B1 ≤ w3.heap.size := by omega
      clear hcw hcl hb3 i2 hB1
      have hT0 : TripS w3 B1 (.slice none 0 0) 0 [] [] := .inl ⟨rfl, ⟨rfl, .inl ⟨rfl, rfl⟩⟩⟩
      have HFN := Lib.hid (fun j h => far_new (xs := xs) (n := n) (room := room) (j := j) h)
      have HFS := Lib.hid (fun j h => far_same (xs := xs) (n := n) (room := room) (j := j) h)
      have HF1 := Lib.hid (far_first (xs := xs) (n := n) (room := room))
      have HLN := Lib.hid (far_len (xs := xs) (n := n) (room := room))
      have HR0 : Hid (fD xs n room 0 = [] ∧ fC xs n room 0 = [] ∧ fR xs n room 0 = 0) := Lib.hid ⟨rfl, rfl, rfl⟩
      have HFL := Lib.hid (fun (h : 0 < n) => FarL_t HV.out h)
      have HFB := Lib.hid (far_room (n := n) HLV.out hrm)
      go_upto_region 6 with fail
      go_loopw [7, 8] (fun v l wr => ∃ j : Nat, j ≤ n ∧ l = .int .i64 (fR xs n room j) ∧ wr.heap[ch]? = some (.chan n (bufD ((n : Int) - 1 - j) (n - j)) false n j false) ∧ TripS wr B1 v j (fD xs n room j) (fC xs n room j) ∧ In w.heap.size w wr ∧ B1 ≤ wr.heap.size) (fun v l wr => match wr.heap[ch]? with | some (.chan _ b _ _ _ _) => b.size | _ => 0)
      case atStart => exact ⟨0, Nat.zero_le _, by rw [HR0.out.2.2], by simpa using hch, hT0, i3, hB3⟩
      case round =>
        clear hch i3 hT0 hB3
        obtain ⟨j, hj, rfl, hch, hTS, hi, hBs⟩ := hrel
        by_cases hlt : j < n
        · skip
          obtain ⟨N, hN⟩ : ∃ N, n - j = N + 1 := ⟨n - j - 1, by omega⟩
          obtain ⟨kn, hkn⟩ : ∃ kn : Nat, n - 1 - j = kn := ⟨_, rfl⟩
          have hkk : (n : Int) - 1 - j = (kn : Int) := by omega
          rw [hN, hkk] at hch
          have HCH := Lib.hid hch
          have hpo := bufD_pop (kn : Int) N
          have hat := bufD_at (kn : Int) N
          have HSZ : Hid (0 < (bufD (kn : Int) (N + 1)).size) := Lib.hid (by rw [bufD_size]; omega)
          obtain ⟨w9, hw9⟩ : ∃ w9, w9 = wr.setChan ch n (bufD ((kn : Int) - 1) N) false n (j + 1) false := ⟨_, rfl⟩
          have hH : w9.heap[ch]? = some (.chan n (bufD ((kn : Int) - 1) N) false n (j + 1) false) := by rw [hw9]; exact heap_setChan _ _ _ _ _ _ _ _ (Array.getElem?_eq_some_iff.1 hch).1
          have hi9 : In w.heap.size w w9 := by rw [hw9]; exact hi.setChan HCW.out _ _ _ _ _ _
          have hB9 : B1 ≤ w9.heap.size := by rw [hw9, size_setChan]; exact hBs
          have hT9 : ∀ v D cur, TripS wr B1 v j D cur → TripS w9 B1 v j D cur := fun v D cur h => by
            rw [hw9]
            rcases h with ⟨h1, h2⟩ | ⟨h1, h2⟩
            · exact .inl ⟨h1, own_keep (g := ch) h2 ⟨rfl, rfl, rfl, by rw [size_setChan]; exact Nat.le_refl _, fun k hk hne => heap_setChan_of (fun e => hne (by rw [e]))⟩ (fun e => by have h3 := own_ge_s h2 _ e; have := HCB.out; omega)⟩
            · exact .inr ⟨h1, h2.setChan HCB.out _ _ _ _ _ _⟩
          have hTS9 := hT9 _ _ _ hTS
          have hknn : kn < n := by omega
          clear hch hi hBs hT9 hTS
          have HMS : Hid ((bufD ((kn : Int) - 1) N).size < (bufD (kn : Int) (N + 1)).size) := Lib.hid (by rw [bufD_size, bufD_size]; omega)
          go_upto_region 7 with fail
          refine wp_region_sem ?_
          show SemOps _ _ _ [0, 1, 2] _ _
          refine SemOps.select_recv (c := ch) (z := .int .i64 0) rfl rfl (by simp [go_sem, rcase]) HCH.out HSZ.out ?_
          rw [hpo, hat]
          refine SemOps.value rfl rfl (v := .int .i64 0) (w' := wr.setChan ch n (bufD ((kn : Int) - 1) N) false n (j + 1) false) (by simp [execOp, Act.eval, Act.put, goInt, go_sem]) ?_
          refine SemOps.value rfl rfl (v := .bool true) (w' := wr.setChan ch n (bufD ((kn : Int) - 1) N) false n (j + 1) false) (by simp [execOp, Act.eval, Act.put, goInt, go_sem]) ?_
          refine SemOps.nil ?_
          rw [← hw9]
          clear hw9 hpo hat
          simp only [Act.put, goInt, List.setIfInBounds_toArray, List.set_cons_zero, List.set_cons_succ, List.getElem_toArray, List.getElem_cons_zero, List.getElem_cons_succ]
          obtain ⟨ad, rfl, hc0, hc1⟩ := (hx.in_ hi9).2 kn hknn
          have hlv := HLV.out kn hknn
          obtain ⟨xk, hxk⟩ : ∃ x, (xs.getD kn z21).f1 = x := ⟨_, rfl⟩
          have HCA := Lib.hid (fun w' (h : In w.heap.size w w') => show w'.cell? ⟨(ad.add (kn * 2)).block, (ad.add (kn * 2)).off + 1, none⟩ = some (.int .i64 xk) from by
            obtain ⟨a', e, _, h1⟩ := (hx.in_ h).2 kn hknn
            cases e
            rw [← hxk]; exact h1)
          change w9.cell? _ = some (.int .i64 (xs.getD kn z21).f1) at hc1
          rw [hxk] at hc1 hlv
          have HXK := Lib.hid hxk
          have HI9 := Lib.hid hi9
          clear hc0 hxk hi9
          have hlb := HFB.out j (by omega)
          obtain ⟨l, hl⟩ : ∃ l, fR xs n room j = l := ⟨_, rfl⟩
          rw [hl] at hlb
          have hkn10 : kn < 10 := by omega
          have hjn10 : j < 10 := by omega
          have HHC : Hid (w9.heap[ch]? = some (.chan n (bufD ((n : Int) - 1 - ((j + 1 : Nat) : Int)) (n - (j + 1))) false n (j + 1) false)) := Lib.hid (by
            have e1 : (n : Int) - 1 - ((j + 1 : Nat) : Int) = (kn : Int) - 1 := by omega
            have e2 : n - (j + 1) = N := by omega
            rw [e1, e2]; exact hH)
          have HH := Lib.hid hH
          clear hH
          by_cases hjz : j = 0
          · skip
            subst hjz
            obtain ⟨e1, e2, e3⟩ := HF1.out
            have hke : (n - 1 : Nat) = kn := by omega
            rw [hke] at e2 e3
            rw [HXK.out] at e3
            have HE := Lib.hid (show fD xs n room (0 + 1) = [] ∧ fC xs n room (0 + 1) = [(kn : Int)] ∧ fR xs n room (0 + 1) = room - xk from ⟨e1, e2, e3⟩)
            clear e1 e2 e3 hke
            have hl0 : l = 0 := by rw [← hl]; exact HR0.out.2.2
            subst hl0
            rw [hl]
            clear hl
            obtain ⟨_, hO⟩ : 0 = 0 ∧ w9.ownsRow B1 43 1 _ 0 [] := by
              rcases hTS9 with h | h
              · exact h
              · exact absurd h.1 (Nat.lt_irrefl _)
            clear hTS9
            have hT : RowsT w9 B1 0 [] [] (fun _ => 0) (fun _ => 0) := RowsT.nil _ _ _
            have hV0 : ([] : List Value).length = 0 := rfl
            rcases own_formG hO with ⟨rfl, _⟩ | ⟨g0, c0, cur0, rfl, _, _, _⟩
            · skip
              have HVL := Lib.hid hV0
              have HO1 := Lib.hid hO
              have HT1 := Lib.hid hT
              clear hO hT hV0
              go_wp2_with (first | (at_builtin; refine wpList_app w2 rfl (.tmp 52) (.tmp 54) 43 rfl w2.heap.size 3 i0 (.int .i64 0) 1 8 Try.underlying43 hi0 hz0 hz1 hz2 rfl Nat.one_pos (.slice none 0 0) 0 (iv []) rfl ⟨rfl, .inl ⟨rfl, rfl⟩⟩ 1 #[.int .i64 (kn : Int)] rfl rfl (one_lit _) (by unfold maxLen; omega) (by omega) (Nat.le_refl _) ?_; intro v3 w3 hown3 hbw3; obtain ⟨g3, c3, rfl, hg3, ho3⟩ := ownC_of1 hown3; obtain ⟨k3, z3, hL3⟩ := RowsL.first HOW2.out HVL.out HT9.out ho3 hg3 hbw3; have HL3 := Lib.hid hL3; have HB3 := Lib.hid (HB2.out.trans (hbw3.mono (by have := HB2.out.size; omega))); have HB4 := Lib.hid (HB3.out.setCell (p := ⟨go2, 0, none⟩) hgo2 (.slice (some ⟨g3, 0, none⟩) 1 c3)); have hc3 := HCA.out _ (HI9.out.wide (HB4.out.mono HWB.out)); clear hown3 hbw3 ho3 hL3 k2 z2) | (at_builtin; refine wpList_app4 w9 rfl (.tmp 40) (.tmp 41) 24 rfl B1 43 j0 (.slice none 0 0) 24 Try.underlying24 hj0 hy0 hy1 hy2 rfl (by omega) (.slice none 0 0) (0) ([]) rfl HO1.out (.slice none 0 0) w9.heap.size (by simp) rfl rfl (by omega) (by first | omega | (simp; omega)) ?_; intro v2 w2 hown2 hg2; obtain ⟨go2, cap2, rfl, hgo2⟩ := shape_succ hown2; have HB2 := Lib.hid (Below.grown (Below.refl B1 w9) hg2 (by first | omega | (simp; omega)) (own_ge_s HO1.out)); have HT9 := Lib.hid (RowsT.appd HO1.out HT1.out hg2); have HOW2 := Lib.hid hown2; have k2 : w2.cell? ⟨go2, 0, none⟩ = some (.slice none 0 0) := cell_last hown2 HVL.out; have z2 : w2.frozen? ⟨go2, 0, none⟩ = false := World.ownsRow.frozenAt hown2 (0); clear hown2 hg2))
              go_roundw
              case rel =>
                have e1 := HE.out
                refine ⟨0 + 1, by omega, by rw [e1.2.2], (HB4.out.block ch HCB.out).trans HHC.out, .inr ⟨Nat.succ_pos _, ?_⟩, HI9.out.wide (HB4.out.mono HWB.out), Nat.le_trans hB9 HB4.out.size⟩
                rw [e1.1, e1.2.1]
                exact HL3.out
              case measure => rw [HB4.out.block ch HCB.out, HH.out, HCH.out]; exact HMS.out
            · skip
              have HVL := Lib.hid hV0
              have HO1 := Lib.hid hO
              have HT1 := Lib.hid hT
              clear hO hT hV0
              go_wp2_with (first | (at_builtin; refine wpList_app w2 rfl (.tmp 52) (.tmp 54) 43 rfl w2.heap.size 3 i0 (.int .i64 0) 1 8 Try.underlying43 hi0 hz0 hz1 hz2 rfl Nat.one_pos (.slice none 0 0) 0 (iv []) rfl ⟨rfl, .inl ⟨rfl, rfl⟩⟩ 1 #[.int .i64 (kn : Int)] rfl rfl (one_lit _) (by unfold maxLen; omega) (by omega) (Nat.le_refl _) ?_; intro v3 w3 hown3 hbw3; obtain ⟨g3, c3, rfl, hg3, ho3⟩ := ownC_of1 hown3; obtain ⟨k3, z3, hL3⟩ := RowsL.first HOW2.out HVL.out HT9.out ho3 hg3 hbw3; have HL3 := Lib.hid hL3; have HB3 := Lib.hid (HB2.out.trans (hbw3.mono (by have := HB2.out.size; omega))); have HB4 := Lib.hid (HB3.out.setCell (p := ⟨go2, 0, none⟩) hgo2 (.slice (some ⟨g3, 0, none⟩) 1 c3)); have hc3 := HCA.out _ (HI9.out.wide (HB4.out.mono HWB.out)); clear hown3 hbw3 ho3 hL3 k2 z2) | (at_builtin; refine wpList_app4 w9 rfl (.tmp 40) (.tmp 41) 24 rfl B1 43 j0 (.slice none 0 0) 24 Try.underlying24 hj0 hy0 hy1 hy2 rfl (by omega) (.slice (some ⟨g0, 0, none⟩) 0 c0) (0) ([]) rfl HO1.out (.slice none 0 0) w9.heap.size (by simp) rfl rfl (by omega) (by first | omega | (simp; omega)) ?_; intro v2 w2 hown2 hg2; obtain ⟨go2, cap2, rfl, hgo2⟩ := shape_succ hown2; have HB2 := Lib.hid (Below.grown (Below.refl B1 w9) hg2 (by first | omega | (simp; omega)) (own_ge_s HO1.out)); have HT9 := Lib.hid (RowsT.appd HO1.out HT1.out hg2); have HOW2 := Lib.hid hown2; have k2 : w2.cell? ⟨go2, 0, none⟩ = some (.slice none 0 0) := cell_last hown2 HVL.out; have z2 : w2.frozen? ⟨go2, 0, none⟩ = false := World.ownsRow.frozenAt hown2 (0); clear hown2 hg2))
              go_roundw
              case rel =>
                have e1 := HE.out
                refine ⟨0 + 1, by omega, by rw [e1.2.2], (HB4.out.block ch HCB.out).trans HHC.out, .inr ⟨Nat.succ_pos _, ?_⟩, HI9.out.wide (HB4.out.mono HWB.out), Nat.le_trans hB9 HB4.out.size⟩
                rw [e1.1, e1.2.1]
                exact HL3.out
              case measure => rw [HB4.out.block ch HCB.out, HH.out, HCH.out]; exact HMS.out
          · skip
            obtain ⟨D, hD⟩ : ∃ D, fD xs n room j = D := ⟨_, rfl⟩
            obtain ⟨cur, hcur⟩ : ∃ c, fC xs n room j = c := ⟨_, rfl⟩
            have hln := HLN.out j
            have hfn := HFN.out j (by omega)
            have hfs := HFS.out j (by omega)
            rw [hkn, HXK.out, hl, hD, hcur] at hfn hfs
            rw [hD, hcur] at hln hTS9
            have hL := (Or.resolve_left hTS9 (fun h => hjz h.1)).2
            obtain ⟨m, hm⟩ : ∃ m, D.length = m := ⟨_, rfl⟩
            rw [hm] at hL hln
            obtain ⟨vs, G, C, g, cc, go, cap, rfl, h1, hvl, h2, h3, h4, h5, hgo, _⟩ := hL
            rw [hl]
            have hmj := hln.2.2 (by omega)
            have hcl : cur.length ≤ j := by omega
            have HM := Lib.hid hm
            clear hTS9 hln hl hD hcur hm
            by_cases hc : l < xk
            · skip
              have HE := Lib.hid (hfn hc)
              clear hfn hfs
              have hT := RowsT.snoc h2 hvl h3 h4 (by omega) h5
              have hV0 : (vs ++ [Value.slice (some ⟨g, 0, none⟩) cur.length cc]).length = m + 1 := by simp [hvl]
              clear h2 hvl h3 h4 h5
              have HVL := Lib.hid hV0
              have HO1 := Lib.hid h1
              have HT1 := Lib.hid hT
              clear h1 hT hV0
              go_wp2_with (first | (at_builtin; refine wpList_app w2 rfl (.tmp 52) (.tmp 54) 43 rfl w2.heap.size 3 i0 (.int .i64 0) 1 8 Try.underlying43 hi0 hz0 hz1 hz2 rfl Nat.one_pos (.slice none 0 0) 0 (iv []) rfl ⟨rfl, .inl ⟨rfl, rfl⟩⟩ 1 #[.int .i64 (kn : Int)] rfl rfl (one_lit _) (by unfold maxLen; omega) (by omega) (Nat.le_refl _) ?_; intro v3 w3 hown3 hbw3; obtain ⟨g3, c3, rfl, hg3, ho3⟩ := ownC_of1 hown3; obtain ⟨k3, z3, hL3⟩ := RowsL.first HOW2.out HVL.out HT9.out ho3 hg3 hbw3; have HL3 := Lib.hid hL3; have HB3 := Lib.hid (HB2.out.trans (hbw3.mono (by have := HB2.out.size; omega))); have HB4 := Lib.hid (HB3.out.setCell (p := ⟨go2, m + 1, none⟩) hgo2 (.slice (some ⟨g3, 0, none⟩) 1 c3)); have hc3 := HCA.out _ (HI9.out.wide (HB4.out.mono HWB.out)); clear hown3 hbw3 ho3 hL3 k2 z2) | (at_builtin; refine wpList_app4 w9 rfl (.tmp 40) (.tmp 41) 24 rfl B1 43 j0 (.slice none 0 0) 24 Try.underlying24 hj0 hy0 hy1 hy2 rfl (by omega) (.slice (some ⟨go, 0, none⟩) (m + 1) cap) (m + 1) (vs ++ [Value.slice (some ⟨g, 0, none⟩) cur.length cc]) rfl HO1.out (.slice none 0 0) w9.heap.size (by simp) rfl rfl (by omega) (by first | omega | (simp; omega)) ?_; intro v2 w2 hown2 hg2; obtain ⟨go2, cap2, rfl, hgo2⟩ := shape_succ hown2; have HB2 := Lib.hid (Below.grown (Below.refl B1 w9) hg2 (by first | omega | (simp; omega)) (own_ge_s HO1.out)); have HT9 := Lib.hid (RowsT.appd HO1.out HT1.out hg2); have HOW2 := Lib.hid hown2; have k2 : w2.cell? ⟨go2, m + 1, none⟩ = some (.slice none 0 0) := cell_last hown2 HVL.out; have z2 : w2.frozen? ⟨go2, m + 1, none⟩ = false := World.ownsRow.frozenAt hown2 (m + 1); clear hown2 hg2))
              go_roundw
              case rel =>
                have e1 := HE.out
                refine ⟨j + 1, by omega, by rw [e1.2.2], (HB4.out.block ch HCB.out).trans HHC.out, .inr ⟨Nat.succ_pos _, ?_⟩, HI9.out.wide (HB4.out.mono HWB.out), Nat.le_trans hB9 HB4.out.size⟩
                rw [e1.1, e1.2.1]
                have e : (D ++ [cur]).length = m + 1 := by simp [HM.out]
                rw [e]
                exact HL3.out
              case measure => rw [HB4.out.block ch HCB.out, HH.out, HCH.out]; exact HMS.out
            · skip
              have HE := Lib.hid (hfs (by omega))
              clear hfn hfs
              have k0 : w9.cell? ⟨go, m, none⟩ = some (.slice (some ⟨g, 0, none⟩) cur.length cc) := cell_last h1 hvl
              have z0 : w9.frozen? ⟨go, m, none⟩ = false := World.ownsRow.frozenAt h1 m
              have HO1 := Lib.hid h1
              have HVL := Lib.hid hvl
              have HT1 := Lib.hid h2
              have HOC := Lib.hid h3
              have HBG := Lib.hid h4
              have HGL := Lib.hid h5
              clear h1 hvl h2 h3 h4 h5
              go_wp2_with (at_builtin; refine wpList_app2 w9 rfl (.tmp 52) (.tmp 54) 43 rfl i0 (.int .i64 0) Try.underlying43 hi0 hz0 hz1 hz2 rfl g cur.length cc cur rfl HOC.out (kn : Int) rfl (by omega) ?_; intro g3 c3 w3 ho3 hg3 hb3; obtain ⟨k3, z3, hL3⟩ := RowsL.grow HO1.out HVL.out HT1.out HOC.out HBG.out HGL.out ho3 hg3 hb3; have HL3 := Lib.hid hL3; have HB4 := Lib.hid (((Below.refl B1 w9).grown hb3 hB9 (fun i hi => by injection hi with hi; have := HBG.out; omega)).setCell (p := ⟨go, m, none⟩) hgo (.slice (some ⟨g3, 0, none⟩) (cur.length + 1) c3)); have hc3 := HCA.out _ (HI9.out.wide (HB4.out.mono HWB.out)); clear hb3 ho3 hL3 k0 z0)
              go_roundw
              case rel =>
                have e1 := HE.out
                refine ⟨j + 1, by omega, by rw [e1.2.2], (HB4.out.block ch HCB.out).trans HHC.out, .inr ⟨Nat.succ_pos _, ?_⟩, HI9.out.wide (HB4.out.mono HWB.out), Nat.le_trans hB9 HB4.out.size⟩
                rw [e1.1, e1.2.1]
                rw [HM.out]
                exact HL3.out
              case measure => rw [HB4.out.block ch HCB.out, HH.out, HCH.out]; exact HMS.out
        · skip
          have hjn : n = j := by omega
          subst hjn
          rw [Nat.sub_self] at hch
          have HCH : Hid (wr.heap[ch]? = some (.chan n #[] false n n false)) := Lib.hid hch
          have hln := (HLN.out n).1
          have HRC := Lib.hid (far_end hTS HFL.out (by omega) HWB.out)
          have HI := Lib.hid hi
          clear hch hTS hln hi
          go_upto_region 7 with fail
          refine wp_region_sem ?_
          show SemOps _ _ _ [0, 1, 2] _ _
          refine SemOps.select_default (c := ch) (z := .int .i64 0) rfl rfl (by simp [go_sem, rcase]) HCH.out ?_
          refine SemOps.value rfl rfl (v := .int .i64 (-1)) (w' := wr) (by simp [execOp, Act.eval, Act.put, goInt, go_sem]) ?_
          refine SemOps.value rfl rfl (v := .bool false) (w' := wr) (by simp [execOp, Act.eval, Act.put, goInt, go_sem]) ?_
          refine SemOps.nil ?_
          simp only [Act.put, goInt, List.setIfInBounds_toArray, List.set_cons_zero, List.set_cons_succ, List.getElem_toArray, List.getElem_cons_zero, List.getElem_cons_succ]
          go_wp2
          refine bodyPost_ret (v := .tuple #[u7, .bool true]) (by simp [results, Try.results82, go_sem]) rfl ?_
          refine ⟨_, ?_, HRC.out, HI.out.below⟩
          rw [HV.out]
end Go.Proofs.Ytmkfnhgaiheckaa
