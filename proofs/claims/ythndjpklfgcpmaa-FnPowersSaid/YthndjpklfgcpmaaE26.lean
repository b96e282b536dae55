/- Chapter 26: the minutes of a day in a channel; the powers of a day. -/
import Derived.Test.YthndjpklfgcpmaaP26
import Derived.Test.YthndjpklfgcpmaaComm
import Derived.Test.YthndjpklfgcpmaaOwnC
import Derived.Test.YthndjpklfgcpmaaApp
namespace Go.Proofs.Ythndjpklfgcpmaa
open Go.ChangeShapes Go.WideShapes Go.ChangeAt Go.RowKit Go.Conc
set_option linter.unusedVariables false
set_option linter.unusedSimpArgs false
set_option maxHeartbeats 2000000

/-- N numbers from a on, as a channel's buffer -/
def bufN (a N : Nat) : Array Value := ((List.range N).map fun i => Value.int .i64 ((a + i : Nat) : Int)).toArray
theorem bufN_size (a N : Nat) : (bufN a N).size = N := by simp [bufN]
theorem bufN_push (N : Nat) : (bufN 0 N).push (.int .i64 (N : Int)) = bufN 0 (N + 1) := by simp [bufN, List.range_succ]
theorem bufN_at (a N : Nat) : (bufN a (N + 1)).getD 0 undef = .int .i64 (a : Int) := by simp [bufN, Array.getD]
theorem bufN_pop (a N : Nat) : (bufN a (N + 1)).extract 1 (bufN a (N + 1)).size = bufN (a + 1) N := by
  apply Array.ext
  · simp [bufN]
  · intro i h1 h2
    simp [bufN]
    omega
theorem bufN_0 : bufN 0 0 = #[] := rfl
theorem bytes26 : ∃ i, Try.prog.info? 3 = some i ∧ i.bytes = 8 := by
  have h : (Try.prog.info? 3).map (·.bytes) = some 8 := by kernel_rfl
  obtain ⟨i, hi, hb⟩ := Option.map_eq_some_iff.1 h
  exact ⟨i, hi, hb⟩
theorem mk26 (w : World) : (Instr.makeChan 88 (.int .i64 1440)).run Try.prog w = .ok (.chan (some w.heap.size)) (w.alloc (.chan 1440 #[] false 0 0 false)) := by
  obtain ⟨i, hi, hb⟩ := bytes26
  simpa using run_makeChan (P := Try.prog) (w := w) Try.underlying88 hi .i64 1440 (by omega) (by rw [hb]; omega)
set_option maxRecDepth 20000 in
theorem iminutesOfDay (w : World) : Calls Try.prog 82 #[] w (fun e w' => ∃ c, e = .returned (.chan (some c)) ∧ w'.heap[c]? = some (.chan 1440 (bufN 0 1440) true 1440 0 false) ∧ w.heap.size ≤ c ∧ Below w.heap.size w w') := by
  have hmc := mk26
  go_enter Try.func82, Try.ntmps82
  go_wp2_with fail
  clear hmc
  obtain ⟨c, hcw⟩ : ∃ c, c = w.heap.size := ⟨_, rfl⟩
  have hch : (w.alloc (.chan 1440 #[] false 0 0 false)).heap[c]? = some (.chan 1440 (bufN 0 0) false 0 0 false) := by rw [hcw]; exact heap_alloc_new w _
  have hi0 : In w.heap.size w (w.alloc (.chan 1440 #[] false 0 0 false)) := by (repeat (first | exact In.refl _ | assumption | apply In.alloc | apply In.drewN | apply In.drew | (refine In.step ?_ (by assumption))))
  have HC : Hid (w.heap.size ≤ c) := Lib.hid (by omega)
  rw [← hcw]
  clear hcw
  obtain ⟨N, hN⟩ : ∃ N : Nat, 1440 = N := ⟨_, rfl⟩
  have HN := Lib.hid hN
  clear hN
  go_loopw [4] (fun i wr => ∃ k : Nat, k ≤ N ∧ i = .int .i64 k ∧ wr.heap[c]? = some (.chan 1440 (bufN 0 k) false k 0 false) ∧ In w.heap.size w wr) (fun i _ => N - (intOf i).toNat)
  case atStart => exact ⟨0, Nat.zero_le _, rfl, hch, hi0⟩
  case round =>
    clear hch hi0
    obtain ⟨k, hk, rfl, hch, hi⟩ := hrel
    by_cases hlt : k < N
    · have HZ : Hid ((bufN 0 k).size < 1440) := Lib.hid (by rw [bufN_size]; have := HN.out; omega)
      have hki : (k : Int) < 1440 := by have := HN.out; omega
      have HCH := Lib.hid hch
      clear hch hlt hk
      go_upto_region 5 with fail
      refine wp_region_sem ?_
      show SemOps _ _ _ [0, 1, 2] _ _
      refine SemOps.value rfl rfl (v := .chan (some c)) (w' := wr) (by simp [execOp, Act.eval, go_sem]) ?_
      refine SemOps.value rfl rfl (v := .int .i64 k) (w' := wr) (by simp [execOp, Act.eval, go_sem]) ?_
      refine SemOps.send_room (c := c) (v := .int .i64 k) (z' := .tuple #[]) rfl rfl (by simp [execOp, scase, Act.eval, Act.put, go_sem]) HCH.out HZ.out ?_
      refine SemOps.nil ?_
      obtain ⟨w9, hw9⟩ : ∃ w9, w9 = wr.setChan c 1440 ((bufN 0 k).push (.int .i64 k)) false (k + 1) 0 false := ⟨_, rfl⟩
      have HH : Hid (w9.heap[c]? = some (.chan 1440 (bufN 0 (k + 1)) false (k + 1) 0 false)) := Lib.hid (by rw [hw9, bufN_push]; exact heap_setChan _ _ _ _ _ _ _ _ (Array.getElem?_eq_some_iff.1 HCH.out).1)
      have hi9 : In w.heap.size w w9 := by rw [hw9]; exact hi.setChan HC.out _ _ _ _ _ _
      rw [← hw9]
      clear hw9
      simp only [Act.put, List.setIfInBounds_toArray, List.set_cons_zero, List.set_cons_succ, List.getElem_toArray, List.getElem_cons_zero, List.getElem_cons_succ]
      go_wp2
      go_roundw
      case rel => exact ⟨k + 1, by have := HN.out; omega, by go_num, HH.out, hi9⟩
      case measure => have := HN.out; simp [intOf]; omega
    · obtain rfl : k = N := by omega
      have HCH := Lib.hid hch
      have hki : ¬ (k : Int) < 1440 := by have := HN.out; omega
      obtain ⟨w9, hw9⟩ : ∃ w9, w9 = wr.setChan c 1440 (bufN 0 k) true k 0 false := ⟨_, rfl⟩
      have HH : Hid (w9.heap[c]? = some (.chan 1440 (bufN 0 k) true k 0 false)) := Lib.hid (by rw [hw9]; exact heap_setChan _ _ _ _ _ _ _ _ (Array.getElem?_eq_some_iff.1 hch).1)
      have hi9 : In w.heap.size w w9 := by rw [hw9]; exact hi.setChan HC.out _ _ _ _ _ _
      have hcl : ∀ ats ty, (Builtin.close_ ats ty #[.chan (some c)]).run Try.prog wr = .ok (.tuple #[]) w9 := fun ats ty => by rw [hw9]; exact run_close_open (P := Try.prog) (w := wr) ats ty hch
      clear hw9 hch hlt hk
      go_wp2
      go_ret
      refine ⟨c, rfl, ?_, HC.out, hi9.below⟩
      have h1 := HH.out
      obtain rfl : k = 1440 := HN.out.symm
      exact h1
theorem own_setChan {w : World} {base : Nat} {e : TypeId} {size n : Nat} {v : Value} {xs : List Value} (h : w.ownsRow base e size v n xs) {c : Nat} (hc : c < base) (cap : Nat) (buf : Array Value) (cl : Bool) (s r : Nat) (tm : Bool) : (w.setChan c cap buf cl s r tm).ownsRow base e size v n xs := by
  refine ⟨h.1, ?_⟩
  rcases h.2 with hn | ⟨g', cap', cur, hv, hg', hh, rest⟩
  · exact .inl hn
  · exact .inr ⟨g', cap', cur, hv, hg', (heap_setChan_of (by omega)).trans hh, rest⟩
theorem heap_below {w w' : World} {B c : Nat} (h : Below B w w') (hc : c < B) : w'.heap[c]? = w.heap[c]? := h.block c hc
/-- the powers of a day, appended one by one -/
theorem ipowersOf (A : Option Addr) (n c : Nat) (xs : List MachineR) (w : World) (h12 : n ≤ 12) (hs : ∀ i, i < n → maB (xs.getD i z26).f0 (xs.getD i z26).f1 (xs.getD i z26).f2 = true) (hx : ReadsMachine w A n xs) :
    Calls Try.prog 68 #[.slice A n c] w (RowB (fL (pwF xs n) 1440) w) := by
  obtain ⟨i0, hi0, hz0, hz1, hz2⟩ := info_parts infoN
  have HS := Lib.hid hs
  clear hs
  go_enter Try.func68, Try.ntmps68
  go_wp2_with fail
  refine (iminutesOfDay _).mono ?_
  rintro _ w1 ⟨ch, rfl, hch, hcw, hb1⟩
  have i1 : In w.heap.size w w1 := ⟨hb1, hb1.size⟩
  have HC := Lib.hid hcw
  have hcl : ch < w1.heap.size := (Array.getElem?_eq_some_iff.1 hch).1
  have HCL := Lib.hid hcl
  have own0 : w1.ownsRow w1.heap.size 3 1 (.slice none 0 0) 0 (iv []) := ⟨rfl, .inl ⟨rfl, rfl⟩⟩
  obtain ⟨N, hN⟩ : ∃ N : Nat, 1440 = N := ⟨_, rfl⟩
  have HN := Lib.hid hN
  rw [hN] at hch
  obtain ⟨B1, hB1⟩ : ∃ B1 : Nat, w1.heap.size = B1 := ⟨_, rfl⟩
  have HB1 := Lib.hid hB1
  rw [hB1] at own0
  clear hN hcw hcl hb1 hB1
  go_upto_region 3 with fail
  go_loopw [3] (fun v wr => ∃ k m : Nat, k + m = N ∧ wr.heap[ch]? = some (.chan N (bufN k m) true N k false) ∧ wr.ownsRow B1 3 1 v k (iv (fL (pwF xs n) k)) ∧ In w.heap.size w wr ∧ B1 ≤ wr.heap.size) (fun v _ => N - (match v with | .slice _ k _ => k | _ => 0))
  case atStart => exact ⟨0, N, Nat.zero_add _, hch, own0, i1, by rw [HB1.out]; exact Nat.le_refl _⟩
  case round =>
    clear hch own0
    obtain ⟨k, m, hkm, hch, hown, hi, hB⟩ := hrel
    obtain ⟨A1, c1, rfl⟩ := own_shape_i hown
    cases m with
    | succ m =>
      have HCH := Lib.hid hch
      have hcb : ch < B1 := by have := HB1.out; have := HCL.out; omega
      have hpo := bufN_pop k m
      have hat := bufN_at k m
      have HSZ : Hid (0 < (bufN k (m + 1)).size) := Lib.hid (by rw [bufN_size]; omega)
      obtain ⟨w9, hw9⟩ : ∃ w9, w9 = wr.setChan ch N (bufN (k + 1) m) true N (k + 1) false := ⟨_, rfl⟩
      have HH : Hid (w9.heap[ch]? = some (.chan N (bufN (k + 1) m) true N (k + 1) false)) := Lib.hid (by rw [hw9]; exact heap_setChan _ _ _ _ _ _ _ _ (Array.getElem?_eq_some_iff.1 hch).1)
      have hi9 : In w.heap.size w w9 := by rw [hw9]; exact hi.setChan HC.out _ _ _ _ _ _
      have hown9 : w9.ownsRow B1 3 1 (.slice A1 k c1) k (iv (fL (pwF xs n) k)) := by rw [hw9]; exact own_setChan hown hcb _ _ _ _ _ _
      have hB9 : B1 ≤ w9.heap.size := by rw [hw9, size_setChan]; exact hB
      have HKM := Lib.hid hkm
      have hk14 : k + 1 ≤ 10000 := by have := HN.out; omega
      clear hch hown hi hB hkm
      go_upto_region 3 with fail
      refine wp_region_sem ?_
      show SemOps _ _ _ [0, 1] _ _
      refine SemOps.recv_buf true (c := ch) (z := .int .i64 0) rfl rfl (by simp [go_sem, rcase]) HCH.out HSZ.out ?_
      rw [hpo, hat]
      refine SemOps.value rfl rfl (v := .bool true) (w' := wr.setChan ch N (bufN (k + 1) m) true N (k + 1) false) (by simp [execOp, Act.eval, Act.put, got, go_sem]) ?_
      refine SemOps.nil ?_
      rw [← hw9]
      clear hw9 hpo hat
      simp only [Act.put, got, if_true, List.setIfInBounds_toArray, List.set_cons_zero, List.set_cons_succ, List.getElem_toArray, List.getElem_cons_zero, List.getElem_cons_succ]
      go_wp2_with fail
      refine (ipowerAt A n c xs k _ h12 HS.out (hx.in_ hi9)).mono ?_
      rintro _ w2 ⟨rfl, hb2⟩
      have h2 : w2.heap[ch]? = some (.chan N (bufN (k + 1) m) true N (k + 1) false) := (heap_below (hb2.mono (Nat.le_refl _)) (by omega)).trans HH.out
      have hown2 := own_step hown9 hb2
      have hi2 := hi9.step hb2
      have hB2 : B1 ≤ w2.heap.size := Nat.le_trans hB9 hb2.size
      obtain ⟨y, hy⟩ : ∃ y, sumTo (pwG xs (k : Int)) n = y := ⟨_, rfl⟩
      have HY : Hid (fL (pwF xs n) (k + 1) = fL (pwF xs n) k ++ [y]) := Lib.hid (by rw [fL_s, ← hy]; rfl)
      rw [hy]
      clear hy hown9 hi9 hB9 hb2 HH
      have F1 : Hid (∀ u ∈ (#[Value.int .i64 y] : Array Value).toList, u.oneCell' = true) := Lib.hid (by intro u hu; simp at hu; subst hu; rfl)
      have f12 : k + 1 ≤ maxLen := by unfold maxLen; omega
      have f13 : (k + 1) * 8 ≤ 140737488355328 := by omega
      have HH2 := Lib.hid h2
      clear h2
      go_wp2_with (at_builtin; refine wpList_app w2 rfl (.tmp 9) (.tmp 13) 22 rfl B1 3 i0 (.int .i64 0) 1 8 Try.underlying22 hi0 hz0 hz1 hz2 rfl Nat.one_pos (.slice A1 k c1) k (iv (fL (pwF xs n) k)) rfl hown2 1 #[.int .i64 y] rfl rfl F1.out f12 f13 hB2 ?_; intro v1 w3 hown3 hbw3)
      have h3 : Hid (w3.heap[ch]? = some (.chan N (bufN (k + 1) m) true N (k + 1) false)) := Lib.hid ((heap_below hbw3 hcb).trans HH2.out)
      have hi3 : In w.heap.size w w3 := ⟨hi2.below.trans (hbw3.mono (by have := HB1.out; have := i1.size; omega)), by have := hi2.size; have := hbw3.size; omega⟩
      have hB3 : B1 ≤ w3.heap.size := Nat.le_trans hB2 hbw3.size
      obtain ⟨A3, c3, rfl⟩ := own_shape_i hown3
      have hown4 : w3.ownsRow B1 3 1 (.slice A3 (k + 1) c3) (k + 1) (iv (fL (pwF xs n) (k + 1))) := by rw [HY.out, iv_app]; exact hown3
      clear hown3 hown2 hi2 hB2 hbw3 f12 f13
      go_wp2
      go_roundw
      case rel => exact ⟨k + 1, m, by have := HKM.out; omega, h3.out, hown4, hi3, hB3⟩
      case measure => have := HKM.out; simp; omega
    | zero =>
      have HCH := Lib.hid hch
      obtain rfl : k = N := by omega
      have HK := Lib.hid hkm
      clear hch hkm
      go_upto_region 3 with fail
      refine wp_region_sem ?_
      show SemOps _ _ _ [0, 1] _ _
      refine SemOps.recv_shut true (c := ch) (z := .int .i64 0) rfl rfl (by simp [go_sem, rcase]) HCH.out ?_
      refine SemOps.value rfl rfl (v := .bool false) (w' := wr) (by simp [execOp, Act.eval, Act.put, got, go_sem]) ?_
      refine SemOps.nil ?_
      simp only [Act.put, got, if_true, List.setIfInBounds_toArray, List.set_cons_zero, List.set_cons_succ, List.getElem_toArray, List.getElem_cons_zero, List.getElem_cons_succ]
      go_wp2
      go_ret
      have hn := HN.out
      subst hn
      exact rowB_of (fL_len _ _) (own_base hown (by have := HB1.out; have := i1.size; omega)) hi.below
end Go.Proofs.Ythndjpklfgcpmaa
