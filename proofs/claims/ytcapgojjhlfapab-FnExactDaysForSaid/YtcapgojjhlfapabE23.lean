/- Chapter 23: the order, as the model finds it. -/
import Derived.Test.YtcapgojjhlfapabD23
namespace Go.Proofs.Ytcapgojjhlfapab
open Go.ChangeShapes Go.WideShapes Go.ChangeAt Go.RowKit
set_option linter.unusedVariables false
set_option linter.unusedSimpArgs false
set_option maxHeartbeats 2000000

theorem infoB : (Try.prog.info? 4).map (fun i => (i.zero, i.size, i.bytes)) = some (some (.bool false), 1, 1) := by kernel_rfl
/-- block g holds the truths f -/
def Marks (w : World) (g n : Nat) (f : Nat → Bool) : Prop := ∃ cur : Array Value, Blk w g 4 cur ∧ cur.size = n ∧ ∀ t : Nat, t < n → cur[t]? = some (.bool (f t))
theorem Marks.set_ {w : World} {g n : Nat} {f f' : Nat → Bool} (h : Marks w g n f) (t : Nat) (ht : ∀ u, u < n → f' u = (f u || (u == t))) : Marks (w.setCell ⟨g, t, none⟩ (.bool true)) g n f' := by
  obtain ⟨cur, hb, hs, hc⟩ := h
  refine ⟨_, hb.set_ t _, by simp; exact hs, fun u hu => ?_⟩
  rw [Array.getElem?_setIfInBounds, ht u hu]
  by_cases e : t = u
  · subst e
    rw [if_pos rfl, if_pos (by omega)]
    simp
  · rw [if_neg e, hc u hu]
    have : (u == t) = false := by simp; omega
    rw [this, Bool.or_false]
theorem Marks.cell {w : World} {g n : Nat} {f : Nat → Bool} (h : Marks w g n f) (t : Nat) (ht : t < n) : w.cell? ⟨g, t, none⟩ = some (.bool (f t)) := by
  obtain ⟨cur, hb, hs, hc⟩ := h
  rw [hb.cell]; exact hc t ht
theorem Marks.free {w : World} {g n : Nat} {f : Nat → Bool} (h : Marks w g n f) (t : Nat) : w.frozen? ⟨g, t, none⟩ = false := by
  obtain ⟨cur, hb, _⟩ := h
  exact hb.frozen t
theorem Marks.lt {w : World} {g n : Nat} {f : Nat → Bool} (h : Marks w g n f) : g < w.heap.size := by
  obtain ⟨cur, hb, _⟩ := h
  exact hb.lt
theorem Marks.grown {w w' : World} {g n : Nat} {f : Nat → Bool} {b : Option Nat} (h : Marks w g n f) (hb : w.grownBy w' b) (hne : some g ≠ b) : Marks w' g n f := by
  have hl := h.lt
  obtain ⟨cur, hk, r⟩ := h
  exact ⟨cur, (hb.block g hl hne).trans hk, r⟩
theorem Marks.alloc {w : World} {g n : Nat} {f : Nat → Bool} (h : Marks w g n f) (o : Obj) : Marks (w.alloc o) g n f := by
  obtain ⟨cur, hk, r⟩ := h
  exact ⟨cur, hk.alloc o, r⟩
theorem marks_made {w w1 : World} {n : Nat} (hown : w1.ownsRow w.heap.size 4 1 (.slice (some ⟨w.heap.size, 0, none⟩) n n) n (List.replicate n (Value.bool false))) : Marks w1 w.heap.size n (fun _ => false) := by
  rcases hown.2 with ⟨h, _⟩ | ⟨g, cap, cur, h, hg, hh, hnc, hcp, hcs, htake⟩
  · cases h
  · injection h with h1 h2 h3
    injection h1 with h1
    injection h1 with h1
    subst h1 h3
    refine ⟨cur, hh, by simpa using hcs, fun t ht => ?_⟩
    have h5 := congrArg (·[t]?) htake
    simp [ht] at h5
    simpa using h5
theorem Marks.ne {w : World} {g n m B : Nat} {f : Nat → Bool} {v : Value} {xs : List Value} (h : Marks w g n f) (ho : w.ownsRow B 3 1 v m xs) : some g ≠ v.ownBlock := by
  obtain ⟨cur, hk, _⟩ := h
  rcases ho.2 with ⟨rfl, _⟩ | ⟨g2, cap, cur2, rfl, hg, hh, _⟩
  · simp [Value.ownBlock]
  · intro e
    simp [Value.ownBlock] at e
    subst e
    have := hk.symm.trans hh
    injection this with this
    injection this with _ h2 _
    exact absurd h2 (by decide)
theorem own_far {w : World} {g n m B t : Nat} {f : Nat → Bool} {v u : Value} {xs : List Value} (h : Marks w g n f) (ho : w.ownsRow B 3 1 v m xs) : (w.setCell ⟨g, t, none⟩ u).ownsRow B 3 1 v m xs := by
  have hne := h.ne ho
  refine ⟨ho.1, ?_⟩
  rcases ho.2 with ⟨rfl, h0⟩ | ⟨g2, cap, cur2, rfl, hg, hh, r⟩
  · exact .inl ⟨rfl, h0⟩
  · refine .inr ⟨g2, cap, cur2, rfl, hg, ?_, r⟩
    have hne2 : g2 ≠ g := fun e => hne (by simp [Value.ownBlock, e])
    have hlt : g2 < w.heap.size := by
      rcases Nat.lt_or_ge g2 w.heap.size with h1 | h1
      · exact h1
      · simp [Array.getElem?_eq_none h1] at hh
    exact ((only_set ⟨g, t, none⟩ u).block g2 hlt (fun e => by injection e with e; exact hne2 e)).trans hh
theorem own_ge {w : World} {B m : Nat} {v : Value} {xs : List Value} (ho : w.ownsRow B 3 1 v m xs) : ∀ j, v.ownBlock = some j → B ≤ j := by
  intro j hj
  rcases ho.2 with ⟨rfl, _⟩ | ⟨g2, cap, cur2, rfl, hg, hh, _⟩
  · simp [Value.ownBlock] at hj
  · simp [Value.ownBlock] at hj
    omega
theorem In.grownOwn {B : Nat} {a w w' : World} {b : Option Nat} (hi : In B a w) (hg : w.grownBy w' b) (hb : ∀ j, b = some j → B ≤ j) : In B a w' := ⟨hi.below.grown hg hi.size hb, Nat.le_trans hi.size hg.size⟩
def sliceLen : Value → Nat
  | .slice _ m _ => m
  | _ => 0
theorem ordV_stop {n j : Nat} {xs : List SkillR} (h : nxt n xs (ordT n xs j) < 0) (hj : j ≤ n) : ordV n xs = ordT n xs j := ordT_stop h n hj
set_option maxHeartbeats 8000000 in
theorem sOrder (A : Option Addr) (n c : Nat) (xs : List SkillR) (w : World) (hn : n ≤ 1000) (hok : ∀ i, i < n → okS n xs i = true) (hx : ReadsSkill w A n xs) : Calls Try.prog 33 #[.slice A n c] w (RowB (ordV n xs) w) := by
  obtain ⟨i0, hi0, hz0, hz1, hz2⟩ := info_parts infoI
  obtain ⟨j0, hj0, hy0, hy1, hy2⟩ := info_parts infoB
  have hown0 : (w.alloc (.cells #[] 3)).ownsRow w.heap.size 3 1 (.slice (some ⟨w.heap.size, 0, none⟩) 0 0) 0 (iv []) := own_new w 3 w.heap.size (Nat.le_refl _)
  have hI0 : In w.heap.size w (w.alloc (.cells #[] 3)) := by (repeat (first | exact In.refl _ | assumption | apply In.alloc | apply In.drewN | apply In.drew | (refine In.step ?_ (by assumption))))
  have HXX := Lib.hid hx
  have HOK := Lib.hid hok
  clear hx hok
  go_enter Try.func33, Try.ntmps33
  go_wp2_with (at_make; generalize (w.alloc (.cells #[] 3)) = w0 at *; refine wpList_make_full _ rfl (.tmp 11) (.tmp 11) 51 rfl w0.heap.size 4 j0 (.bool false) 1 Try.underlying51 hj0 hy0 hy1 .i64 .i64 (n : Int) (n : Int) n rfl rfl rfl rfl ?h2 ?h3 ?h4 ?_)
  case h2 => rw [hy2]; omega
  case h3 => unfold maxLen; omega
  case h4 => exact Nat.le_refl _
  intro w1 hown1 hgrow0
  have hb0 : Below w0.heap.size w0 w1 := (Below.refl _ _).grown hgrow0 (Nat.le_refl _) (fun j hj => by cases hj)
  have hM1 : Marks w1 w0.heap.size n (fun _ => false) := marks_made (by rw [toList_madeCells_one] at hown1; exact hown1)
  have hown2 := own_step hown0 hb0
  have hI1 := hI0.step hb0
  have hgw : w.heap.size ≤ w0.heap.size := hI0.size
  clear hgrow0 hown1 hb0 hown0 hI0
  generalize w0.heap.size = g at *
  go_wp2
  go_loopw [3] (fun v wr => ∃ j : Nat, j ≤ n ∧ (ordT n xs j).length = j ∧ wr.ownsRow w.heap.size 3 1 v j (iv (ordT n xs j)) ∧ Marks wr g n (fun t => hasN (ordT n xs j) (t : Nat)) ∧ In w.heap.size w wr) (fun v _ => n - sliceLen v)
  case atStart => exact ⟨0, Nat.zero_le _, rfl, hown2, hM1, hI1⟩
  case round =>
    clear hown2 hM1 hI1
    obtain ⟨j, hj, hlen, hown, hM, hi⟩ := hrel
    obtain ⟨A1, c1, rfl⟩ := own_shape_i hown
    have HSt : Hid (∀ k : Nat, nxt n xs (ordT n xs j) = k → ordT n xs (j + 1) = ordT n xs j ++ [(k : Int)] ∧ j < n) := Lib.hid fun k h => ⟨ordT_t h (by omega), by have := nxt_full (n := n) (xs := xs) (j := j) (by omega); omega⟩
    have HSf : Hid (nxt n xs (ordT n xs j) < 0 → ordV n xs = ordT n xs j) := Lib.hid fun h => ordV_stop h hj
    generalize ordT n xs j = L at *
    have HM := Lib.hid hlen
    clear hlen
    obtain ⟨w8, rfl⟩ : ∃ w8, w8 = wr := ⟨_, rfl⟩
    have HXW := Lib.hid (HXX.out.in_ hi)
    have HOWN := Lib.hid hown
    have HMK := Lib.hid hM
    clear hown hM
    go_wp2
    go_loopw [5, 6] (fun b i wr => ∃ k : Nat, k ≤ n ∧ i = .int .i64 k ∧ wr = w8 ∧ ((b = .int .i64 (-1) ∧ ∀ t, t < k → openB xs L t = false) ∨ ∃ q : Nat, q < n ∧ b = .int .i64 q ∧ nxt n xs L = q)) (fun _ i _ => n - (intOf i).toNat)
    case atStart => exact ⟨0, Nat.zero_le _, rfl, rfl, .inl ⟨rfl, fun t ht => absurd ht (Nat.not_lt_zero _)⟩⟩
    case round =>
      obtain ⟨k, hk, rfl, rfl, hst⟩ := hrel
      rcases hst with ⟨rfl, ho⟩ | ⟨q, hq, rfl, hqn⟩
      · have HO := Lib.hid ho
        clear ho
        by_cases hkn : k < n
        · obtain ⟨a, rfl, C, c', ⟨h0, h1⟩, g1, g2, hr⟩ := HXW.out.2 k hkn
          have hin := okS_in (HOK.out k hkn)
          have HV : Hid (openB xs L k = (!hasN L k && allOk (fun i => hasN L ((needs xs k).getD i 0)) (needs xs k).length)) := Lib.hid rfl
          unfold needs at HV hin
          generalize (xs.getD k z23).f0 = ns at *
          have hnm : ns.length ≤ maxLen := Nat.le_trans g1 g2
          have HR := Lib.hid hr
          have HIN := Lib.hid hin
          have ck := HMK.out.cell k hkn
          generalize hhk : hasN L k = hk0 at *
          clear g1 g2 hr hin hhk h1
          unfold maxLen at hnm
          go_wp2
          clear ck
          go_loopw [7, 8] (fun r i wr2 => ∃ t : Nat, t ≤ ns.length ∧ i = .int .i64 t ∧ wr2 = wr ∧ r = .bool (!hk0 && allOk (fun i => hasN L (ns.getD i 0)) t)) (fun _ i _ => ns.length - (intOf i).toNat)
          case atStart => exact ⟨0, Nat.zero_le _, rfl, rfl, by simp [allOk]⟩
          case round =>
            obtain ⟨t, ht, rfl, hww, rfl⟩ := hrel
            subst hww
            have HR1 : Hid ((!hk0 && allOk (fun i => hasN L (ns.getD i 0)) (t + 1)) = ((!hk0 && allOk (fun i => hasN L (ns.getD i 0)) t) && hasN L (ns.getD t 0))) := Lib.hid (by simp only [allOk, Bool.and_assoc])
            by_cases hlt : t < ns.length
            · obtain ⟨b, rfl, hb⟩ := HR.out.2 t hlt
              have hx9 := HIN.out t hlt
              generalize (!hk0 && allOk (fun i => hasN L (ns.getD i 0)) t) = r at *
              generalize ns.getD t 0 = x at *
              obtain ⟨X, rfl⟩ : ∃ X : Nat, x = (X : Int) := ⟨x.toNat, by omega⟩
              have cx := HMK.out.cell X (by omega)
              have hXn : X < n := by omega
              clear hx9
              cases r
              · go_wp2
                go_roundw
                case rel => exact ⟨t + 1, by omega, by go_num, by first | rfl | trivial, by rw [HR1.out]; rfl⟩
                case measure => simp [intOf]; omega
              · go_wp2
                go_roundw
                case rel => exact ⟨t + 1, by omega, by go_num, by first | rfl | trivial, by rw [HR1.out]; rfl⟩
                case measure => simp [intOf]; omega
            · obtain rfl : t = ns.length := by omega
              clear HR1
              rw [← HV.out]
              cases h1 : openB xs L k
              · go_wp2
                go_roundw
                case rel => exact ⟨k + 1, by omega, by go_num, by first | rfl | trivial, .inl ⟨rfl, fun u hu => by
                    by_cases e : u = k
                    · subst e; exact h1
                    · exact HO.out u (by omega)⟩⟩
                case measure => simp [intOf]; omega
              · have HS := Lib.hid (fstP_at hkn HO.out h1)
                go_wp2
                go_roundw
                case rel => exact ⟨k + 1, by omega, by go_num, by first | rfl | trivial, .inr ⟨k, hkn, rfl, HS.out⟩⟩
                case measure => simp [intOf]; omega
        · obtain rfl : k = n := by omega
          have HS := Lib.hid (HSf.out (fstP_neg.2 HO.out))
          go_wp2
          go_ret
          rw [HS.out]
          exact rowB_of HM.out HOWN.out hi.below
      · obtain ⟨hS1, hjn⟩ := HSt.out q hqn
        have HS1 := Lib.hid hS1
        have cq := HMK.out.cell q hq
        have zq := HMK.out.free q
        have ownI := own_far (t := q) (u := .bool true) HMK.out HOWN.out
        have hmk2 : Marks (wr.setCell ⟨g, q, none⟩ (.bool true)) g n (fun t => hasN (L ++ [(q : Int)]) (t : Nat)) := HMK.out.set_ q fun u hu => by
          rw [hasN_app]
          congr 1
          rw [Bool.eq_iff_iff, beq_iff_eq, beq_iff_eq]
          omega
        have hne := hmk2.ne ownI
        have hi2 : In w.heap.size w (wr.setCell ⟨g, q, none⟩ (.bool true)) := hi.set_ (p := ⟨g, q, none⟩) hgw _
        have hBi := hi2.size
        have hM6 : j + 1 ≤ 1000000 := by omega
        have HMK2 := Lib.hid hmk2
        have SP : Hid ((wr.setCell ⟨g, q, none⟩ (.bool true)).heap.size = wr.heap.size) := Lib.hid (by simp)
        have HNE := Lib.hid hne
        clear hS1 hmk2 hne hqn
        by_cases hkn : k < n
        all_goals
          go_wp2_with (first | (go_at_call 30; refine (sIn _ _ _ _).mono ?_; rintro e w' ⟨rfl, rfl⟩) | (go_at_call 35; refine (iIn _ _ _ _).mono ?_; rintro e w' ⟨rfl, rfl⟩) | (at_builtin; (refine wpList_app3 (wr.setCell ⟨g, q, none⟩ (.bool true)) rfl (.tmp 60) (.tmp 62) 29 rfl w.heap.size i0 (.int .i64 0) Try.underlying29 hi0 hz0 hz1 hz2 rfl (.slice A1 j c1) j L rfl ownI (q : Int) ((show _ = Value.slice (some ⟨wr.heap.size, 0, none⟩) 1 1 from rfl).trans (congrArg (fun z => Value.slice (some ⟨z, 0, none⟩) 1 1) SP.out.symm)) hM6 hBi ?_); intro v9 w9 hown9 hgr9))
          have hi9 := hi2.grownOwn hgr9 (own_ge ownI)
          have hmk9 := HMK2.out.grown hgr9 HNE.out
          obtain ⟨A2, c2, rfl⟩ := own_shape_i hown9
          clear hgr9 ownI cq zq hi2 hBi
          go_wp2
          go_roundw
          case rel => exact ⟨j + 1, by omega, by rw [HS1.out, List.length_append, HM.out]; rfl, by rw [HS1.out]; exact hown9, by rw [HS1.out]; exact hmk9, hi9⟩
          case measure => simp only [sliceLen]; omega
end Go.Proofs.Ytcapgojjhlfapab
