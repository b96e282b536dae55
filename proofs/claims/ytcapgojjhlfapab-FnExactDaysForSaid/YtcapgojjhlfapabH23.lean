/- Chapter 23: DepthOf. -/
import Derived.Test.YtcapgojjhlfapabF23
namespace Go.Proofs.Ytcapgojjhlfapab
open Go.ChangeShapes Go.WideShapes Go.ChangeAt Go.RowKit
set_option linter.unusedVariables false
set_option linter.unusedSimpArgs false
set_option maxHeartbeats 2000000

/-- block g holds the numbers f -/
def Nums (w : World) (g n : Nat) (f : Nat → Int) : Prop := ∃ cur : Array Value, Blk w g 3 cur ∧ cur.size = n ∧ ∀ t : Nat, t < n → cur[t]? = some (.int .i64 (f t))
def updI (f : Nat → Int) (i : Nat) (v : Int) (t : Nat) : Int := if t = i then v else f t
theorem Nums.set_ {w : World} {g n : Nat} {f : Nat → Int} (h : Nums w g n f) (i : Nat) (v : Int) : Nums (w.setCell ⟨g, i, none⟩ (.int .i64 v)) g n (updI f i v) := by
  obtain ⟨cur, hb, hs, hc⟩ := h
  refine ⟨_, hb.set_ i _, by simp; exact hs, fun u hu => ?_⟩
  rw [Array.getElem?_setIfInBounds, updI]
  by_cases e : i = u
  · subst e
    rw [if_pos rfl, if_pos (by omega), if_pos rfl]
  · rw [if_neg e, hc u hu, if_neg (by omega)]
theorem Nums.congr {w : World} {g n : Nat} {f f' : Nat → Int} (h : Nums w g n f) (he : ∀ t, t < n → f t = f' t) : Nums w g n f' := by
  obtain ⟨cur, hb, hs, hc⟩ := h
  exact ⟨cur, hb, hs, fun t ht => by rw [hc t ht, he t ht]⟩
theorem Nums.cell {w : World} {g n : Nat} {f : Nat → Int} (h : Nums w g n f) (t : Nat) (ht : t < n) : w.cell? ⟨g, t, none⟩ = some (.int .i64 (f t)) := by
  obtain ⟨cur, hb, hs, hc⟩ := h
  rw [hb.cell]; exact hc t ht
theorem Nums.free {w : World} {g n : Nat} {f : Nat → Int} (h : Nums w g n f) (t : Nat) : w.frozen? ⟨g, t, none⟩ = false := by
  obtain ⟨cur, hb, _⟩ := h
  exact hb.frozen t
theorem Nums.lt {w : World} {g n : Nat} {f : Nat → Int} (h : Nums w g n f) : g < w.heap.size := by
  obtain ⟨cur, hb, _⟩ := h
  exact hb.lt
theorem Nums.step {w w' : World} {g n : Nat} {f : Nat → Int} (h : Nums w g n f) (hb : Below w.heap.size w w') : Nums w' g n f := by
  obtain ⟨cur, hk, r⟩ := h
  exact ⟨cur, hk.step hb, r⟩
theorem Nums.drew {w : World} {g n : Nat} {f : Nat → Int} (h : Nums w g n f) : Nums w.drew g n f := h.step (Below.refl _ w).drew
theorem nums_made {w w1 : World} {n : Nat} (hown : w1.ownsRow w.heap.size 3 1 (.slice (some ⟨w.heap.size, 0, none⟩) n n) n (List.replicate n (Value.int .i64 0))) : Nums w1 w.heap.size n (fun _ => 0) := by
  rcases hown.2 with ⟨h, _⟩ | ⟨g, cap, cur, h, hg, hh, hnc, hcp, hcs, htake⟩
  · cases h
  · injection h with h1 h2 h3
    injection h1 with h1
    injection h1 with h1
    subst h1 h3
    refine ⟨cur, hh, by simpa using hcs, fun t ht => ?_⟩
    have h5 := congrArg (·[t]?) htake
    simp [ht] at h5
    simpa using h5
theorem ReadsI.only {w w' : World} {B : Option Addr} {n g : Nat} {xs : List Int} (h : ReadsI w B n xs) (hb : w.grownBy w' (some g)) (hne : ∀ a, B = some a → a.block ≠ g) : ReadsI w' B n xs := by
  refine ⟨h.1, fun k hk => ?_⟩
  obtain ⟨a, ha, hc⟩ := h.2 k hk
  refine ⟨a, ha, ?_⟩
  have hl := h.lt a ha (by omega)
  have hbk : (a.add k).block = a.block := block_of_add a k
  unfold World.cell? at hc ⊢
  rw [hbk] at hc ⊢
  rw [hb.block a.block hl (fun e => by injection e with e; exact hne a ha e)]
  exact hc
theorem ReadsI.setc {w : World} {B : Option Addr} {n g i : Nat} {v : Value} {xs : List Int} (h : ReadsI w B n xs) (hne : ∀ a, B = some a → a.block ≠ g) : ReadsI (w.setCell ⟨g, i, none⟩ v) B n xs := h.only (only_set ⟨g, i, none⟩ v) hne
theorem own_blk_ge {w : World} {Bs m c : Nat} {B : Option Addr} {xs : List Value} (ho : w.ownsRow Bs 3 1 (.slice B m c) m xs) : ∀ a, B = some a → Bs ≤ a.block := by
  intro a ha
  rcases ho.2 with ⟨h, _⟩ | ⟨g2, cap, cur2, h, hg, hh, _⟩
  · injection h with h1
    rw [h1] at ha; cases ha
  · injection h with h1
    rw [ha] at h1
    injection h1 with h1
    rw [h1]; exact hg
def mxN (f : Nat → Int) (ns : List Int) : Nat → Int
  | 0 => 0
  | t + 1 => if f (ns.getD t 0).toNat ≤ mxN f ns t then mxN f ns t else f (ns.getD t 0).toNat
def depF (n : Nat) (xs : List SkillR) (os : List Int) : Nat → (Nat → Int)
  | 0 => fun _ => 0
  | j + 1 => updI (depF n xs os j) (os.getD j 0).toNat (mxN (depF n xs os j) (needs xs (os.getD j 0).toNat) (needs xs (os.getD j 0).toNat).length + 1)
def depV (n : Nat) (xs : List SkillR) (k : Int) : Int := if skOk n xs && inB k 0 ((n : Int) - 1) then depF n xs (ordV n xs) n k.toNat else -1
theorem mxN_in {f : Nat → Int} {ns : List Int} {M : Int} (h : ∀ i, f i ≤ M) (h0 : 0 ≤ M) (t : Nat) : 0 ≤ mxN f ns t ∧ mxN f ns t ≤ M := by
  induction t with
  | zero => simp [mxN]; exact h0
  | succ t ih =>
    rw [mxN]
    have := h (ns.getD t 0).toNat
    split <;> omega
theorem depF_in (n : Nat) (xs : List SkillR) (os : List Int) (j : Nat) : ∀ i, 0 ≤ depF n xs os j i ∧ depF n xs os j i ≤ j := by
  induction j with
  | zero => intro i; simp [depF]
  | succ j ih =>
    intro i
    have h1 := mxN_in (f := depF n xs os j) (ns := needs xs (os.getD j 0).toNat) (M := j) (fun i => (ih i).2) (by omega) (needs xs (os.getD j 0).toNat).length
    have h2 := ih i
    rw [depF, updI]
    split <;> omega
/-- what has not been reached is zero -/
theorem depF_zero {n : Nat} {xs : List SkillR} {os : List Int} {j i : Nat} (h : ∀ t, t < j → (os.getD t 0).toNat ≠ i) : depF n xs os j i = 0 := by
  induction j with
  | zero => rfl
  | succ j ih =>
    rw [depF, updI, if_neg (fun e => h j (by omega) e.symm)]
    exact ih fun t ht => h t (by omega)
theorem ord_in {n : Nat} {xs : List SkillR} (j : Nat) (hj : j < (ordV n xs).length) : 0 ≤ (ordV n xs).getD j 0 ∧ (ordV n xs).getD j 0 < n := (ordT_dist n xs n).1 j hj
theorem dep_here {n : Nat} {xs : List SkillR} (j : Nat) (hj : j < (ordV n xs).length) : depF n xs (ordV n xs) j ((ordV n xs).getD j 0).toNat = 0 := depF_zero fun t ht => by
  have h1 := (ordT_dist n xs n).2 t j ht hj
  have h2 := ord_in t (n := n) (xs := xs) (by omega)
  have h3 := ord_in j (n := n) (xs := xs) hj
  have h1' : (ordV n xs).getD t 0 ≠ (ordV n xs).getD j 0 := h1
  omega
theorem okS_self {n : Nat} {xs : List SkillR} {k : Nat} (h : okS n xs k = true) : ∀ i, i < (needs xs k).length → (needs xs k).getD i 0 ≠ (k : Int) := by
  simp only [okS, skB, Bool.and_eq_true, Bool.not_eq_true'] at h
  exact hasN_f.1 h.2.2
set_option maxHeartbeats 8000000 in
theorem sDepthOf (A : Option Addr) (n c : Nat) (xs : List SkillR) (p : Int) (w : World) (hn : n ≤ maxLen) (hx : ReadsSkill w A n xs) : Calls Try.prog 25 #[.slice A n c, .int .i64 p] w (Val (.int .i64 (depV n xs p)) w) := by
  obtain ⟨i0, hi0, hz0, hz1, hz2⟩ := info_parts infoI
  have HV : Hid (depV n xs p = if skOk n xs && inB p 0 ((n : Int) - 1) then depF n xs (ordV n xs) n p.toNat else -1) := Lib.hid rfl
  go_enter Try.func25, Try.ntmps25
  go_wp2_with fail
  refine (sSkillsOk A n c xs _ hn hx).mono ?_
  rintro _ w1 ⟨rfl, hb1⟩
  cases h1 : skOk n xs
  · go_wp2
    go_ret
    exact Val.mk' (v_int (by rw [HV.out, h1]; rfl)) (by (repeat (first | exact In.refl _ | assumption | apply In.alloc | apply In.drewN | apply In.drew | (refine In.step ?_ (by assumption)))))
  have hn12 := (skOk_at h1).1
  go_wp2_with fail
  refine (sIn p 0 ((n : Int) - 1) _).mono ?_
  rintro _ _ ⟨rfl, rfl⟩
  cases h2 : inB p 0 ((n : Int) - 1)
  · go_wp2
    go_ret
    exact Val.mk' (v_int (by rw [HV.out, h1, h2]; rfl)) (by (repeat (first | exact In.refl _ | assumption | apply In.alloc | apply In.drewN | apply In.drew | (refine In.step ?_ (by assumption)))))
  have hp := inB_tt h2
  obtain ⟨P, rfl⟩ : ∃ P : Nat, p = (P : Int) := ⟨p.toNat, by omega⟩
  have HE : Hid (depV n xs (P : Nat) = depF n xs (ordV n xs) n P) := Lib.hid (by rw [HV.out, h1, h2]; rfl)
  have HOK := Lib.hid (skOk_at h1).2.1
  have HLEN := Lib.hid (skOk_at h1).2.2
  have hI1 : In w.heap.size w w1 := by (repeat (first | exact In.refl _ | assumption | apply In.alloc | apply In.drewN | apply In.drew | (refine In.step ?_ (by assumption))))
  have hX1 := hx.in_ hI1
  have HXX := Lib.hid hx
  clear hb1 HV h1 h2 hx
  go_wp2_with (at_make; refine wpList_make_full _ rfl (.tmp 22) (.tmp 22) 29 rfl w1.heap.size 3 i0 (.int .i64 0) 1 Try.underlying29 hi0 hz0 hz1 .i64 .i64 (n : Int) (n : Int) n rfl rfl rfl rfl ?h2 ?h3 ?h4 ?_)
  case h2 => rw [hz2]; omega
  case h3 => unfold maxLen; omega
  case h4 => exact Nat.le_refl _
  intro w2 hown0 hgrow0
  have hb0 : Below w1.heap.size w1 w2 := (Below.refl _ _).grown hgrow0 (Nat.le_refl _) (fun j hj => by cases hj)
  have hN2 : Nums w2 w1.heap.size n (fun _ => 0) := nums_made (by rw [toList_madeCells_one] at hown0; exact hown0)
  have hI2 := hI1.step hb0
  have hgw : w.heap.size ≤ w1.heap.size := hI1.size
  have hX2 := hX1.below hb0
  clear hgrow0 hown0 hb0 hI1 hX1
  generalize w1.heap.size = g at *
  go_wp2_with fail
  refine (sOrder A n c xs _ (by omega) HOK.out hX2).mono ?_
  rintro _ w3 ⟨B, d, rfl, hor, hb3⟩
  rw [HLEN.out] at hor ⊢
  have hN3 := hN2.step hb3
  have hI3 := hI2.step hb3
  have hgl := hN2.lt
  have HNE : Hid (∀ a, B = some a → a.block ≠ g) := Lib.hid fun a ha => by have := own_blk_ge hor a ha; omega
  have HRO := Lib.hid (reads_own_i hor)
  clear hor hX2 hN2 hI2 hb3
  go_wp2
  go_loopw [7] (fun i wr => ∃ j : Nat, j ≤ n ∧ i = .int .i64 j ∧ Nums wr g n (depF n xs (ordV n xs) j) ∧ In w.heap.size w wr ∧ ReadsI wr B n (ordV n xs)) (fun i _ => n - (intOf i).toNat)
  case atStart => exact ⟨0, Nat.zero_le _, rfl, hN3, hI3, HRO.out⟩
  case round =>
    clear hN3 hI3
    obtain ⟨j, hj, rfl, hN, hi, hg⟩ := hrel
    by_cases hlt : j < n
    · have HG := Lib.hid hg
      obtain ⟨a, rfl, ha⟩ := hg.2 j hlt
      have hin := ord_in (n := n) (xs := xs) j (by rw [HLEN.out]; exact hlt)
      have HZ := Lib.hid (dep_here (n := n) (xs := xs) j (by rw [HLEN.out]; exact hlt))
      have HD : Hid (depF n xs (ordV n xs) (j + 1) = updI (depF n xs (ordV n xs) j) ((ordV n xs).getD j 0).toNat (mxN (depF n xs (ordV n xs) j) (needs xs ((ordV n xs).getD j 0).toNat) (needs xs ((ordV n xs).getD j 0).toNat).length + 1)) := Lib.hid rfl
      have HB := Lib.hid (depF_in n xs (ordV n xs) j)
      generalize depF n xs (ordV n xs) j = f at *
      generalize hOV : ordV n xs = os at *
      have HOV := Lib.hid hOV
      clear hOV
      generalize os.getD j 0 = x at *
      obtain ⟨X, rfl⟩ : ∃ X : Nat, x = (X : Int) := ⟨x.toNat, by omega⟩
      simp only [Int.toNat_natCast] at HZ HD
      have hXn : X < n := by omega
      obtain ⟨a2, rfl, C, c', ⟨h0w, h9⟩, g1, g2, hrr⟩ := HXX.out.2 X hXn
      have h0 := cell_in h0w hi
      have hok2 := okS_in (HOK.out X hXn)
      have hself := okS_self (HOK.out X hXn)
      unfold needs at HD hok2 hself
      generalize (xs.getD X z23).f0 = ns at *
      have hnm : ns.length ≤ maxLen := Nat.le_trans g1 g2
      have HRW := Lib.hid hrr
      have HR := Lib.hid (hrr.below hi.below (Nat.le_refl _))
      have HOK2 := Lib.hid hok2
      have HSELF := Lib.hid hself
      clear g1 g2 hrr h9 h0w hok2 hself hin hg
      unfold maxLen at hnm
      obtain ⟨w8, rfl⟩ : ∃ w8, w8 = wr := ⟨_, rfl⟩
      have HN8 := Lib.hid hN
      have hgx := hN.cell X hXn
      have hfx := hN.free X
      clear hN
      go_wp2
      go_loopw [8, 9] (fun v i wr => ∃ t : Nat, t ≤ ns.length ∧ i = .int .i64 t ∧ v = .int .i64 (mxN f ns t) ∧ wr = w8) (fun _ i _ => ns.length - (intOf i).toNat)
      case atStart => exact ⟨0, Nat.zero_le _, rfl, rfl, rfl⟩
      case round =>
        obtain ⟨t, ht, rfl, rfl, hww⟩ := hrel
        subst hww
        have hmx := mxN_in (f := f) (ns := ns) (M := j) (fun i => (HB.out i).2) (by omega) t
        by_cases hlt2 : t < ns.length
        · obtain ⟨b, rfl, hb⟩ := HR.out.2 t hlt2
          have hy := HOK2.out t hlt2
          have HM1 : Hid (mxN f ns (t + 1) = if f (ns.getD t 0).toNat ≤ mxN f ns t then mxN f ns t else f (ns.getD t 0).toNat) := Lib.hid rfl
          generalize mxN f ns t = M at *
          generalize ns.getD t 0 = y at *
          obtain ⟨Y, rfl⟩ : ∃ Y : Nat, y = (Y : Int) := ⟨y.toNat, by omega⟩
          simp only [Int.toNat_natCast] at HM1
          have hYn : Y < n := by omega
          have cy := HN8.out.cell Y hYn
          have hfy := HB.out Y
          generalize f Y = F at *
          clear hy
          by_cases hle : F ≤ M
          · have HM2 := Lib.hid (HM1.out.trans (if_pos hle))
            go_wp2
            go_roundw
            case rel => exact ⟨t + 1, by omega, by go_num, v_int (by rw [HM2.out]), by first | rfl | trivial⟩
            case measure => simp [intOf]; omega
          · have HM2 := Lib.hid (HM1.out.trans (if_neg hle))
            have hle2 : M < F := by omega
            go_wp2
            go_roundw
            case rel => exact ⟨t + 1, by omega, by go_num, v_int (by rw [HM2.out]), by first | rfl | trivial⟩
            case measure => simp [intOf]; omega
        · obtain rfl : t = ns.length := by omega
          generalize mxN f ns ns.length = M at *
          have hi2 : In w.heap.size w (wr.setCell ⟨g, X, none⟩ (.int .i64 (M + 1))) := hi.set_ (p := ⟨g, X, none⟩) hgw _
          have hg2 := HG.out.setc (i := X) (v := .int .i64 (M + 1)) HNE.out
          have hN2 := HN8.out.set_ X (M + 1)
          go_wp2
          go_roundw
          case rel => exact ⟨j + 1, by omega, by go_num, by rw [HD.out]; exact hN2, hi2, hg2⟩
          case measure => simp [intOf]; omega
    · obtain rfl : j = n := by omega
      have cp := hN.cell P (by omega)
      go_wp2
      go_ret
      exact Val.mk' (v_int HE.out.symm) (by (repeat (first | exact In.refl _ | assumption | apply In.alloc | apply In.drewN | apply In.drew | (refine In.step ?_ (by assumption)))))
theorem iHas (A : Option Addr) (n c : Nat) (p : Int) (w : World) (hn : n ≤ 1000) : Calls Try.prog 42 #[.slice A n c, .int .i64 p] w (Same (.bool (inB p 0 ((n : Int) - 1))) w) := by
  go_enter Try.func42, Try.ntmps42
  go_wp2_with fail
  refine (iIn p 0 ((n : Int) - 1) _).mono ?_
  rintro _ _ ⟨rfl, rfl⟩
  go_wp2
  go_ret
  exact ⟨rfl, rfl⟩
set_option maxHeartbeats 8000000 in
theorem iDepthOf (A : Option Addr) (n c : Nat) (xs : List SkillR) (p : Int) (w : World) (hn : n ≤ maxLen) (hx : ReadsSkill w A n xs) : Calls Try.prog 26 #[.slice A n c, .int .i64 p] w (Val (.int .i64 (depV n xs p)) w) := by
  obtain ⟨i0, hi0, hz0, hz1, hz2⟩ := info_parts infoI
  have HV : Hid (depV n xs p = if skOk n xs && inB p 0 ((n : Int) - 1) then depF n xs (ordV n xs) n p.toNat else -1) := Lib.hid rfl
  go_enter Try.func26, Try.ntmps26
  go_wp2_with fail
  refine (iSkillsOk A n c xs _ hn hx).mono ?_
  rintro _ w1 ⟨rfl, hb1⟩
  cases h1 : skOk n xs
  · go_wp2
    go_ret
    exact Val.mk' (v_int (by rw [HV.out, h1]; rfl)) (by (repeat (first | exact In.refl _ | assumption | apply In.alloc | apply In.drewN | apply In.drew | (refine In.step ?_ (by assumption)))))
  have hn12 := (skOk_at h1).1
  go_wp2_with fail
  refine (iHas A n c p _ (by omega)).mono ?_
  rintro _ _ ⟨rfl, rfl⟩
  cases h2 : inB p 0 ((n : Int) - 1)
  · go_wp2
    go_ret
    exact Val.mk' (v_int (by rw [HV.out, h1, h2]; rfl)) (by (repeat (first | exact In.refl _ | assumption | apply In.alloc | apply In.drewN | apply In.drew | (refine In.step ?_ (by assumption)))))
  have hp := inB_tt h2
  obtain ⟨P, rfl⟩ : ∃ P : Nat, p = (P : Int) := ⟨p.toNat, by omega⟩
  have HE : Hid (depV n xs (P : Nat) = depF n xs (ordV n xs) n P) := Lib.hid (by rw [HV.out, h1, h2]; rfl)
  have HOK := Lib.hid (skOk_at h1).2.1
  have HLEN := Lib.hid (skOk_at h1).2.2
  have hI1 : In w.heap.size w w1 := by (repeat (first | exact In.refl _ | assumption | apply In.alloc | apply In.drewN | apply In.drew | (refine In.step ?_ (by assumption))))
  have hX1 := hx.in_ hI1
  have HXX := Lib.hid hx
  clear hb1 HV h1 h2 hx
  go_wp2_with (at_make; refine wpList_make_full _ rfl (.tmp 20) (.tmp 20) 29 rfl w1.heap.size 3 i0 (.int .i64 0) 1 Try.underlying29 hi0 hz0 hz1 .i64 .i64 (n : Int) (n : Int) n rfl rfl rfl rfl ?h2 ?h3 ?h4 ?_)
  case h2 => rw [hz2]; omega
  case h3 => unfold maxLen; omega
  case h4 => exact Nat.le_refl _
  intro w2 hown0 hgrow0
  have hb0 : Below w1.heap.size w1 w2 := (Below.refl _ _).grown hgrow0 (Nat.le_refl _) (fun j hj => by cases hj)
  have hN2 : Nums w2 w1.heap.size n (fun _ => 0) := nums_made (by rw [toList_madeCells_one] at hown0; exact hown0)
  have hI2 := hI1.step hb0
  have hgw : w.heap.size ≤ w1.heap.size := hI1.size
  have hX2 := hX1.below hb0
  clear hgrow0 hown0 hb0 hI1 hX1
  generalize w1.heap.size = g at *
  go_wp2_with fail
  refine (iOrder A n c xs _ (by omega) hX2).mono ?_
  rintro _ w3 ⟨B, d, rfl, hor, hb3⟩
  rw [HLEN.out] at hor ⊢
  have hN3 := hN2.step hb3
  have hI3 := hI2.step hb3
  have hgl := hN2.lt
  have HNE : Hid (∀ a, B = some a → a.block ≠ g) := Lib.hid fun a ha => by have := own_blk_ge hor a ha; omega
  have HRO := Lib.hid (reads_own_i hor)
  clear hor hX2 hN2 hI2 hb3
  go_wp2
  go_loopw [25] (fun i wr => ∃ j : Nat, j ≤ n ∧ i = .int .i64 j ∧ Nums wr g n (depF n xs (ordV n xs) j) ∧ In w.heap.size w wr ∧ ReadsI wr B n (ordV n xs)) (fun i _ => n - (intOf i).toNat)
  case atStart => exact ⟨0, Nat.zero_le _, rfl, hN3, hI3, HRO.out⟩
  case round =>
    clear hN3 hI3
    obtain ⟨j, hj, rfl, hN, hi, hg⟩ := hrel
    by_cases hlt : j < n
    · have HG := Lib.hid hg
      obtain ⟨a, rfl, ha⟩ := hg.2 j hlt
      have hin := ord_in (n := n) (xs := xs) j (by rw [HLEN.out]; exact hlt)
      have HZ := Lib.hid (dep_here (n := n) (xs := xs) j (by rw [HLEN.out]; exact hlt))
      have HD : Hid (depF n xs (ordV n xs) (j + 1) = updI (depF n xs (ordV n xs) j) ((ordV n xs).getD j 0).toNat (mxN (depF n xs (ordV n xs) j) (needs xs ((ordV n xs).getD j 0).toNat) (needs xs ((ordV n xs).getD j 0).toNat).length + 1)) := Lib.hid rfl
      have HB := Lib.hid (depF_in n xs (ordV n xs) j)
      generalize depF n xs (ordV n xs) j = f at *
      generalize hOV : ordV n xs = os at *
      have HOV := Lib.hid hOV
      clear hOV
      generalize os.getD j 0 = x at *
      obtain ⟨X, rfl⟩ : ∃ X : Nat, x = (X : Int) := ⟨x.toNat, by omega⟩
      simp only [Int.toNat_natCast] at HZ HD
      have hXn : X < n := by omega
      obtain ⟨a2, rfl, C, c', ⟨h0w, h9⟩, g1, g2, hrr⟩ := HXX.out.2 X hXn
      have h0 := cell_in h0w hi
      have hok2 := okS_in (HOK.out X hXn)
      have hself := okS_self (HOK.out X hXn)
      unfold needs at HD hok2 hself
      generalize (xs.getD X z23).f0 = ns at *
      have hnm : ns.length ≤ maxLen := Nat.le_trans g1 g2
      have HRW := Lib.hid hrr
      have HR := Lib.hid (hrr.below hi.below (Nat.le_refl _))
      have HOK2 := Lib.hid hok2
      have HSELF := Lib.hid hself
      clear g1 g2 hrr h9 h0w hok2 hself hin hg
      unfold maxLen at hnm
      go_wp2
      have hN0 : Nums wr g n (updI f X (mxN f ns 0)) := hN.congr fun t ht => by
        rw [updI]
        split
        · rename_i e; subst e; rw [HZ.out]; rfl
        · rfl
      clear hN h0 ha
      go_loopw [35] (fun i wr => ∃ t : Nat, t ≤ ns.length ∧ i = .int .i64 t ∧ Nums wr g n (updI f X (mxN f ns t)) ∧ In w.heap.size w wr ∧ ReadsI wr (some a) n os) (fun i _ => ns.length - (intOf i).toNat)
      case atStart => exact ⟨0, Nat.zero_le _, rfl, hN0, hi, HG.out⟩
      case round =>
        clear hN0 hi HG
        obtain ⟨t, ht, rfl, hN, hi, hg⟩ := hrel
        have HG := Lib.hid hg
        clear hg
        have hmx := mxN_in (f := f) (ns := ns) (M := j) (fun i => (HB.out i).2) (by omega) t
        have cX := hN.cell X hXn
        have fX := hN.free X
        rw [updI, if_pos rfl] at cX
        by_cases hlt2 : t < ns.length
        · obtain ⟨b, rfl, hb⟩ := (HRW.out.below hi.below (Nat.le_refl _)).2 t hlt2
          have hy := HOK2.out t hlt2
          have hs := HSELF.out t hlt2
          have HM1 : Hid (mxN f ns (t + 1) = if f (ns.getD t 0).toNat ≤ mxN f ns t then mxN f ns t else f (ns.getD t 0).toNat) := Lib.hid rfl
          have HUU : Hid (∀ V, updI (updI f X (mxN f ns t)) X V = updI f X V) := Lib.hid fun V => by funext u; simp only [updI]; split <;> rfl
          generalize mxN f ns t = M at *
          generalize ns.getD t 0 = y at *
          obtain ⟨Y, rfl⟩ : ∃ Y : Nat, y = (Y : Int) := ⟨y.toNat, by omega⟩
          simp only [Int.toNat_natCast] at HM1
          have hYn : Y < n := by omega
          have hYX : Y ≠ X := by omega
          have cy := hN.cell Y hYn
          rw [updI, if_neg hYX] at cy
          have hfy := HB.out Y
          generalize f Y = F at *
          have HNN := Lib.hid hN
          clear hy hs hYX hN
          by_cases hle : F ≤ M
          · have HM2 := Lib.hid (HM1.out.trans (if_pos hle))
            have hle2 : ¬ M < F := by omega
            have hN9 : Nums ((wr.setCell ⟨g, X, none⟩ (.int .i64 M)).drew) g n (updI f X (mxN f ns (t + 1))) := by
              rw [HM2.out, ← HUU.out M]
              exact (HNN.out.set_ X M).drew
            have hi9 : In w.heap.size w ((wr.setCell ⟨g, X, none⟩ (.int .i64 M)).drew) := (hi.set_ (p := ⟨g, X, none⟩) hgw _).drew
            have hg9 := (HG.out.setc (i := X) (v := .int .i64 M) HNE.out).drew
            go_wp2
            go_region
            go_wp2
            go_roundw
            case rel => exact ⟨t + 1, by omega, by go_num, hN9, hi9, hg9⟩
            case measure => simp [intOf]; omega
          · have HM2 := Lib.hid (HM1.out.trans (if_neg hle))
            have hle2 : M < F := by omega
            have hN9 : Nums ((wr.setCell ⟨g, X, none⟩ (.int .i64 F)).drew) g n (updI f X (mxN f ns (t + 1))) := by
              rw [HM2.out, ← HUU.out F]
              exact (HNN.out.set_ X F).drew
            have hi9 : In w.heap.size w ((wr.setCell ⟨g, X, none⟩ (.int .i64 F)).drew) := (hi.set_ (p := ⟨g, X, none⟩) hgw _).drew
            have hg9 := (HG.out.setc (i := X) (v := .int .i64 F) HNE.out).drew
            go_wp2
            go_region
            go_wp2
            go_roundw
            case rel => exact ⟨t + 1, by omega, by go_num, hN9, hi9, hg9⟩
            case measure => simp [intOf]; omega
        · obtain rfl : t = ns.length := by omega
          have HUU : Hid (∀ V, updI (updI f X (mxN f ns ns.length)) X V = updI f X V) := Lib.hid fun V => by funext u; simp only [updI]; split <;> rfl
          generalize mxN f ns ns.length = M at *
          have hi2 : In w.heap.size w (wr.setCell ⟨g, X, none⟩ (.int .i64 (M + 1))) := hi.set_ (p := ⟨g, X, none⟩) hgw _
          have hg2 := HG.out.setc (i := X) (v := .int .i64 (M + 1)) HNE.out
          have hN2 := hN.set_ X (M + 1)
          rw [HUU.out] at hN2
          clear hN
          go_wp2
          go_roundw
          case rel => exact ⟨j + 1, by omega, by go_num, by rw [HD.out]; exact hN2, hi2, hg2⟩
          case measure => simp [intOf]; omega
    · obtain rfl : j = n := by omega
      have cp := hN.cell P (by omega)
      go_wp2
      go_ret
      exact Val.mk' (v_int HE.out.symm) (by (repeat (first | exact In.refl _ | assumption | apply In.alloc | apply In.drewN | apply In.drew | (refine In.step ?_ (by assumption)))))
end Go.Proofs.Ytcapgojjhlfapab
