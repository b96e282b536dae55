/- Chapter 3: DoughFor and LoavesFrom. -/
import Derived.Test.YtmlemplkbkgjfaaC03
import Derived.Deep.QuietTactic
import Derived.BigQuiet
import Derived.Deep.RegionHeld3
namespace Go.Proofs.Ytmlemplkbkgjfaa
open Go.ChangeShapes Go.WideShapes Go.ChangeAt Go.RowKit
set_option linter.unusedVariables false
set_option linter.unusedSimpArgs false

/-- the first n from g on with p, if it is found in k steps -/
def firstD (p : Int → Bool) : Nat → Int → Int
  | 0, g => g
  | k + 1, g => if p g then g else firstD p k (g + 1)
theorem firstD_eq (p : Int → Bool) (m : Int) (hp : p m = true) (k : Nat) : ∀ g : Int, g ≤ m → m - g ≤ k → (∀ x, g ≤ x → x < m → p x = false) → firstD p k g = m := by
  induction k with
  | zero => intro g h1 h2 _; simp only [firstD]; omega
  | succ k ih =>
    intro g h1 h2 h3
    by_cases e : g = m
    · subst e; simp [firstD, hp]
    · rw [firstD, if_neg (by rw [h3 g (by omega) (by omega)]; decide)]
      exact ih (g + 1) (by omega) (by omega) fun x hx hy => h3 x (by omega) hy
def leastP (a l n : Int) : Bool := decide (a ≤ bk n l)
def doughV (a l : Int) : Int := if loafB a l then firstD (leastP a l) 10000 0 else -1
theorem dough_eq (a l m : Int) (h : loafB a l = true) (h0 : 0 ≤ m) (h1 : m ≤ 10000) (hp : a ≤ bk m l) (hn : ∀ x, 0 ≤ x → x < m → bk x l < a) : doughV a l = m := by
  rw [doughV, if_pos h]
  exact firstD_eq _ m (by simp [leastP, hp]) 10000 0 h0 (by omega) fun x h2 h3 => by have := hn x h2 h3; simp [leastP]; omega
theorem loaf_in {a l : Int} (h : loafB a l = true) : 10 ≤ a ∧ a ≤ 5000 ∧ 0 ≤ l ∧ l ≤ 40 := by
  simp only [loafB, Bool.and_eq_true] at h
  have h1 := inB_tt h.1
  have h2 := inB_tt h.2
  omega
theorem bk_le (n l : Int) (h : 0 ≤ n) (hl : 0 ≤ l) : bk n l ≤ n := by
  have : 0 ≤ n * l := Int.mul_nonneg h hl
  unfold bk; omega
theorem bk_top (a l : Int) (h : loafB a l = true) : a ≤ bk 10000 l := by
  have := loaf_in h
  unfold bk; omega
theorem bk_step (n l : Int) (hl : 0 ≤ l) (hl' : l ≤ 40) : bk n l ≤ bk (n + 1) l := by
  unfold bk
  have : (n + 1) * l = n * l + l := by rw [Int.add_mul]; simp
  rw [this]; omega
theorem bk_mono (l : Int) (hl : 0 ≤ l) (hl' : l ≤ 40) (n : Int) (d : Nat) : bk n l ≤ bk (n + d) l := by
  induction d with
  | zero => simp
  | succ d ih =>
    have := bk_step (n + d) l hl hl'
    have e : n + ((d + 1 : Nat) : Int) = n + d + 1 := by omega
    rw [e]; omega
theorem dheld2 {w w' : World} {a b : Int} (h : In w.heap.size w w') (k : Blk w' w.heap.size 74 #[.int .i64 a, .int .i64 b]) :
    In w.heap.size w w' ∧ Blk w' w.heap.size 74 #[.int .i64 a, .int .i64 b] ∧ w'.cell? ⟨w.heap.size, 0, none⟩ = some (.int .i64 a) ∧ w'.cell? ⟨w.heap.size, 1, none⟩ = some (.int .i64 b) := ⟨h, k, k.cell 0, k.cell 1⟩
set_option maxHeartbeats 1000000 in
theorem sDoughFor (a l : Int) (w : World) : Calls Try.prog 90 #[.agg #[.int .i64 a, .int .i64 l]] w (Val (i64 (doughV a l)) w) := by
  have q0 : Blk (w.alloc (.cells #[.int .i64 a, .int .i64 l] 74)) w.heap.size 74 #[.int .i64 a, .int .i64 l] := Blk.new w _ _
  cases h : loafB a l
  · have HV : Hid (doughV a l = -1) := Lib.hid (by simp [doughV, h])
    go_enter Try.func90, Try.ntmps90
    go_wp2_with (first | (go_at_call 82; refine (sIn _ _ _ _).mono ?_; rintro e w' ⟨rfl, rfl⟩) | (go_at_call 85; refine (iIn _ _ _ _).mono ?_; rintro e w' ⟨rfl, rfl⟩) | (go_at_call 81; refine (sLoafOk _ _ _).mono ?_; rintro _ w1 ⟨rfl, hb1⟩) | go_in | (go_end0; simp only []; go_at_K))
    go_ret
    exact Val.mk' (v_int HV.out.symm) (by (repeat (first | exact In.refl _ | assumption | apply In.alloc | apply In.drewN | apply In.drew | (refine In.step ?_ (by assumption)))))
  obtain ⟨b1, b2, b3, b4⟩ := loaf_in h
  have HL := Lib.hid h
  have HT := Lib.hid (bk_top a l h)
  go_enter Try.func90, Try.ntmps90
  go_wp2_with fail
  refine (sLoafOk a l _).mono ?_
  rintro _ w1 ⟨rfl, hb1⟩
  have i1 : In w.heap.size w w1 := In.step (by (repeat (first | exact In.refl _ | assumption | apply In.alloc | apply In.drewN | apply In.drew | (refine In.step ?_ (by assumption))))) hb1
  have k1 := Blk.step q0 hb1
  have c0 : w1.cell? ⟨w.heap.size, 0, none⟩ = some (.int .i64 a) := k1.cell 0
  clear hb1 q0
  go_wp2
  clear h
  go_loopw [3] (fun t wr => ∃ n : Int, a ≤ n ∧ n ≤ 10000 ∧ t = .int .i64 n ∧ In w.heap.size w wr ∧ Blk wr w.heap.size 74 #[.int .i64 a, .int .i64 l] ∧ ∀ x, 0 ≤ x → x < n → bk x l < a) (fun t _ => 10000 - (intOf t).toNat)
  case atStart => exact ⟨a, Int.le_refl _, by omega, rfl, i1, k1, fun x h1 h2 => by have := bk_le x l h1 b3; omega⟩
  case round =>
    clear i1 k1 c0
    obtain ⟨n, n1, n2, rfl, i1, k1, hn⟩ := hrel
    have HN := Lib.hid hn
    clear hn
    have c0 : wr.cell? ⟨w.heap.size, 0, none⟩ = some (.int .i64 a) := k1.cell 0
    have c1 : wr.cell? ⟨w.heap.size, 1, none⟩ = some (.int .i64 l) := k1.cell 1
    have hv : bakedV a l n = bk n l := by rw [bakedV, HL.out, inB_t (by omega)]; rfl
    have HB := Lib.hid hv
    clear hv
    by_cases ht : a ≤ bk n l
    · have hx : a ≤ bakedV a l n := by rw [HB.out]; exact ht
      have HTT := Lib.hid ht
      clear ht
      go_wp2
      go_region_held3 (fun w' => In w.heap.size w w' ∧ Blk w' w.heap.size 74 #[.int .i64 a, .int .i64 l] ∧ w'.cell? ⟨w.heap.size, 0, none⟩ = some (.int .i64 a) ∧ w'.cell? ⟨w.heap.size, 1, none⟩ = some (.int .i64 l))
        (first | assumption | exact dheld2 (In.step (And.left (by assumption)) hb1) (Blk.step (And.left (And.right (by assumption))) hb1) | exact dheld2 (by (repeat (first | exact In.refl _ | assumption | apply In.alloc | apply In.drewN | apply In.drew | (refine In.step ?_ (by assumption))))) (by (with_reducible (repeat (first | assumption | apply Blk.drewN | apply Blk.drew | apply Blk.alloc)))))
        (first | (go_at_call 112; ((with_reducible refine (sBakedWeight a l n _).mono ?_); rintro e w1 ⟨rfl, hb1⟩)))
      obtain ⟨i2, k2, hz⟩ := ‹In w.heap.size w _ ∧ _›
      clear hz
      go_wp2
      go_ret
      exact Val.mk' (v_int (dough_eq a l n HL.out (by omega) n2 HTT.out HN.out).symm) (by (repeat (first | exact In.refl _ | assumption | apply In.alloc | apply In.drewN | apply In.drew | (refine In.step ?_ (by assumption)))))
    · have hx : bakedV a l n < a := by rw [HB.out]; omega
      have hlt : n < 10000 := by
        rcases Int.lt_or_eq_of_le n2 with h | h
        · exact h
        · exfalso; have := HT.out; rw [h] at ht; exact ht this
      have HTT : Hid (bk n l < a) := Lib.hid (by omega)
      clear ht
      go_wp2
      go_region_held3 (fun w' => In w.heap.size w w' ∧ Blk w' w.heap.size 74 #[.int .i64 a, .int .i64 l] ∧ w'.cell? ⟨w.heap.size, 0, none⟩ = some (.int .i64 a) ∧ w'.cell? ⟨w.heap.size, 1, none⟩ = some (.int .i64 l))
        (first | assumption | exact dheld2 (In.step (And.left (by assumption)) hb1) (Blk.step (And.left (And.right (by assumption))) hb1) | exact dheld2 (by (repeat (first | exact In.refl _ | assumption | apply In.alloc | apply In.drewN | apply In.drew | (refine In.step ?_ (by assumption))))) (by (with_reducible (repeat (first | assumption | apply Blk.drewN | apply Blk.drew | apply Blk.alloc)))))
        (first | (go_at_call 112; ((with_reducible refine (sBakedWeight a l n _).mono ?_); rintro e w1 ⟨rfl, hb1⟩)))
      obtain ⟨i2, k2, hz⟩ := ‹In w.heap.size w _ ∧ _›
      clear hz
      go_wp2
      go_roundw
      case rel => exact ⟨n + 1, by omega, by omega, rfl, by (repeat (first | exact In.refl _ | assumption | apply In.alloc | apply In.drewN | apply In.drew | (refine In.step ?_ (by assumption)))), by (with_reducible (repeat (first | assumption | apply Blk.drewN | apply Blk.drew | apply Blk.alloc))), fun x h1 h2 => by
        by_cases e : x = n
        · rw [e]; exact HTT.out
        · exact HN.out x h1 (by omega)⟩
      case measure => simp [intOf]; omega
theorem c39 (l d : Int) (g : Nat) (w : World) (hk : Blk w g 3 #[.int .i64 l]) (h1 : 0 ≤ d) (h2 : d ≤ 10000) (h3 : 0 ≤ l) (h4 : l ≤ 40) :
    Calls Try.prog 130 #[.int .i64 d, .pointer (some ⟨g, 0, none⟩)] w (Same (i64 ((d * l + 99) / 100)) w) := by
  have c0 : w.cell? ⟨g, 0, none⟩ = some (.int .i64 l) := hk.cell 0
  obtain ⟨b1, b2⟩ := mul_in h1 h2 h3 h4
  go_enter Try.func130, Try.ntmps130
  go_wp2
  go_ret
  exact ⟨rfl, rfl⟩
theorem cBaked (l d : Int) (g : Nat) (w : World) (hk : Blk w g 3 #[.int .i64 l]) (h1 : 0 ≤ d) (h2 : d ≤ 10000) (h3 : 0 ≤ l) (h4 : l ≤ 40) :
    Calls Try.prog 129 #[.int .i64 d, .func (Fn.func 130) #[] #[.pointer (some ⟨g, 0, none⟩)]] w (Same (i64 (bk d l)) w) := by
  obtain ⟨b1, b2⟩ := mul_in h1 h2 h3 h4
  go_enter Try.func129, Try.ntmps129
  go_wp2_with (first | (go_at_call 82; refine (sIn _ _ _ _).mono ?_; rintro e w' ⟨rfl, rfl⟩) | (go_at_call 85; refine (iIn _ _ _ _).mono ?_; rintro e w' ⟨rfl, rfl⟩) | (go_at_call 130; refine (c39 l d g _ hk h1 h2 h3 h4).mono ?_; rintro _ _ ⟨rfl, rfl⟩) | go_in | (go_end0; simp only []; go_at_K))
  go_ret
  exact ⟨rfl, rfl⟩
/-- the call answers v, and at most orders are drawn -/
def Dr (v : Value) (w : World) (e : Ending) (w' : World) : Prop := e = .returned v ∧ ∃ k, w' = w.drewN k
theorem bk_in (d l : Int) (h1 : 0 ≤ d) (h2 : d ≤ 10000) (h3 : 0 ≤ l) (h4 : l ≤ 40) : -5000 ≤ bk d l ∧ bk d l ≤ 10000 := by
  obtain ⟨b1, b2⟩ := mul_in h1 h2 h3 h4
  unfold bk; omega
theorem c38 (a l d : Int) (g gl gw : Nat) (w : World) (hk : Blk w g 3 #[.int .i64 l]) (hl : Blk w gl 135 #[.func (Fn.func 130) #[] #[.pointer (some ⟨g, 0, none⟩)]]) (hw : Blk w gw 3 #[.int .i64 a])
    (h1 : 0 ≤ d) (h2 : d ≤ 10000) (h3 : 0 ≤ l) (h4 : l ≤ 40) :
    Calls Try.prog 128 #[.int .i64 d, .pointer (some ⟨gl, 0, none⟩), .pointer (some ⟨gw, 0, none⟩)] w (Dr (.bool (decide (a ≤ bk d l))) w) := by
  have c0 : w.cell? ⟨gl, 0, none⟩ = some (.func (Fn.func 130) #[] #[.pointer (some ⟨g, 0, none⟩)]) := hl.cell 0
  have c1 : w.cell? ⟨gw, 0, none⟩ = some (.int .i64 a) := hw.cell 0
  obtain ⟨b1, b2⟩ := bk_in d l h1 h2 h3 h4
  go_enter Try.func128, Try.ntmps128
  go_wp2
  go_quiet ((go_at_call 129; exact Calls.quiet_of_same ((cBaked l d g _ (hk.drewN _) h1 h2 h3 h4).mono fun _ _ h => ⟨h.1, h.2.symm⟩)))
  go_wp2
  go_ret
  exact ⟨rfl, _, rfl⟩
theorem cSearch (a l : Int) (g gl gw : Nat) (w : World) (hk : Blk w g 3 #[.int .i64 l]) (hl : Blk w gl 135 #[.func (Fn.func 130) #[] #[.pointer (some ⟨g, 0, none⟩)]]) (hw : Blk w gw 3 #[.int .i64 a]) (h : loafB a l = true) :
    Calls Try.prog 127 #[.int .i64 10000, .func (Fn.func 128) #[] #[.pointer (some ⟨gl, 0, none⟩), .pointer (some ⟨gw, 0, none⟩)]] w (Val (i64 (doughV a l)) w) := by
  obtain ⟨b1, b2, b3, b4⟩ := loaf_in h
  have HL := Lib.hid h
  have HT := Lib.hid (bk_top a l h)
  clear h
  go_enter Try.func127, Try.ntmps127
  go_wp2
  go_loopw [5, 6] (fun s t wr => ∃ (i j : Int) (q : Nat), 0 ≤ i ∧ i ≤ j ∧ j ≤ 10000 ∧ s = .int .i64 i ∧ t = .int .i64 j ∧ wr = w.drewN q ∧ a ≤ bk j l ∧ ∀ x, 0 ≤ x → x < i → bk x l < a) (fun s t _ => (intOf t - intOf s).toNat)
  case atStart => exact ⟨0, 10000, 0, by omega, by omega, by omega, rfl, rfl, rfl, HT.out, fun x h1 h2 => by omega⟩
  case round =>
    obtain ⟨i, j, q, i1, i2, i3, rfl, rfl, rfl, hj, hi⟩ := hrel
    have HJ := Lib.hid hj
    have HI := Lib.hid hi
    clear hj hi
    by_cases hlt : i < j
    · by_cases ht : a ≤ bk ((i + j) / 2) l
      · have hd : decide (a ≤ bk ((i + j) / 2) l) = true := by simpa using ht
        have HTT := Lib.hid ht
        clear ht
        go_wp2_with fail
        refine (c38 a l ((i + j) / 2) g gl gw _ (hk.drewN _) (hl.drewN _) (hw.drewN _) (by omega) (by omega) b3 b4).mono ?_
        rintro _ _ ⟨rfl, q2, rfl⟩
        rw [hd]
        clear hd
        go_wp2
        go_roundw
        case rel => exact ⟨i, (i + j) / 2, q + q2, by omega, by omega, by omega, rfl, rfl, rfl, HTT.out, HI.out⟩
        case measure => simp [intOf]; omega
      · have hd : decide (a ≤ bk ((i + j) / 2) l) = false := by simpa using ht
        have HTT : Hid (bk ((i + j) / 2) l < a) := Lib.hid (by omega)
        clear ht
        go_wp2_with fail
        refine (c38 a l ((i + j) / 2) g gl gw _ (hk.drewN _) (hl.drewN _) (hw.drewN _) (by omega) (by omega) b3 b4).mono ?_
        rintro _ _ ⟨rfl, q2, rfl⟩
        rw [hd]
        clear hd
        go_wp2
        go_roundw
        case rel => exact ⟨(i + j) / 2 + 1, j, q + q2, by omega, by omega, by omega, rfl, rfl, rfl, HJ.out, fun x h1 h2 => by
          have h3 := bk_mono l b3 b4 x ((i + j) / 2 - x).toNat
          have e : x + (((i + j) / 2 - x).toNat : Int) = (i + j) / 2 := by omega
          rw [e] at h3
          have := HTT.out
          omega⟩
        case measure => simp [intOf]; omega
    · obtain rfl : i = j := by omega
      go_wp2
      go_ret
      exact ⟨ret_int (dough_eq a l i HL.out i1 i3 HJ.out HI.out).symm, below_drewN (Below.refl _ _) _⟩
theorem ilossIn (l : Int) (w : World) : Calls Try.prog 115 #[.int .i64 l] w fun e w' => e = .returned (.func (Fn.func 130) #[] #[.pointer (some ⟨w.heap.size, 0, none⟩)]) ∧ w.alloc (.cells #[.int .i64 l] 3) = w' := by
  go_enter Try.func115, Try.ntmps115
  go_wp2
  go_ret
  exact ⟨rfl, rfl⟩
theorem ileast (a l : Int) (g : Nat) (w : World) (hk : Blk w g 3 #[.int .i64 l]) (h : loafB a l = true) :
    Calls Try.prog 114 #[.int .i64 a, .func (Fn.func 130) #[] #[.pointer (some ⟨g, 0, none⟩)]] w (Val (i64 (doughV a l)) w) := by
  have q0 : Blk ((w.alloc (.cells #[.int .i64 a] 3)).alloc (.cells #[.func (Fn.func 130) #[] #[.pointer (some ⟨g, 0, none⟩)]] 135)) w.heap.size 3 #[.int .i64 a] := (Blk.new w _ _).alloc _
  have q1 : Blk ((w.alloc (.cells #[.int .i64 a] 3)).alloc (.cells #[.func (Fn.func 130) #[] #[.pointer (some ⟨g, 0, none⟩)]] 135)) (w.heap.size + 1) 135 #[.func (Fn.func 130) #[] #[.pointer (some ⟨g, 0, none⟩)]] := by
    have h := Blk.new (w.alloc (.cells #[.int .i64 a] 3)) 135 #[.func (Fn.func 130) #[] #[.pointer (some ⟨g, 0, none⟩)]]
    simpa using h
  have HH := Lib.hid h
  clear h
  go_enter Try.func114, Try.ntmps114
  go_wp2_with fail
  refine (cSearch a l g (w.heap.size + 1) w.heap.size _ ((hk.alloc _).alloc _) q1 q0 HH.out).mono ?_
  rintro _ w1 ⟨rfl, hb1⟩
  go_wp2
  go_ret
  exact Val.mk' rfl (by (repeat (first | exact In.refl _ | assumption | apply In.alloc | apply In.drewN | apply In.drew | (refine In.step ?_ (by assumption)))))
theorem iDoughFor (a l : Int) (w : World) : Calls Try.prog 92 #[.agg #[.int .i64 a, .int .i64 l]] w (Val (i64 (doughV a l)) w) := by
  have q0 : Blk (w.alloc (.cells #[.int .i64 a, .int .i64 l] 74)) w.heap.size 74 #[.int .i64 a, .int .i64 l] := Blk.new w _ _
  cases h : loafB a l
  · have HV : Hid (doughV a l = -1) := Lib.hid (by simp [doughV, h])
    go_enter Try.func92, Try.ntmps92
    go_wp2_with (first | (go_at_call 82; refine (sIn _ _ _ _).mono ?_; rintro e w' ⟨rfl, rfl⟩) | (go_at_call 85; refine (iIn _ _ _ _).mono ?_; rintro e w' ⟨rfl, rfl⟩) | (go_at_call 84; refine (iLoafOk _ _ _).mono ?_; rintro _ w1 ⟨rfl, hb1⟩) | go_in | (go_end0; simp only []; go_at_K))
    go_ret
    exact Val.mk' (v_int HV.out.symm) (by (repeat (first | exact In.refl _ | assumption | apply In.alloc | apply In.drewN | apply In.drew | (refine In.step ?_ (by assumption)))))
  have HL := Lib.hid h
  go_enter Try.func92, Try.ntmps92
  go_wp2_with fail
  refine (iLoafOk a l _).mono ?_
  rintro _ w1 ⟨rfl, hb1⟩
  rw [HL.out]
  have i1 : In w.heap.size w w1 := In.step (by (repeat (first | exact In.refl _ | assumption | apply In.alloc | apply In.drewN | apply In.drew | (refine In.step ?_ (by assumption))))) hb1
  have k1 := Blk.step q0 hb1
  have c0 : w1.cell? ⟨w.heap.size, 0, none⟩ = some (.int .i64 a) := k1.cell 0
  have c1 : w1.cell? ⟨w.heap.size, 1, none⟩ = some (.int .i64 l) := k1.cell 1
  clear hb1 q0 h
  go_wp2
  go_region_held3 (fun w' => In w.heap.size w w' ∧ Blk w' w.heap.size 74 #[.int .i64 a, .int .i64 l] ∧ w'.cell? ⟨w.heap.size, 0, none⟩ = some (.int .i64 a) ∧ w'.cell? ⟨w.heap.size, 1, none⟩ = some (.int .i64 l))
    (first | assumption | exact dheld2 (In.step (And.left (by assumption)) hb1) (Blk.step (And.left (And.right (by assumption))) hb1) | exact dheld2 (In.alloc (And.left (by assumption)) _) (Blk.alloc (And.left (And.right (by assumption))) _) | exact dheld2 (by (repeat (first | exact In.refl _ | assumption | apply In.alloc | apply In.drewN | apply In.drew | (refine In.step ?_ (by assumption))))) (by (with_reducible (repeat (first | assumption | apply Blk.drewN | apply Blk.drew | apply Blk.alloc)))))
    (first | (go_at_call 115; ((with_reducible refine (ilossIn l _).mono ?_); rintro e w1 ⟨rfl, rfl⟩)) | (go_at_call 114; ((with_reducible refine (ileast a l _ _ ?_ HL.out).mono ?_); (first | exact (Blk.new _ _ _).drew | exact Blk.new _ _ _); rintro e w1 ⟨rfl, hb1⟩)))
  obtain ⟨i2, k2, hz⟩ := ‹In w.heap.size w _ ∧ _›
  clear hz
  go_wp2
  go_ret
  exact Val.mk' rfl (by (repeat (first | exact In.refl _ | assumption | apply In.alloc | apply In.drewN | apply In.drew | (refine In.step ?_ (by assumption)))))
end Go.Proofs.Ytmlemplkbkgjfaa
