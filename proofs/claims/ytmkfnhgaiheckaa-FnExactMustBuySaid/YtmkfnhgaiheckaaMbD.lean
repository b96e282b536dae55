/- Chapter 36: taking from a stock; FirstMissing. -/
import Derived.IntWalk
import Derived.Lib.LazyBuf
import Derived.Lib.SliceRun
import Derived.Test.YtmkfnhgaiheckaaC36
namespace Go.Proofs.Ytmkfnhgaiheckaa
open Go.ChangeShapes Go.WideShapes Go.ChangeAt Go.RowKit
set_option linter.unusedVariables false
set_option linter.unusedSimpArgs false
set_option maxHeartbeats 2000000

/-- the first place below n at which p holds, or -1 -/
def fstP (p : Nat → Bool) : Nat → Int
  | 0 => -1
  | n + 1 => if 0 ≤ fstP p n then fstP p n else if p n then n else -1
theorem fstP_no {p : Nat → Bool} {n : Nat} (h : ∀ i, i < n → p i = false) : fstP p n = -1 := by
  induction n with
  | zero => rfl
  | succ n ih => rw [fstP, ih fun i hi => h i (by omega), if_neg (by omega), if_neg (by simp [h n (by omega)])]
theorem fstP_at {p : Nat → Bool} {n k : Nat} (hk : k < n) (h : ∀ i, i < k → p i = false) (hp : p k = true) : fstP p n = k := by
  induction n with
  | zero => omega
  | succ n ih =>
    rw [fstP]
    rcases Nat.lt_or_ge k n with h1 | h1
    · rw [ih h1, if_pos (by omega)]
    · obtain rfl : k = n := by omega
      rw [fstP_no h, if_neg (by omega), if_pos hp]
theorem fstP_in (p : Nat → Bool) (n : Nat) : -1 ≤ fstP p n ∧ fstP p n < n := by
  induction n with
  | zero => simp [fstP]
  | succ n ih => rw [fstP]; split; · omega
                 · split <;> omega
theorem fstP_nn {p : Nat → Bool} {n : Nat} (i : Nat) (hi : i < n) (hp : p i = true) : 0 ≤ fstP p n := by
  induction n with
  | zero => omega
  | succ n ih =>
    rw [fstP]
    split
    · assumption
    · rename_i h
      rcases Nat.lt_or_ge i n with h1 | h1
      · exact absurd (ih h1) h
      · obtain rfl : i = n := by omega
        rw [if_pos hp]; omega
theorem fstP_neg {p : Nat → Bool} {n : Nat} : fstP p n < 0 ↔ ∀ i, i < n → p i = false := by
  constructor
  · intro h i hi
    cases hp : p i
    · rfl
    · have := fstP_nn i hi hp; omega
  · intro h; rw [fstP_no h]; omega
theorem fstP_congr {p q : Nat → Bool} {n : Nat} (h : ∀ i, i < n → p i = q i) : fstP p n = fstP q n := by
  induction n with
  | zero => rfl
  | succ n ih => rw [fstP, fstP, ih fun i hi => h i (by omega), h n (by omega)]
/-- a row, amounts of which the first k are taken -/
def subTo (n : Nat) (ys am : List Int) (k : Nat) : List Int := (List.range n).map fun i => if i < k then ys.getD i 0 - am.getD i 0 else ys.getD i 0
theorem subTo_len (n : Nat) (ys am : List Int) (k : Nat) : (subTo n ys am k).length = n := by simp [subTo]
theorem subTo_at (n : Nat) (ys am : List Int) (k i : Nat) (h : i < n) : (subTo n ys am k).getD i 0 = if i < k then ys.getD i 0 - am.getD i 0 else ys.getD i 0 := by simp [subTo, h]
theorem subTo_0 {n : Nat} {ys : List Int} (am : List Int) (h : ys.length = n) : subTo n ys am 0 = ys := by
  refine list_at (by simp [subTo, h]) fun t ht => ?_
  rw [subTo_len] at ht
  rw [subTo_at _ _ _ _ _ ht, if_neg (by omega)]
theorem subTo_set {n : Nat} (ys am : List Int) {k : Nat} (h : k < n) : (subTo n ys am k).set k (ys.getD k 0 - am.getD k 0) = subTo n ys am (k + 1) := by
  apply List.ext_getElem
  · simp [subTo]
  · intro i h1 h2
    rw [List.getElem_set]
    simp only [subTo, List.getElem_map, List.getElem_range]
    by_cases e : k = i
    · subst e; simp
    · rw [if_neg e]
      by_cases h3 : i < k
      · rw [if_pos h3, if_pos (by omega)]
      · rw [if_neg h3, if_neg (by omega)]
theorem cell_same {w w' : World} {p : Addr} (h : w'.heap[p.block]? = w.heap[p.block]?) : w'.cell? p = w.cell? p := by unfold World.cell?; rw [h]
theorem reads_only {w w' : World} {g g' n : Nat} {xs : List Int} (h : ReadsI w (some ⟨g, 0, none⟩) n xs) (hb : w.grownBy w' (some g')) (hne : g ≠ g') : ReadsI w' (some ⟨g, 0, none⟩) n xs := by
  refine ⟨h.1, fun k hk => ?_⟩
  obtain ⟨ad, ha, hc⟩ := h.2 k hk
  refine ⟨ad, ha, ?_⟩
  injection ha with ha
  subst ha
  rw [cell_same, hc]
  rw [block_of_add]
  exact hb.block g (h.lt _ rfl (by omega)) (fun e => hne (Option.some.inj e))
theorem OwnC.put {w : World} {g n c : Nat} {xs : List Int} (h : OwnC w g n c xs) (k : Nat) (x : Int) : OwnC (w.setCell ⟨g, k, none⟩ (.int .i64 x)) g n c (xs.set k x) := by
  have h2 : w.ownsRow g 3 1 (.slice (some ⟨g, 0, none⟩) n c) n (iv xs) := h
  have := (h2.stored k (.int .i64 x)).1
  rw [← iv_set] at this
  exact this
theorem OwnC.cellI {w : World} {g n c : Nat} {xs : List Int} (h : OwnC w g n c xs) {k : Nat} (hk : k < n) : w.cell? ⟨g, k, none⟩ = some (.int .i64 (xs.getD k 0)) := by
  have h2 : w.ownsRow g 3 1 (.slice (some ⟨g, 0, none⟩) n c) n (iv xs) := h
  rw [h2.cellAt k (by omega)]
  exact iv_at xs k (by rw [h.len]; exact hk)
theorem OwnC.free {w : World} {g n c : Nat} {xs : List Int} (h : OwnC w g n c xs) (k : Nat) : w.frozen? ⟨g, k, none⟩ = false := by
  have h2 : w.ownsRow g 3 1 (.slice (some ⟨g, 0, none⟩) n c) n (iv xs) := h
  exact h2.frozenAt k
def CL (gb : Nat) : Value := .func (Fn.func 191) #[] #[.pointer (some ⟨gb, 0, none⟩)]
def Took (xs : List Int) (w : World) (e : Ending) (w' : World) : Prop := ∃ g c gb, e = .returned (.tuple #[.agg #[.slice (some ⟨g, 0, none⟩) xs.length c], .func (Fn.func 191) #[] #[.pointer (some ⟨gb, 0, none⟩)]]) ∧ OwnC w' g xs.length c xs ∧ w.heap.size ≤ g ∧ Blk w' gb 90 #[.slice (some ⟨g, 0, none⟩) xs.length c] ∧ w.heap.size ≤ gb ∧ Below w.heap.size w w'
theorem itaking (ad : Addr) (n c : Nat) (xs : List Int) (w : World) (hn : n ≤ 10000000) (hx : ReadsI w (some ad) n xs) : Calls Try.prog 150 #[.agg #[.slice (some ad) n c]] w (Took xs w) := by
  have hlen := hx.1
  have HX := Lib.hid hx
  clear hx
  obtain ⟨b_A, hbx_A⟩ : ∃ b, b = w.heap.size := ⟨_, rfl⟩
  have kk_A : Blk ((w.alloc (.cells #[.slice (some ad) n c] 90)).alloc (.cells #[.slice none 0 0] 90)) b_A 90 #[.slice (some ad) n c] := ((Blk.new' (w := w) (t := 90) (cs := #[.slice (some ad) n c]) (g := b_A) (by simp [hbx_A])).alloc (.cells #[.slice none 0 0] 90))
  have hwb_A : w.heap.size ≤ b_A := by omega
  obtain ⟨b_R, hbx_R⟩ : ∃ b, b = w.heap.size + 1 := ⟨_, rfl⟩
  have kk_R : Blk ((w.alloc (.cells #[.slice (some ad) n c] 90)).alloc (.cells #[.slice none 0 0] 90)) b_R 90 #[.slice none 0 0] := (Blk.new' (w := (w.alloc (.cells #[.slice (some ad) n c] 90))) (t := 90) (cs := #[.slice none 0 0]) (g := b_R) (by simp [hbx_R]))
  have hwb_R : w.heap.size ≤ b_R := by omega
  have NB_A_R : Hid (b_A ≠ b_R) := Lib.hid (by omega)
  have hb_0 : Below w.heap.size w ((w.alloc (.cells #[.slice (some ad) n c] 90)).alloc (.cells #[.slice none 0 0] 90)) := by
    have h : In w.heap.size w ((w.alloc (.cells #[.slice (some ad) n c] 90)).alloc (.cells #[.slice none 0 0] 90)) := by (repeat (first | exact In.refl _ | assumption | apply In.alloc | apply In.drewN | apply In.drew | (refine In.step ?_ (by assumption))))
    exact h.below
  go_enter Try.func150, Try.ntmps150
  go_wp2_with fail
  rw [← hbx_R]
  clear hbx_R
  rw [← hbx_A]
  clear hbx_A
  generalize ((w.alloc (.cells #[.slice (some ad) n c] 90)).alloc (.cells #[.slice none 0 0] 90)) = w_0 at *
  have i_0 : In w.heap.size w w_0 := In.step (by (repeat (first | exact In.refl _ | assumption | apply In.alloc | apply In.drewN | apply In.drew | (refine In.step ?_ (by assumption))))) hb_0
  have k_0_A : Blk w_0 b_A 90 #[.slice (some ad) n c] := kk_A
  have c_0_A_0 : w_0.cell? ⟨b_A, 0, none⟩ = some (.slice (some ad) n c) := k_0_A.cell 0
  have k_0_R : Blk w_0 b_R 90 #[.slice none 0 0] := kk_R
  have c_0_R_0 : w_0.cell? ⟨b_R, 0, none⟩ = some (.slice none 0 0) := k_0_R.cell 0
  clear kk_A kk_R
  go_wp2_with fail
  refine (icopied ad n c xs _ hn (HX.out.below (In.below (by (repeat (first | exact In.refl _ | assumption | apply In.alloc | apply In.drewN | apply In.drew | (refine In.step ?_ (by assumption)))))) (Nat.le_refl _))).mono ?_
  rintro _ w_1 ⟨g_1, c_1, rfl, ho_1, hg_1, hb_1⟩
  rw [hlen] at ho_1
  rw [hlen]
  have GX_L : Hid (w.heap.size ≤ g_1) := Lib.hid (by have h1 := hg_1; (try simp at h1); have h2 := In.size i_0; omega)
  have o_1_L : OwnC w_1 g_1 (n) c_1 xs := ho_1
  clear ho_1 hg_1
  have i_1 : In w.heap.size w w_1 := In.step (by (repeat (first | exact In.refl _ | assumption | apply In.alloc | apply In.drewN | apply In.drew | (refine In.step ?_ (by assumption))))) hb_1
  have k_1_A : Blk w_1 b_A 90 #[.slice (some ad) n c] := Blk.step (by (with_reducible (repeat (first | assumption | exact Blk.new' (by simp) | apply Blk.drewN | apply Blk.drew | apply Blk.alloc | (refine Blk.far ?_ (by (try simp) <;> omega) _))))) hb_1
  have c_1_A_0 : w_1.cell? ⟨b_A, 0, none⟩ = some (.slice (some ad) n c) := k_1_A.cell 0
  have k_1_R : Blk w_1 b_R 90 #[.slice none 0 0] := Blk.step (by (with_reducible (repeat (first | assumption | exact Blk.new' (by simp) | apply Blk.drewN | apply Blk.drew | apply Blk.alloc | (refine Blk.far ?_ (by (try simp) <;> omega) _))))) hb_1
  have c_1_R_0 : w_1.cell? ⟨b_R, 0, none⟩ = some (.slice none 0 0) := k_1_R.cell 0
  clear i_0 k_0_A c_0_A_0 k_0_R c_0_R_0 hb_0
  have kR := k_1_R.alloc (.cells #[(.slice (some ⟨g_1, 0, none⟩) n c_1)] 90)
  have cR := kR.cell 0
  have zR := kR.frozen 0
  have hlt := k_1_R.lt
  have kL : Blk ((w_1.setCell ⟨b_R, 0, none⟩ (.slice (some ⟨g_1, 0, none⟩) n c_1)).alloc (.cells #[(.slice (some ⟨g_1, 0, none⟩) n c_1)] 90)) w_1.heap.size 90 #[(.slice (some ⟨g_1, 0, none⟩) n c_1)] := Blk.new' (by simp [World.setCell])
  have HO : Hid (OwnC ((w_1.setCell ⟨b_R, 0, none⟩ (.slice (some ⟨g_1, 0, none⟩) n c_1)).alloc (.cells #[(.slice (some ⟨g_1, 0, none⟩) n c_1)] 90)) g_1 n c_1 xs) := Lib.hid ((OwnC.far o_1_L k_1_R (by decide) (only_set _ _)).alloc _)
  have i9 : In w.heap.size w ((w_1.setCell ⟨b_R, 0, none⟩ (.slice (some ⟨g_1, 0, none⟩) n c_1)).alloc (.cells #[(.slice (some ⟨g_1, 0, none⟩) n c_1)] 90)) := In.alloc (In.set_ i_1 (p := ⟨b_R, 0, none⟩) hwb_R _) _
  have HK : Hid (((w_1.setCell ⟨b_R, 0, none⟩ (.slice (some ⟨g_1, 0, none⟩) n c_1)).alloc (.cells #[(.slice (some ⟨g_1, 0, none⟩) n c_1)] 90)).cell? ⟨b_R, 0, none⟩ = some (.slice (some ⟨g_1, 0, none⟩) n c_1)) := Lib.hid (by
    have h := ((k_1_R.set_ 0 (.slice (some ⟨g_1, 0, none⟩) n c_1)).alloc (.cells #[(.slice (some ⟨g_1, 0, none⟩) n c_1)] 90)).cell 0
    simpa using h)
  have HLB := Lib.hid kL
  have hsz := i_1.size
  clear o_1_L i_1 hb_1 k_1_A k_1_R c_1_A_0 c_1_R_0 kR kL
  go_wp2
  have hk := HK.out
  exact bodyPost_ret (v := .tuple #[.agg #[(.slice (some ⟨g_1, 0, none⟩) n c_1)], .func (Fn.func 191) #[] #[.pointer (some ⟨w_1.heap.size, 0, none⟩)]]) (by simp [results, Try.results150, go_sem, hk]) rfl (by subst hlen; exact ⟨g_1, c_1, w_1.heap.size, rfl, HO.out, GX_L.out, HLB.out, hsz, i9.below⟩)
theorem itake (gb g n c ga d : Nat) (ys am : List Int) (w : World) (hn : n ≤ 1000) (hb : Blk w gb 90 #[.slice (some ⟨g, 0, none⟩) n c]) (ho : OwnC w g n c ys) (hx : ReadsI w (some ⟨ga, 0, none⟩) n am) (hne : ga ≠ g) (hin : ∀ i, i < n → -1000000000 ≤ ys.getD i 0 - am.getD i 0 ∧ ys.getD i 0 - am.getD i 0 ≤ 1000000000) :
    Calls Try.prog 191 #[.slice (some ⟨ga, 0, none⟩) n d, .pointer (some ⟨gb, 0, none⟩)] w (fun e w' => e = .returned (.tuple #[]) ∧ OwnC w' g n c (subTo n ys am n) ∧ w.grownBy w' (some g)) := by
  have hgb : gb ≠ g := (ho.ne hb (by decide)).symm
  have h0 := subTo_0 am ho.len
  have HIN := Lib.hid hin
  rw [← h0] at ho
  clear hin h0
  go_enter Try.func191, Try.ntmps191
  go_wp2
  go_loopw [7] (fun v wr => ∃ k : Nat, k ≤ n ∧ v = .int .i64 k ∧ OwnC wr g n c (subTo n ys am k) ∧ w.grownBy wr (some g)) (fun v _ => n - (intOf v).toNat)
  case atStart => exact ⟨0, Nat.zero_le _, rfl, ho, only_refl _ _⟩
  case round =>
    clear ho
    obtain ⟨k, hk, rfl, ho, hg⟩ := hrel
    by_cases hlt : k < n
    · have hb1 := hb.grown hg (fun h => hgb (Option.some.inj h))
      have cb := hb1.cell 0
      have hr := reads_only hx hg hne
      obtain ⟨a, ha, hc⟩ := hr.2 k hlt
      injection ha with ha
      subst ha
      rw [Addr.add_lit, Nat.zero_add] at hc
      have cy := ho.cellI hlt
      rw [subTo_at _ _ _ _ _ hlt, if_neg (Nat.lt_irrefl k)] at cy
      have fy := ho.free k
      have HP := Lib.hid (ho.put k (ys.getD k 0 - am.getD k 0))
      rw [subTo_set ys am hlt] at HP
      have hbd := HIN.out k hlt
      have hg2 := only_setCell hg (p := ⟨g, k, none⟩) (.inl rfl) (.int .i64 (ys.getD k 0 - am.getD k 0))
      have HG2 := Lib.hid hg2
      generalize ys.getD k 0 = y at *
      generalize am.getD k 0 = x at *
      have hw64 : IntKind.i64.wrap (y - x) = y - x := IntWalk.i64_in _ (by omega)
      clear hg2 ho hr hx hb1
      go_wp2
      go_roundw
      case rel => exact ⟨k + 1, by omega, by go_num, HP.out, HG2.out⟩
      case measure => simp [intOf]; omega
    · obtain rfl : k = n := by omega
      have HO := Lib.hid ho
      clear ho
      go_wp2
      go_end0
      exact ⟨rfl, HO.out, hg⟩
def amV (a b c f : Int) : List Int := [f, partV f a, partV f b, partV f c]
theorem amV_in {a b c f : Int} (hd : dOk a b c = true) (hf : 0 ≤ f) (hf' : f ≤ 1000000) (i : Nat) : 0 ≤ (amV a b c f).getD i 0 ∧ (amV a b c f).getD i 0 ≤ 10000000 := by
  simp only [dOk, decide_eq_true_eq] at hd
  have hp : ∀ p, 0 ≤ p → p ≤ 2000 → 0 ≤ partV f p ∧ partV f p ≤ 10000000 := fun p h1 h2 => by
    unfold partV
    rw [if_pos (by omega)]
    have hm := mul_in hf hf' h1 h2
    have ht := tdiv_in (a := f * p + 500) (b := 1000) (by omega) (by omega)
    rw [Int.tdiv_eq_ediv_of_nonneg (by omega)] at *
    omega
  have h1 := hp a (by omega) (by omega)
  have h2 := hp b (by omega) (by omega)
  have h3 := hp c (by omega) (by omega)
  match i with
  | 0 => simp [amV]; omega
  | 1 => simpa [amV] using h1
  | 2 => simpa [amV] using h2
  | 3 => simpa [amV] using h3
  | n + 4 => simp [amV]
theorem sAm (a b c f : Int) (hd : dOk a b c = true) (hf : 0 ≤ f) (hf' : f ≤ 1000000) (w : World) : Calls Try.prog 147 #[.agg #[.int .i64 a, .int .i64 b, .int .i64 c], .int .i64 f] w (fun e w' => ∃ g, e = .returned (.slice (some ⟨g, 0, none⟩) 4 4) ∧ OwnC w' g 4 4 (amV a b c f) ∧ w.heap.size ≤ g ∧ Below w.heap.size w w') := by
  refine (sAmounts_yes a b c f hd hf hf' w).mono ?_
  rintro e w' ⟨g, rfl, ho, hb⟩
  obtain ⟨g2, c2, hv, hg, ho2⟩ := ownC_of ho (by simp)
  injection hv with h1 h2 h3
  injection h1 with h1
  injection h1 with h1
  subst h1 h3
  exact ⟨g, rfl, ho2, hg, hb⟩
theorem iAm (a b c f : Int) (hd : dOk a b c = true) (hf : 0 ≤ f) (hf' : f ≤ 1000000) (w : World) : Calls Try.prog 151 #[.agg #[.int .i64 a, .int .i64 b, .int .i64 c], .int .i64 f] w (fun e w' => ∃ g, e = .returned (.slice (some ⟨g, 0, none⟩) 4 4) ∧ OwnC w' g 4 4 (amV a b c f) ∧ w.heap.size ≤ g ∧ Below w.heap.size w w') := by
  refine (iAmounts_yes a b c f hd hf hf' w).mono ?_
  rintro e w' ⟨g, rfl, ho, hb⟩
  obtain ⟨g2, c2, hv, hg, ho2⟩ := ownC_of ho (by simp)
  injection hv with h1 h2 h3
  injection h1 with h1
  injection h1 with h1
  subst h1 h3
  exact ⟨g, rfl, ho2, hg, hb⟩
end Go.Proofs.Ytmkfnhgaiheckaa
