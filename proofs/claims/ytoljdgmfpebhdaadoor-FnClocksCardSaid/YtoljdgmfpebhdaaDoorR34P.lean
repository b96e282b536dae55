/- Chapter 34: reading times and lengths (no walks). -/
import Derived.Test.YtoljdgmfpebhdaaDoorT34
import Derived.Test.YtoljdgmfpebhdaaDoorNum
import Derived.Laws.RangeAny
namespace Go.Proofs.YtoljdgmfpebhdaaDoor
open Go.ChangeShapes Go.WideShapes Go.ChangeAt Go.RowKit
set_option linter.unusedVariables false
set_option linter.unusedSimpArgs false
set_option maxHeartbeats 2000000

def rstep (mark m n r : Int) : Int × Int := if 48 ≤ r ∧ r ≤ 57 then (m, wrap64 (wrap64 (n * 10) + (r - 48))) else if r = mark then (wrap64 (n * 60), 0) else (m, n)
def rgo (s : ByteArray) (mark : Int) : Nat → Nat → Int → Int → Int
  | 0, _, m, n => wrap64 (m + n)
  | b + 1, pos, m, n => if pos < s.size then rgo s mark b (pos + (Utf8.decode s pos).2) (rstep mark m n (Utf8.decode s pos).1).1 (rstep mark m n (Utf8.decode s pos).1).2 else wrap64 (m + n)
/-- what the program takes for the minutes of a text -/
def minIn (s : ByteArray) (mark : Int) : Int := rgo s mark s.size 0 0 0
theorem rgo_end (s : ByteArray) (mark : Int) (b pos : Nat) (m n : Int) (h : ¬ pos < s.size) : rgo s mark b pos m n = wrap64 (m + n) := by
  cases b with
  | zero => rfl
  | succ b => simp [rgo, h]
theorem rgo_step (s : ByteArray) (mark : Int) (b pos : Nat) (m n : Int) (h : pos < s.size) : rgo s mark (b + 1) pos m n = rgo s mark b (pos + (Utf8.decode s pos).2) (rstep mark m n (Utf8.decode s pos).1).1 (rstep mark m n (Utf8.decode s pos).1).2 := by
  simp [rgo, h]
def bgo (mark : Int) : List UInt8 → Int → Int → Int
  | [], m, n => wrap64 (m + n)
  | c :: l, m, n => bgo mark l (rstep mark m n c.toNat).1 (rstep mark m n c.toNat).2
theorem rgo_ascii (s : ByteArray) (mark : Int) (ha : ∀ c ∈ s.data.toList, c.toNat < 128) : ∀ (b pos : Nat) (m n : Int), s.size ≤ pos + b → rgo s mark b pos m n = bgo mark (s.data.toList.drop pos) m n := by
  intro b
  induction b with
  | zero =>
    intro pos m n h
    rw [List.drop_eq_nil_of_le (by simp; omega)]; rfl
  | succ b ih =>
    intro pos m n h
    by_cases hp : pos < s.size
    · have hl : pos < s.data.toList.length := by simpa using hp
      have e : s.data.toList.drop pos = s[pos] :: s.data.toList.drop (pos + 1) := by
        rw [List.drop_eq_getElem_cons hl]; simp [ByteArray.getElem_eq_getElem_data]
      have h1 : (s[pos]'hp).toNat < 128 := ha _ (by rw [ByteArray.getElem_eq_getElem_data]; simp)
      rw [rgo_step _ _ _ _ _ _ hp, decode_ascii s pos hp h1, e, bgo, ih (pos + 1) _ _ (by omega)]
    · rw [rgo_end _ _ _ _ _ _ hp, List.drop_eq_nil_of_le (by simp; omega)]; rfl
theorem minIn_ascii (s : ByteArray) (mark : Int) (ha : ∀ c ∈ s.data.toList, c.toNat < 128) : minIn s mark = bgo mark s.data.toList 0 0 := by
  unfold minIn; rw [rgo_ascii s mark ha _ _ _ _ (by omega)]; rfl
theorem w64r {x : Int} (h0 : 0 ≤ x) (h1 : x ≤ 1000000000000000) : wrap64 x = x := w64 ⟨by omega, by omega⟩
theorem bgo_dig (mark : Int) : ∀ (l t : List UInt8) (m : Int) (n : Nat), (∀ c ∈ l, isD c) → l.foldl stepD n ≤ 10000000000 → bgo mark (l ++ t) m n = bgo mark t m (l.foldl stepD n : Nat)
  | [], t, m, n, _, _ => rfl
  | c :: l, t, m, n, hd, hb => by
    have hc := hd c (by simp)
    unfold isD at hc
    have h1 : stepD n c ≤ l.foldl stepD (stepD n c) := stepD_le l _
    have h2 : l.foldl stepD (stepD n c) ≤ 10000000000 := hb
    have e : rstep mark m n c.toNat = (m, ((stepD n c : Nat) : Int)) := by
      unfold stepD at h1 h2 ⊢
      unfold rstep
      rw [if_pos (by omega), w64r (x := (n : Int) * 10) (by omega) (by omega), w64r (by omega) (by omega)]
      congr 1; omega
    rw [List.cons_append, bgo, e]
    exact bgo_dig mark l t m (stepD n c) (fun x hx => hd x (by simp [hx])) h2
theorem bgo_mark (mark : UInt8) (hm : 57 < mark.toNat) (t : List UInt8) (m : Int) (n : Nat) (hn : n ≤ 10000000000) : bgo mark.toNat (mark :: t) m n = bgo mark.toNat t ((n : Int) * 60) 0 := by
  rw [bgo]
  have e : rstep mark.toNat m n mark.toNat = (((n : Int) * 60), 0) := by
    unfold rstep
    rw [if_neg (by omega), if_pos rfl, w64r (by omega) (by omega)]
  rw [e]
theorem bgo_skip (mark : Int) (c : UInt8) (h : (c.toNat : Int) ≠ mark) (hd : ¬ isD c) (t : List UInt8) (m n : Int) : bgo mark (c :: t) m n = bgo mark t m n := by
  rw [bgo]
  have e : rstep mark m n c.toNat = (m, n) := by
    unfold isD at hd
    unfold rstep
    rw [if_neg (by omega), if_neg h]
  rw [e]
/-! the texts as lists -/
def padL (k : Nat) : List UInt8 := if k < 10 then 48 :: Lib.decDigits k else Lib.decDigits k
def timeL (m : Nat) : List UInt8 := Lib.decDigits (m / 60) ++ (58 :: padL (m % 60))
def lenL (m : Nat) : List UInt8 := if m < 60 then Lib.decDigits m ++ [109] else if m % 60 = 0 then Lib.decDigits (m / 60) ++ [104] else Lib.decDigits (m / 60) ++ (104 :: 32 :: (Lib.decDigits (m % 60) ++ [109]))
theorem app_data (a b : ByteArray) : (a ++ b).data.toList = a.data.toList ++ b.data.toList := by
  simp
theorem itoaB_data (m : Nat) : (itoaB (m : Int)).data.toList = Lib.decDigits m := by
  show (Lib.itoa (m : Int)).toArray.toList = _
  rw [itoa_pos]
theorem dec_one (k : Nat) : (Lib.decDigits k).length = 1 ↔ k < 10 := by
  constructor
  · intro h
    rw [Lib.decDigits] at h
    split at h
    · assumption
    · have := dec_ne (k / 10)
      rw [List.length_append] at h
      have h2 : (Lib.decDigits (k / 10)).length = 0 := by simpa using h
      exact absurd (List.length_eq_zero_iff.1 h2) this
  · intro h
    rw [Lib.decDigits, dif_pos h]; rfl
theorem minB_data (k : Nat) : (minB (k : Int)).data.toList = padL k := by
  have hs : ((itoaB (k : Int)).size : Int) = 1 ↔ k < 10 := by
    rw [← dec_one k, ← itoaB_data k]; simp only [Array.length_toList, ByteArray.size_data]; omega
  unfold minB padL
  by_cases h : k < 10
  · rw [if_pos (hs.2 h), if_pos h, app_data, itoaB_data]; rfl
  · rw [if_neg (fun e => h (hs.1 e)), if_neg h, itoaB_data]
theorem timeB_data (m : Nat) (h : m ≤ 1439) : (timeB (m : Int)).data.toList = timeL m := by
  unfold timeB timeL
  rw [if_pos (inB_t (by omega)), app_data, app_data]
  have e1 : (m : Int) / 60 = ((m / 60 : Nat) : Int) := by omega
  have e2 : (m : Int) % 60 = ((m % 60 : Nat) : Int) := by omega
  rw [e1, e2, itoaB_data, minB_data]
  show (Lib.decDigits (m / 60) ++ [58]) ++ padL (m % 60) = _
  simp
theorem lenB_data (m : Nat) (h : m ≤ 100000) : (lenB (m : Int)).data.toList = lenL m := by
  unfold lenB lenL
  rw [if_pos (inB_t (by omega))]
  have e1 : (m : Int) / 60 = ((m / 60 : Nat) : Int) := by omega
  have e2 : (m : Int) % 60 = ((m % 60 : Nat) : Int) := by omega
  rw [e1, e2]
  by_cases h1 : m < 60
  · rw [if_pos (by omega), if_pos h1, app_data, itoaB_data]
    rw [Nat.mod_eq_of_lt h1]
  · rw [if_neg (by omega), if_neg h1]
    by_cases h2 : m % 60 = 0
    · rw [if_pos (by omega), if_pos h2, app_data, itoaB_data]
    · rw [if_neg (by omega), if_neg h2, app_data, app_data, app_data, app_data, itoaB_data, itoaB_data]
      show ((Lib.decDigits (m / 60) ++ [104]) ++ [32]) ++ (Lib.decDigits (m % 60) ++ [109]) = _
      simp
theorem dec_ascii (k : Nat) : ∀ c ∈ Lib.decDigits k, c.toNat < 128 := fun c h => by have := dec_dig k c h; unfold isD at this; omega
theorem pad_ascii (k : Nat) : ∀ c ∈ padL k, c.toNat < 128 := by
  unfold padL
  split
  · intro c h
    rcases List.mem_cons.1 h with rfl | h
    · decide
    · exact dec_ascii k c h
  · exact dec_ascii k
theorem pad_dig (k : Nat) : ∀ c ∈ padL k, isD c := by
  unfold padL
  split
  · intro c h
    rcases List.mem_cons.1 h with rfl | h
    · unfold isD; decide
    · exact dec_dig k c h
  · exact dec_dig k
theorem pad_dv (k : Nat) : (padL k).foldl stepD 0 = k := by
  unfold padL
  split
  · show (Lib.decDigits k).foldl stepD (stepD 0 48) = k
    exact dv_dec k
  · exact dv_dec k
theorem minIn_time (m : Nat) (h : m ≤ 1439) : minIn (timeB (m : Int)) 58 = m := by
  rw [minIn_ascii _ _ (by
    rw [timeB_data m h]
    unfold timeL
    intro c hc
    rcases List.mem_append.1 hc with hc | hc
    · exact dec_ascii _ c hc
    · rcases List.mem_cons.1 hc with rfl | hc
      · decide
      · exact pad_ascii _ c hc), timeB_data m h]
  unfold timeL
  have b1 : (Lib.decDigits (m / 60)).foldl stepD 0 = m / 60 := dv_dec _
  have h0 := bgo_dig 58 (Lib.decDigits (m / 60)) (58 :: padL (m % 60)) 0 0 (dec_dig _) (by rw [b1]; omega)
  rw [b1] at h0
  refine Eq.trans h0 ?_
  have h1 := bgo_mark 58 (by decide) (padL (m % 60)) 0 (m / 60) (by omega)
  refine Eq.trans h1 ?_
  have h2 := bgo_dig 58 (padL (m % 60)) [] (((m / 60 : Nat) : Int) * 60) 0 (pad_dig _) (by rw [pad_dv]; omega)
  rw [pad_dv, List.append_nil] at h2
  refine Eq.trans h2 ?_
  rw [bgo, w64r (by omega) (by omega)]
  omega
theorem minIn_len (m : Nat) (h : m ≤ 100000) : minIn (lenB (m : Int)) 104 = m := by
  have asc : ∀ c ∈ lenL m, c.toNat < 128 := by
    unfold lenL
    intro c hc
    split at hc
    · rcases List.mem_append.1 hc with hc | hc
      · exact dec_ascii _ c hc
      · simp only [List.mem_singleton] at hc; subst hc; decide
    · split at hc
      · rcases List.mem_append.1 hc with hc | hc
        · exact dec_ascii _ c hc
        · simp only [List.mem_singleton] at hc; subst hc; decide
      · rcases List.mem_append.1 hc with hc | hc
        · exact dec_ascii _ c hc
        · rcases List.mem_cons.1 hc with rfl | hc
          · decide
          rcases List.mem_cons.1 hc with rfl | hc
          · decide
          rcases List.mem_append.1 hc with hc | hc
          · exact dec_ascii _ c hc
          · simp only [List.mem_singleton] at hc; subst hc; decide
  rw [minIn_ascii _ _ (by rw [lenB_data m h]; exact asc), lenB_data m h]
  clear asc
  unfold lenL
  have b1 : ∀ k, (Lib.decDigits k).foldl stepD 0 = k := fun k => dv_dec k
  by_cases h1 : m < 60
  · rw [if_pos h1]
    have h0 := bgo_dig 104 (Lib.decDigits m) [109] 0 0 (dec_dig _) (by rw [b1]; omega)
    rw [b1] at h0
    refine Eq.trans h0 ?_
    rw [bgo_skip _ _ (by decide) (by unfold isD; decide), bgo, w64r (by omega) (by omega)]
    omega
  · rw [if_neg h1]
    by_cases h2 : m % 60 = 0
    · rw [if_pos h2]
      have h0 := bgo_dig 104 (Lib.decDigits (m / 60)) [104] 0 0 (dec_dig _) (by rw [b1]; omega)
      rw [b1] at h0
      refine Eq.trans h0 ?_
      refine Eq.trans (bgo_mark 104 (by decide) [] 0 (m / 60) (by omega)) ?_
      rw [bgo, w64r (by omega) (by omega)]
      omega
    · rw [if_neg h2]
      have h0 := bgo_dig 104 (Lib.decDigits (m / 60)) (104 :: 32 :: (Lib.decDigits (m % 60) ++ [109])) 0 0 (dec_dig _) (by rw [b1]; omega)
      rw [b1] at h0
      refine Eq.trans h0 ?_
      refine Eq.trans (bgo_mark 104 (by decide) _ 0 (m / 60) (by omega)) ?_
      rw [bgo_skip _ _ (by decide) (by unfold isD; decide)]
      have h3 := bgo_dig 104 (Lib.decDigits (m % 60)) [109] (((m / 60 : Nat) : Int) * 60) 0 (dec_dig _) (by rw [b1]; omega)
      rw [b1] at h3
      refine Eq.trans h3 ?_
      rw [bgo_skip _ _ (by decide) (by unfold isD; decide), bgo, w64r (by omega) (by omega)]
      omega
/-- the minute whose text this is -/
noncomputable def rdT (s : ByteArray) : Value := open Classical in if ∃ m : Nat, m ≤ 1439 ∧ timeB (m : Int) = s then .tuple #[.int .i64 (minIn s 58), .bool true] else .tuple #[.int .i64 0, .bool false]
noncomputable def rdL (s : ByteArray) : Value := open Classical in if ∃ m : Nat, m ≤ 100000 ∧ lenB (m : Int) = s then .tuple #[.int .i64 (minIn s 104), .bool true] else .tuple #[.int .i64 0, .bool false]
theorem rdT_yes (m : Nat) (h : m ≤ 1439) : rdT (timeB (m : Int)) = .tuple #[.int .i64 m, .bool true] := by
  unfold rdT; rw [if_pos ⟨m, h, rfl⟩, minIn_time m h]
theorem rdL_yes (m : Nat) (h : m ≤ 100000) : rdL (lenB (m : Int)) = .tuple #[.int .i64 m, .bool true] := by
  unfold rdL; rw [if_pos ⟨m, h, rfl⟩, minIn_len m h]
theorem timeB_out (n : Int) (h : ¬ (0 ≤ n ∧ n ≤ 1439)) : timeB n = ⟨#[]⟩ := by
  unfold timeB; rw [if_neg (by simp [inB]; omega)]
theorem lenB_out (n : Int) (h : ¬ (0 ≤ n ∧ n ≤ 100000)) : lenB n = ⟨#[]⟩ := by
  unfold lenB; rw [if_neg (by simp [inB]; omega)]
theorem minIn_nil (mark : Int) : minIn ⟨#[]⟩ mark = 0 := by unfold minIn; rw [rgo_end ⟨#[]⟩ _ _ _ _ _ (Nat.not_lt_zero 0)]; unfold wrap64; omega
theorem dec_len1 (k : Nat) : 1 ≤ (Lib.decDigits k).length := by
  have := dec_ne k
  rcases h : Lib.decDigits k with _ | ⟨a, t⟩
  · exact absurd h this
  · simp
theorem timeB_ne (m : Nat) (h : m ≤ 1439) : timeB (m : Int) ≠ ⟨#[]⟩ := fun e => by
  have := timeB_data m h; rw [e] at this
  unfold timeL at this
  have h2 := congrArg List.length this
  simp at h2
theorem lenB_ne (m : Nat) (h : m ≤ 100000) : lenB (m : Int) ≠ ⟨#[]⟩ := fun e => by
  have := lenB_data m h; rw [e] at this
  unfold lenL at this
  have h2 := congrArg List.length this
  have h3 := dec_len1 (m / 60)
  have h4 := dec_len1 m
  split at h2
  · simp at h2
  · split at h2 <;> simp at h2
/-- the program's test says it -/
theorem timeB_hit (s : ByteArray) (h : timeB (minIn s 58) = s) : ∃ m : Nat, m ≤ 1439 ∧ minIn s 58 = m ∧ timeB (m : Int) = s := by
  by_cases hr : 0 ≤ minIn s 58 ∧ minIn s 58 ≤ 1439
  · exact ⟨(minIn s 58).toNat, by omega, by omega, by rw [show (((minIn s 58).toNat : Nat) : Int) = minIn s 58 by omega]; exact h⟩
  · have e := timeB_out _ hr
    rw [e] at h
    subst h
    exact absurd (by rw [minIn_nil]; omega) hr
theorem lenB_hit (s : ByteArray) (h : lenB (minIn s 104) = s) : ∃ m : Nat, m ≤ 100000 ∧ minIn s 104 = m ∧ lenB (m : Int) = s := by
  by_cases hr : 0 ≤ minIn s 104 ∧ minIn s 104 ≤ 100000
  · exact ⟨(minIn s 104).toNat, by omega, by omega, by rw [show (((minIn s 104).toNat : Nat) : Int) = minIn s 104 by omega]; exact h⟩
  · have e := lenB_out _ hr
    rw [e] at h
    subst h
    exact absurd (by rw [minIn_nil]; omega) hr
theorem rdT_prog (s : ByteArray) : rdT s = if timeB (minIn s 58) = s then .tuple #[.int .i64 (minIn s 58), .bool true] else .tuple #[.int .i64 0, .bool false] := by
  by_cases h : timeB (minIn s 58) = s
  · obtain ⟨m, hm, e, ht⟩ := timeB_hit s h
    rw [if_pos h]; unfold rdT; rw [if_pos ⟨m, hm, ht⟩]
  · rw [if_neg h]; unfold rdT
    rw [if_neg (fun ⟨m, hm, ht⟩ => h (by subst ht; rw [minIn_time m hm]))]
theorem rdL_prog (s : ByteArray) : rdL s = if lenB (minIn s 104) = s then .tuple #[.int .i64 (minIn s 104), .bool true] else .tuple #[.int .i64 0, .bool false] := by
  by_cases h : lenB (minIn s 104) = s
  · obtain ⟨m, hm, e, ht⟩ := lenB_hit s h
    rw [if_pos h]; unfold rdL; rw [if_pos ⟨m, hm, ht⟩]
  · rw [if_neg h]; unfold rdL
    rw [if_neg (fun ⟨m, hm, ht⟩ => h (by subst ht; rw [minIn_len m hm]))]
theorem rdT_no (s : ByteArray) (h : ∀ m : Nat, m ≤ 1439 → timeB (m : Int) ≠ s) : rdT s = .tuple #[.int .i64 0, .bool false] := by
  unfold rdT; rw [if_neg (fun ⟨m, hm, e⟩ => h m hm e)]
theorem rdL_no (s : ByteArray) (h : ∀ m : Nat, m ≤ 100000 → lenB (m : Int) ≠ s) : rdL s = .tuple #[.int .i64 0, .bool false] := by
  unfold rdL; rw [if_neg (fun ⟨m, hm, e⟩ => h m hm e)]
/-! the model's sums -/
def lstep (n p r : Int) : Int × Int := if 48 ≤ r ∧ r ≤ 57 then (n, 10 * p + (r - 48)) else if r = 104 then (n + 60 * p, 0) else if r = 109 then (n + p, 0) else (n, p)
def lgo : List UInt8 → Int × Int → Int × Int
  | [], q => q
  | c :: l, q => lgo l (lstep q.1 q.2 c.toNat)
theorem lgo_app : ∀ (a b : List UInt8) (q : Int × Int), lgo (a ++ b) q = lgo b (lgo a q)
  | [], _, _ => rfl
  | _ :: a, b, q => lgo_app a b _
theorem lgo_dig : ∀ (l : List UInt8) (n : Int) (p : Nat), (∀ c ∈ l, isD c) → lgo l (n, (p : Int)) = (n, ((l.foldl stepD p : Nat) : Int))
  | [], _, _, _ => rfl
  | c :: l, n, p, hd => by
    have hc := hd c (by simp)
    unfold isD at hc
    have e : lstep n p c.toNat = (n, ((stepD p c : Nat) : Int)) := by
      unfold lstep stepD; rw [if_pos (by omega)]; congr 1; omega
    show lgo l (lstep n p c.toNat) = _
    rw [e]; exact lgo_dig l n (stepD p c) (fun x hx => hd x (by simp [hx]))
theorem lgo_len (m : Nat) : (lgo (lenL m) (0, 0)).1 = m := by
  have b1 : ∀ k, (Lib.decDigits k).foldl stepD 0 = k := fun k => dv_dec k
  have d0 : ∀ (k : Nat) (n : Int), lgo (Lib.decDigits k) (n, 0) = (n, (k : Int)) := fun k n => by
    have := lgo_dig (Lib.decDigits k) n 0 (dec_dig k); rw [b1] at this; exact this
  unfold lenL
  by_cases h1 : m < 60
  · rw [if_pos h1, lgo_app, d0]
    show (0 + (m : Int)) = m
    omega
  · rw [if_neg h1]
    by_cases h2 : m % 60 = 0
    · rw [if_pos h2, lgo_app, d0]
      show (0 + 60 * ((m / 60 : Nat) : Int)) = m
      omega
    · rw [if_neg h2, lgo_app, d0]
      show (lgo (Lib.decDigits (m % 60) ++ [109]) (0 + 60 * ((m / 60 : Nat) : Int), 0)).1 = m
      rw [lgo_app, d0]
      show (0 + 60 * ((m / 60 : Nat) : Int) + ((m % 60 : Nat) : Int)) = m
      omega
theorem dec_lenk (u k : Nat) (h : u < 10 ^ (k + 1)) : (Lib.decDigits u).length ≤ k + 1 := by
  rw [Lib.decDigits_length]; exact nDigits_le k u h
theorem lenB_size (m : Nat) (h : m ≤ 100000) : (lenB (m : Int)).size ≤ 9 := by
  have e : (lenB (m : Int)).size = (lenL m).length := by rw [← lenB_data m h]; simp
  rw [e]
  have h1 := dec_lenk (m / 60) 3 (by omega)
  have h2 := dec_lenk (m % 60) 1 (by omega)
  unfold lenL
  split
  · have h3 := dec_lenk m 1 (by omega)
    simp; omega
  · split <;> simp <;> omega
/-- bounds of the model's sums on at most 9 bytes -/
theorem lgo_bound : ∀ (l : List UInt8) (k : Nat) (q : Int × Int), 0 ≤ q.1 → 0 ≤ q.2 → 60 * q.2 + q.1 + 61 ≤ 61 * 10 ^ k → 0 ≤ (lgo l q).1 ∧ 0 ≤ (lgo l q).2 ∧ 60 * (lgo l q).2 + (lgo l q).1 + 61 ≤ 61 * 10 ^ (k + l.length)
  | [], k, q, h0, h1, h2 => ⟨h0, h1, by simpa [lgo] using h2⟩
  | c :: l, k, q, h0, h1, h2 => by
    have hc := UInt8.toNat_lt c
    have hk : (10 : Int) ^ (k + 1) = 10 ^ k * 10 := Int.pow_succ 10 k
    have step : 0 ≤ (lstep q.1 q.2 c.toNat).1 ∧ 0 ≤ (lstep q.1 q.2 c.toNat).2 ∧ 60 * (lstep q.1 q.2 c.toNat).2 + (lstep q.1 q.2 c.toNat).1 + 61 ≤ 61 * 10 ^ (k + 1) := by
      rw [hk]
      generalize (10 : Int) ^ k = X at h2 ⊢
      unfold lstep
      split
      · refine ⟨h0, by show 0 ≤ 10 * q.2 + ((c.toNat : Int) - 48); omega, ?_⟩
        show 60 * (10 * q.2 + ((c.toNat : Int) - 48)) + q.1 + 61 ≤ _
        omega
      · split
        · exact ⟨by show 0 ≤ q.1 + 60 * q.2; omega, Int.le_refl _, by show 60 * 0 + (q.1 + 60 * q.2) + 61 ≤ _; omega⟩
        · split
          · exact ⟨by show 0 ≤ q.1 + q.2; omega, Int.le_refl _, by show 60 * 0 + (q.1 + q.2) + 61 ≤ _; omega⟩
          · exact ⟨h0, h1, by omega⟩
    have r := lgo_bound l (k + 1) _ step.1 step.2.1 step.2.2
    rw [show k + (c :: l).length = k + 1 + l.length by simp; omega]
    exact r
theorem lgo_take (s : ByteArray) (hs : s.size ≤ 9) (k : Nat) : 0 ≤ (lgo (s.data.toList.take k) (0, 0)).1 ∧ 0 ≤ (lgo (s.data.toList.take k) (0, 0)).2 ∧ (lgo (s.data.toList.take k) (0, 0)).1 ≤ 61000000000 ∧ (lgo (s.data.toList.take k) (0, 0)).2 ≤ 61000000000 := by
  obtain ⟨h0, h1, h2⟩ := lgo_bound (s.data.toList.take k) 0 (0, 0) (by simp) (by simp) (by simp)
  have hl : (s.data.toList.take k).length ≤ 9 := by have := List.length_take_le' k s.data.toList; simp at this ⊢; omega
  have hp : (10 : Int) ^ (0 + (s.data.toList.take k).length) ≤ 10 ^ 9 := by
    rw [Nat.zero_add]
    generalize (s.data.toList.take k).length = j at hl
    have : j = 0 ∨ j = 1 ∨ j = 2 ∨ j = 3 ∨ j = 4 ∨ j = 5 ∨ j = 6 ∨ j = 7 ∨ j = 8 ∨ j = 9 := by omega
    rcases this with rfl | rfl | rfl | rfl | rfl | rfl | rfl | rfl | rfl | rfl <;> decide
  have h9 : (10 : Int) ^ 9 = 1000000000 := by decide
  refine ⟨h0, h1, by omega, by omega⟩
theorem lgo_snoc (s : ByteArray) (k : Nat) (h : k < s.size) : lgo (s.data.toList.take (k + 1)) (0, 0) = lstep (lgo (s.data.toList.take k) (0, 0)).1 (lgo (s.data.toList.take k) (0, 0)).2 s[k].toNat := by
  have e : s.data.toList.take (k + 1) = s.data.toList.take k ++ [s[k]] := by
    rw [List.take_succ_eq_append_getElem (by simpa using h)]; simp [ByteArray.getElem_eq_getElem_data]
  rw [e, lgo_app]; rfl
end Go.Proofs.YtoljdgmfpebhdaaDoor
