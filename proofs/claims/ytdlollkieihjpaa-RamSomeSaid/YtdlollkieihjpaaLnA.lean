/-
  Plain lists, no program: 64 bytes, a number in them, the bytes with a number put, lines blended, and where two lines are unlike.
-/
import Derived.Test.YtdlollkieihjpaaWord
namespace Go.Proofs.Ytdlollkieihjpaa.Ln
open Go.RowKit (wrap64)
open Wd

/-- 64 bytes. -/
def Is (ws : List Int) : Prop := ws.length = 64 ∧ ∀ x ∈ ws, 0 ≤ x ∧ x ≤ 255
theorem Is.byte {ws : List Int} (h : Is ws) (i : Nat) : 0 ≤ ws.getD i 0 ∧ ws.getD i 0 ≤ 255 := by
  by_cases hi : i < ws.length
  · rw [List.getD, List.getElem?_eq_getElem hi]
    exact h.2 _ (List.getElem_mem hi)
  · rw [List.getD, List.getElem?_eq_none (by omega)]
    decide
theorem Is.set {ws : List Int} (h : Is ws) (i : Nat) {x : Int} (h0 : 0 ≤ x) (h1 : x ≤ 255) : Is (ws.set i x) :=
  ⟨by rw [List.length_set]; exact h.1, fun y hy => by
    rcases List.mem_or_eq_of_mem_set hy with hm | rfl
    · exact h.2 _ hm
    · exact ⟨h0, h1⟩⟩
def zeros : List Int := List.replicate 64 0
theorem zeros_is : Is zeros := ⟨by simp [zeros], fun x hx => by
  obtain ⟨_, rfl⟩ := List.mem_replicate.1 hx
  decide⟩
theorem getD_set (ws : List Int) (i j : Nat) (x : Int) (hi : i < ws.length) : (ws.set i x).getD j 0 = if j = i then x else ws.getD j 0 := by
  rw [List.getD, List.getElem?_set]
  by_cases h : j = i
  · subst h
    simp [hi]
  · rw [if_neg (Ne.symm h), if_neg h]; rfl
theorem ext {ws os : List Int} (h : ws.length = 64) (h' : os.length = 64) (he : ∀ i, i < 64 → ws.getD i 0 = os.getD i 0) : ws = os := by
  apply List.ext_getElem?
  intro i
  by_cases hi : i < 64
  · have := he i hi
    rw [List.getD, List.getD, List.getElem?_eq_getElem (by omega), List.getElem?_eq_getElem (by omega)] at this
    rw [List.getElem?_eq_getElem (by omega), List.getElem?_eq_getElem (by omega)]
    exact congrArg some this
  · rw [List.getElem?_eq_none (by omega), List.getElem?_eq_none (by omega)]

/-- Is there a number of n bytes from byte p on? -/
def fits (p n : Int) : Bool := decide (1 ≤ n ∧ n ≤ 8 ∧ 0 ≤ p ∧ p + n ≤ 64)
theorem fits_iff {p n : Int} : fits p n = true ↔ 1 ≤ n ∧ n ≤ 8 ∧ 0 ≤ p ∧ p + n ≤ 64 := by simp [fits]
def num (ws : List Int) (a : Nat) : Nat → Int
  | 0 => 0
  | k + 1 => num ws a k + 256 ^ k * ws.getD (a + k) 0
theorem pow_pos (k : Nat) : (0 : Int) < 256 ^ k := Int.pow_pos (by decide)
theorem pow_succ (k : Nat) : (256 : Int) ^ (k + 1) = 256 * 256 ^ k := by rw [Int.pow_succ, Int.mul_comm]
theorem pow_two (k : Nat) : (256 : Int) ^ k = 2 ^ (8 * k) := by rw [Int.pow_mul]; rfl
theorem pow_le {k m : Nat} (h : k ≤ m) : (256 : Int) ^ k ≤ 256 ^ m := by
  induction m with
  | zero => obtain rfl : k = 0 := by omega
            exact Int.le_refl _
  | succ m ih =>
    by_cases e : k = m + 1
    · subst e; exact Int.le_refl _
    · have := ih (by omega)
      have := pow_pos m
      rw [pow_succ]; omega
theorem num_range {ws : List Int} (h : Is ws) (a : Nat) : ∀ k, 0 ≤ num ws a k ∧ num ws a k < 256 ^ k
  | 0 => by simp [num]
  | k + 1 => by
    have ih := num_range h a k
    have b := h.byte (a + k)
    have p := pow_pos k
    simp only [num]
    rw [pow_succ]
    generalize ws.getD (a + k) 0 = x at *
    generalize (256 : Int) ^ k = q at *
    have h1 : q * x ≤ q * 255 := Int.mul_le_mul_of_nonneg_left b.2 (by omega)
    have h0 : 0 ≤ q * x := Int.mul_nonneg (by omega) b.1
    omega
theorem num_lt {ws : List Int} (h : Is ws) (a k : Nat) (hk : k ≤ 8) : num ws a k < 18446744073709551616 := by
  have := (num_range h a k).2
  have := pow_le hk
  have e : (256 : Int) ^ 8 = 18446744073709551616 := by decide
  omega
def get (ws : List Int) (p n : Int) : Int := if fits p n then num ws p.toNat n.toNat else 0
theorem get_range {ws : List Int} (h : Is ws) (p n : Int) : 0 ≤ get ws p n ∧ get ws p n < 18446744073709551616 := by
  unfold get
  split
  · rename_i hf
    have := fits_iff.1 hf
    exact ⟨(num_range h _ _).1, num_lt h _ _ (by omega)⟩
  · decide
/-- What the k-th byte of a number is. -/
def byteOf (v : Int) (k : Nat) : Int := v / 256 ^ k % 256
theorem byteOf_range (v : Int) (k : Nat) : 0 ≤ byteOf v k ∧ byteOf v k ≤ 255 := by
  unfold byteOf
  generalize v / 256 ^ k = q
  omega
def putN (ws : List Int) (a : Nat) (v : Int) : Nat → List Int
  | 0 => ws
  | k + 1 => (putN ws a v k).set (a + k) (byteOf v k)
theorem putN_is {ws : List Int} (h : Is ws) (a : Nat) (v : Int) : ∀ k, Is (putN ws a v k)
  | 0 => h
  | k + 1 => (putN_is h a v k).set _ (byteOf_range v k).1 (byteOf_range v k).2
def put (ws : List Int) (p n v : Int) : List Int := if fits p n then putN ws p.toNat v n.toNat else ws
theorem put_is {ws : List Int} (h : Is ws) (p n v : Int) : Is (put ws p n v) := by
  unfold put
  split
  · exact putN_is h _ _ _
  · exact h
theorem putN_get {ws : List Int} (h : Is ws) (a : Nat) (v : Int) : ∀ (k : Nat), a + k ≤ 64 → ∀ j, (putN ws a v k).getD j 0 = if a ≤ j ∧ j < a + k then byteOf v (j - a) else ws.getD j 0
  | 0, _, j => by rw [if_neg (by omega)]; rfl
  | k + 1, hk, j => by
    show ((putN ws a v k).set (a + k) (byteOf v k)).getD j 0 = _
    rw [getD_set _ _ _ _ (by rw [(putN_is h a v k).1]; omega), putN_get h a v k (by omega) j]
    by_cases h1 : j = a + k
    · subst h1
      rw [if_pos rfl, if_pos (by omega), show a + k - a = k by omega]
    · rw [if_neg h1]
      by_cases h2 : a ≤ j ∧ j < a + k
      · rw [if_pos h2, if_pos (by omega)]
      · rw [if_neg h2, if_neg (by omega)]
theorem num_congr {ws os : List Int} {a b : Nat} : ∀ k, (∀ j, j < k → ws.getD (a + j) 0 = os.getD (b + j) 0) → num ws a k = num os b k
  | 0, _ => rfl
  | k + 1, h => by
    simp only [num]
    rw [num_congr k (fun j hj => h j (by omega)), h k (by omega)]
theorem div_bytes (v : Int) (k : Nat) : v / 256 ^ k = v / 256 ^ (k + 1) * 256 + byteOf v k := by
  unfold byteOf
  rw [Int.pow_succ, ← Int.ediv_ediv_of_nonneg (Int.le_of_lt (pow_pos k))]
  generalize v / 256 ^ k = q
  omega
theorem num_bytes {os : List Int} {a : Nat} (v : Int) : ∀ k, (∀ j, j < k → os.getD (a + j) 0 = byteOf v j) → num os a k = v % 256 ^ k
  | 0, _ => by simp [num]
  | k + 1, h => by
    simp only [num]
    rw [num_bytes v k (fun j hj => h j (by omega)), h k (by omega)]
    have e := div_bytes v k
    have p := pow_pos k
    have d1 := Int.emod_add_mul_ediv v (256 ^ k)
    have d2 := Int.emod_add_mul_ediv v (256 ^ (k + 1))
    rw [pow_succ] at d2 ⊢
    rw [pow_succ] at e
    generalize v % 256 ^ k = r at *
    generalize v % (256 * 256 ^ k) = s at *
    generalize hq : v / (256 * 256 ^ k) = t at *
    rw [e] at d1
    generalize byteOf v k = b at *
    generalize (256 : Int) ^ k = q at *
    have e1 : q * (t * 256 + b) = 256 * q * t + q * b := by
      rw [Int.mul_add, Int.mul_comm t 256, ← Int.mul_assoc, Int.mul_comm q 256]
    rw [e1] at d1
    omega
/-- WHAT WAS PUT IS GOT. -/
theorem get_put {ws : List Int} (h : Is ws) (p n v : Int) (hf : fits p n = true) : get (put ws p n v) p n = v % 256 ^ n.toNat := by
  have f := fits_iff.1 hf
  unfold get put
  rw [if_pos hf, if_pos hf]
  refine num_bytes v _ fun j hj => ?_
  rw [putN_get h _ _ _ (by omega), if_pos (by omega), show p.toNat + j - p.toNat = j by omega]
/-- .. and no other byte is changed. -/
theorem put_far {ws : List Int} (h : Is ws) (p n v : Int) (j : Nat) (hj : (j : Int) < p ∨ p + n ≤ j) : (put ws p n v).getD j 0 = ws.getD j 0 := by
  unfold put
  split
  · rename_i hf
    have f := fits_iff.1 hf
    rw [putN_get h _ _ _ (by omega), if_neg (by omega)]
  · rfl

/-! ### what is reckoned in a round -/
theorem or_add {a c : Int} (t : Nat) (ha0 : 0 ≤ a) (hl : a < 2 ^ t) (hc0 : 0 ≤ c) (h64 : a + 2 ^ t * c < 18446744073709551616) : bits .or .u64 a (2 ^ t * c) = a + 2 ^ t * c := by
  have hp : (0 : Int) < 2 ^ t := Int.pow_pos (by decide)
  have hm : 0 ≤ 2 ^ t * c := Int.mul_nonneg (Int.le_of_lt hp) hc0
  rw [u64_or a (2 ^ t * c) ha0 (by omega) hm (by omega)]
  obtain ⟨A, rfl⟩ := Int.eq_ofNat_of_zero_le ha0
  obtain ⟨C, rfl⟩ := Int.eq_ofNat_of_zero_le hc0
  have e : ((2 : Int) ^ t * (C : Int)).toNat = 2 ^ t * C := by rw [pow_cast, ← Int.natCast_mul, Int.toNat_natCast]
  have h2 : A < 2 ^ t := by rw [pow_cast] at hl; omega
  rw [e, Int.toNat_natCast, Nat.or_comm, ← Nat.two_pow_add_eq_or_of_lt h2 C, pow_cast, ← Int.natCast_mul]
  omega
/-- A round of the code's Get. -/
theorem get_round {ws : List Int} (h : Is ws) (a k : Nat) (hk : k < 8) : bits .or .u64 (num ws a k) (IntKind.u64.wrap (ws.getD (a + k) 0 * 2 ^ (8 * k))) = num ws a (k + 1) := by
  have r := num_range h a k
  have r' := num_range h a (k + 1)
  have hl := num_lt h a (k + 1) (by omega)
  have b := h.byte (a + k)
  simp only [num] at hl r' ⊢
  rw [pow_two] at r hl ⊢
  have p : (0 : Int) < 2 ^ (8 * k) := Int.pow_pos (by decide)
  have hm : 0 ≤ 2 ^ (8 * k) * ws.getD (a + k) 0 := Int.mul_nonneg (Int.le_of_lt p) b.1
  have e : IntKind.u64.wrap (ws.getD (a + k) 0 * 2 ^ (8 * k)) = 2 ^ (8 * k) * ws.getD (a + k) 0 := by
    rw [Int.mul_comm, IntKind.wrap_u64]; omega
  rw [e]
  exact or_add (8 * k) r.1 r.2 b.1 hl
/-- A round of the reference's Get: f is 256 to the k. -/
theorem ref_round {ws : List Int} (h : Is ws) (a k : Nat) (hk : k < 8) : IntKind.u64.wrap (num ws a k + IntKind.u64.wrap (256 ^ k * ws.getD (a + k) 0)) = num ws a (k + 1) := by
  have r := num_range h a k
  have r' := num_range h a (k + 1)
  have hl := num_lt h a (k + 1) (by omega)
  have b := h.byte (a + k)
  simp only [num] at hl r' ⊢
  have p := pow_pos k
  have hm : 0 ≤ 256 ^ k * ws.getD (a + k) 0 := Int.mul_nonneg (Int.le_of_lt p) b.1
  rw [IntKind.wrap_u64, IntKind.wrap_u64]
  omega
theorem ref_pow (k : Nat) : IntKind.u64.wrap (IntKind.u64.wrap (256 ^ k) * 256) = IntKind.u64.wrap (256 ^ (k + 1)) := by
  rw [Int.pow_succ, IntKind.wrap_u64, IntKind.wrap_u64, IntKind.wrap_u64]
  generalize (256 : Int) ^ k = q
  omega
theorem pow_wrap {k : Nat} (h : k < 8) : IntKind.u64.wrap (256 ^ k) = 256 ^ k := by
  have := pow_le (show k ≤ 7 by omega)
  have e : (256 : Int) ^ 7 = 72057594037927936 := by decide
  have := pow_pos k
  rw [IntKind.wrap_u64]
  omega
/-- A byte of the code's Put. -/
theorem byte_code (v : Int) (k : Nat) : v / 2 ^ (8 * k) % 256 = byteOf v k := by
  unfold byteOf
  rw [pow_two]
/-- A round of the reference's Put. -/
theorem ref_div (v : Int) (k : Nat) : v / 256 ^ k / 256 = v / 256 ^ (k + 1) := by
  rw [Int.pow_succ, Int.ediv_ediv_of_nonneg (Int.le_of_lt (pow_pos k))]
theorem div_range' {v : Int} (h0 : 0 ≤ v) (h : v < 18446744073709551616) (k : Nat) : 0 ≤ v / 256 ^ k ∧ v / 256 ^ k < 18446744073709551616 := by
  rw [pow_two]; exact div_range h0 h _

/-! ### blended -/
def blend (ws os : List Int) (x : Int) : Nat → List Int
  | 0 => ws
  | k + 1 => if tb x k then (blend ws os x k).set k (os.getD k 0) else blend ws os x k
theorem blend_is {ws os : List Int} (h : Is ws) (h' : Is os) (x : Int) : ∀ k, Is (blend ws os x k)
  | 0 => h
  | k + 1 => by
    simp only [blend]
    split
    · exact (blend_is h h' x k).set _ (h'.byte k).1 (h'.byte k).2
    · exact blend_is h h' x k
theorem blend_get {ws os : List Int} (h : Is ws) (h' : Is os) (x : Int) : ∀ (k : Nat), k ≤ 64 → ∀ j, (blend ws os x k).getD j 0 = if j < k ∧ tb x j = true then os.getD j 0 else ws.getD j 0
  | 0, _, j => by rw [if_neg (by omega)]; rfl
  | k + 1, hk, j => by
    simp only [blend]
    by_cases hb : tb x k = true
    · rw [if_pos hb, getD_set _ _ _ _ (by rw [(blend_is h h' x k).1]; omega), blend_get h h' x k (by omega) j]
      by_cases hj : j = k
      · subst hj
        rw [if_pos rfl, if_pos ⟨by omega, hb⟩]
      · rw [if_neg hj]
        by_cases h2 : j < k ∧ tb x j = true
        · rw [if_pos h2, if_pos ⟨by omega, h2.2⟩]
        · rw [if_neg h2, if_neg (fun h3 => h2 ⟨by omega, h3.2⟩)]
    · rw [if_neg hb, blend_get h h' x k (by omega) j]
      by_cases h2 : j < k ∧ tb x j = true
      · rw [if_pos h2, if_pos ⟨by omega, h2.2⟩]
      · rw [if_neg h2, if_neg]
        intro h3
        by_cases hj : j = k
        · subst hj; exact hb h3.2
        · exact h2 ⟨by omega, h3.2⟩
/-- Where two lines are unlike. -/
def un (ws os : List Int) (k : Nat) : Bool := ws.getD k 0 != os.getD k 0
def diff (ws os : List Int) : Int := word (un ws os)
theorem diff_range (ws os : List Int) : 0 ≤ diff ws os ∧ diff ws os < 18446744073709551616 := ⟨word_nonneg _, word_lt _⟩
theorem tb_diff (ws os : List Int) (i : Nat) : tb (diff ws os) i = (decide (i < 64) && un ws os i) := tb_word _ _
theorem blend_diff {ws os : List Int} (h : Is ws) (h' : Is os) : blend ws os (diff ws os) 64 = os := by
  refine ext (blend_is h h' _ _).1 h'.1 fun i hi => ?_
  rw [blend_get h h' _ _ (Nat.le_refl _), tb_diff]
  by_cases hu : un ws os i = true
  · rw [if_pos ⟨hi, by simp [hi, hu]⟩]
  · rw [if_neg (by simp [hu])]
    unfold un at hu
    simpa using hu
theorem blend_zero {ws os : List Int} (h : Is ws) (h' : Is os) : blend ws os 0 64 = ws := by
  refine ext (blend_is h h' _ _).1 h.1 fun i hi => ?_
  rw [blend_get h h' _ _ (Nat.le_refl _), tb_zero, if_neg (by simp)]
theorem diff_self (ws : List Int) : diff ws ws = 0 := by
  refine Wd.ext (diff_range _ _).1 (diff_range _ _).2 (by decide) (by decide) fun i hi => ?_
  rw [tb_diff, tb_zero]
  simp [un]

/-! ### the line of bytes -/
def ofB (bs : List Int) : List Int := bs.take 64 ++ List.replicate (64 - bs.length) 0
theorem ofB_is {bs : List Int} (h : ∀ x ∈ bs, 0 ≤ x ∧ x ≤ 255) : Is (ofB bs) :=
  ⟨by simp [ofB]; omega, fun x hx => by
    rcases List.mem_append.1 hx with h1 | h1
    · exact h x (List.mem_of_mem_take h1)
    · obtain ⟨_, rfl⟩ := List.mem_replicate.1 h1
      decide⟩
theorem ofB_get (bs : List Int) (j : Nat) (hj : j < 64) : (ofB bs).getD j 0 = bs.getD j 0 := by
  unfold ofB
  rw [List.getD, List.getD]
  by_cases h : j < bs.length
  · rw [List.getElem?_append_left (by rw [List.length_take]; omega), List.getElem?_take, if_pos hj]
  · rw [List.getElem?_append_right (by rw [List.length_take]; omega), List.getElem?_eq_none (show bs.length ≤ j by omega), List.length_take, List.getElem?_replicate]
    split <;> rfl
/-- The reference's way: byte by byte. -/
def ofN (bs : List Int) : Nat → List Int
  | 0 => zeros
  | k + 1 => (ofN bs k).set k (bs.getD k 0)
theorem ofN_is {bs : List Int} (h : ∀ x ∈ bs, 0 ≤ x ∧ x ≤ 255) : ∀ k, Is (ofN bs k)
  | 0 => zeros_is
  | k + 1 => by
    refine (ofN_is h k).set _ ?_ ?_
    all_goals
      by_cases hk : k < bs.length
      · rw [List.getD, List.getElem?_eq_getElem hk]
        have := h _ (List.getElem_mem hk)
        first | exact this.1 | exact this.2
      · rw [List.getD, List.getElem?_eq_none (by omega)]
        decide
theorem ofN_get {bs : List Int} (h : ∀ x ∈ bs, 0 ≤ x ∧ x ≤ 255) : ∀ (k : Nat), k ≤ 64 → ∀ j, (ofN bs k).getD j 0 = if j < k then bs.getD j 0 else 0
  | 0, _, j => by
    rw [if_neg (by omega)]
    show zeros.getD j 0 = 0
    unfold zeros
    rw [List.getD, List.getElem?_replicate]
    split <;> rfl
  | k + 1, hk, j => by
    show ((ofN bs k).set k (bs.getD k 0)).getD j 0 = _
    rw [getD_set _ _ _ _ (by rw [(ofN_is h k).1]; omega), ofN_get h k (by omega) j]
    by_cases hj : j = k
    · subst hj
      rw [if_pos rfl, if_pos (by omega)]
    · rw [if_neg hj]
      by_cases h2 : j < k
      · rw [if_pos h2, if_pos (by omega)]
      · rw [if_neg h2, if_neg (by omega)]
theorem ofN_ofB {bs : List Int} (h : ∀ x ∈ bs, 0 ≤ x ∧ x ≤ 255) (k : Nat) (hk : k = min bs.length 64) : ofN bs k = ofB bs := by
  refine ext (ofN_is h k).1 (ofB_is h).1 fun i hi => ?_
  rw [ofN_get h k (by omega), ofB_get bs i hi]
  split
  · rfl
  · rw [List.getD, List.getElem?_eq_none (by omega)]; rfl
end Go.Proofs.Ytdlollkieihjpaa.Ln
