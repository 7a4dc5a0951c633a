/-
  Plain lists, no program: 64 bytes, a number in them, the bytes with a number put, lines blended, and where two lines are unlike. Plain lists, no program: a memory of lines of 64 bytes: its rows, a row or a number laid into it, and how many rows aren't noughts. Contracts of package line (layer 9): exists, Get, Put.
-/
import Derived.Test.YtjeolfcefeglpabGreatXaa
import Derived.Laws.ResultCell
import Derived.ProofKit
import Derived.OpenShut
namespace Go.Proofs.YtjeolfcefeglpabGreat.Ln
open Go.RowKit (wrap64)
open Wd

/-- 64 bytes. -/
def Is (ws : List Int) : Prop := ws.length = 64 ∧ ∀ x ∈ ws, 0 ≤ x ∧ x ≤ 255
theorem Is.byte {ws : List Int} (h : Is ws) (i : Nat) : 0 ≤ ws.getD i 0 ∧ ws.getD i 0 ≤ 255 := by
  by_cases hi : i < ws.length
  · rw [List.getD, List.getElem?_eq_getElem hi]
    exact h.2 _ (List.getElem_mem hi)
  · rw [List.getD, List.getElem?_eq_none (by omega)]
    decide
theorem Is.set {ws : List Int} (h : Is ws) (i : Nat) {x : Int} (h0 : 0 ≤ x) (h1 : x ≤ 255) : Is (ws.set i x) :=
  ⟨by rw [List.length_set]; exact h.1, fun y hy => by
    rcases List.mem_or_eq_of_mem_set hy with hm | rfl
    · exact h.2 _ hm
    · exact ⟨h0, h1⟩⟩
def zeros : List Int := List.replicate 64 0
theorem zeros_is : Is zeros := ⟨by simp [zeros], fun x hx => by
  obtain ⟨_, rfl⟩ := List.mem_replicate.1 hx
  decide⟩
theorem getD_set (ws : List Int) (i j : Nat) (x : Int) (hi : i < ws.length) : (ws.set i x).getD j 0 = if j = i then x else ws.getD j 0 := by
  rw [List.getD, List.getElem?_set]
  by_cases h : j = i
  · subst h
    simp [hi]
  · rw [if_neg (Ne.symm h), if_neg h]; rfl
theorem ext {ws os : List Int} (h : ws.length = 64) (h' : os.length = 64) (he : ∀ i, i < 64 → ws.getD i 0 = os.getD i 0) : ws = os := by
  apply List.ext_getElem?
  intro i
  by_cases hi : i < 64
  · have := he i hi
    rw [List.getD, List.getD, List.getElem?_eq_getElem (by omega), List.getElem?_eq_getElem (by omega)] at this
    rw [List.getElem?_eq_getElem (by omega), List.getElem?_eq_getElem (by omega)]
    exact congrArg some this
  · rw [List.getElem?_eq_none (by omega), List.getElem?_eq_none (by omega)]

/-- Is there a number of n bytes from byte p on? -/
def fits (p n : Int) : Bool := decide (1 ≤ n ∧ n ≤ 8 ∧ 0 ≤ p ∧ p + n ≤ 64)
theorem fits_iff {p n : Int} : fits p n = true ↔ 1 ≤ n ∧ n ≤ 8 ∧ 0 ≤ p ∧ p + n ≤ 64 := by simp [fits]
def num (ws : List Int) (a : Nat) : Nat → Int
  | 0 => 0
  | k + 1 => num ws a k + 256 ^ k * ws.getD (a + k) 0
theorem pow_pos (k : Nat) : (0 : Int) < 256 ^ k := Int.pow_pos (by decide)
theorem pow_succ (k : Nat) : (256 : Int) ^ (k + 1) = 256 * 256 ^ k := by rw [Int.pow_succ, Int.mul_comm]
theorem pow_two (k : Nat) : (256 : Int) ^ k = 2 ^ (8 * k) := by rw [Int.pow_mul]; rfl
theorem pow_le {k m : Nat} (h : k ≤ m) : (256 : Int) ^ k ≤ 256 ^ m := by
  induction m with
  | zero => obtain rfl : k = 0 := by omega
            exact Int.le_refl _
  | succ m ih =>
    by_cases e : k = m + 1
    · subst e; exact Int.le_refl _
    · have := ih (by omega)
      have := pow_pos m
      rw [pow_succ]; omega
theorem num_range {ws : List Int} (h : Is ws) (a : Nat) : ∀ k, 0 ≤ num ws a k ∧ num ws a k < 256 ^ k
  | 0 => by simp [num]
  | k + 1 => by
    have ih := num_range h a k
    have b := h.byte (a + k)
    have p := pow_pos k
    simp only [num]
    rw [pow_succ]
    generalize ws.getD (a + k) 0 = x at *
    generalize (256 : Int) ^ k = q at *
    have h1 : q * x ≤ q * 255 := Int.mul_le_mul_of_nonneg_left b.2 (by omega)
    have h0 : 0 ≤ q * x := Int.mul_nonneg (by omega) b.1
    omega
theorem num_lt {ws : List Int} (h : Is ws) (a k : Nat) (hk : k ≤ 8) : num ws a k < 18446744073709551616 := by
  have := (num_range h a k).2
  have := pow_le hk
  have e : (256 : Int) ^ 8 = 18446744073709551616 := by decide
  omega
def get (ws : List Int) (p n : Int) : Int := if fits p n then num ws p.toNat n.toNat else 0
theorem get_range {ws : List Int} (h : Is ws) (p n : Int) : 0 ≤ get ws p n ∧ get ws p n < 18446744073709551616 := by
  unfold get
  split
  · rename_i hf
    have := fits_iff.1 hf
    exact ⟨(num_range h _ _).1, num_lt h _ _ (by omega)⟩
  · decide
/-- What the k-th byte of a number is. -/
def byteOf (v : Int) (k : Nat) : Int := v / 256 ^ k % 256
theorem byteOf_range (v : Int) (k : Nat) : 0 ≤ byteOf v k ∧ byteOf v k ≤ 255 := by
  unfold byteOf
  generalize v / 256 ^ k = q
  omega
def putN (ws : List Int) (a : Nat) (v : Int) : Nat → List Int
  | 0 => ws
  | k + 1 => (putN ws a v k).set (a + k) (byteOf v k)
theorem putN_is {ws : List Int} (h : Is ws) (a : Nat) (v : Int) : ∀ k, Is (putN ws a v k)
  | 0 => h
  | k + 1 => (putN_is h a v k).set _ (byteOf_range v k).1 (byteOf_range v k).2
def put (ws : List Int) (p n v : Int) : List Int := if fits p n then putN ws p.toNat v n.toNat else ws
theorem put_is {ws : List Int} (h : Is ws) (p n v : Int) : Is (put ws p n v) := by
  unfold put
  split
  · exact putN_is h _ _ _
  · exact h
theorem putN_get {ws : List Int} (h : Is ws) (a : Nat) (v : Int) : ∀ (k : Nat), a + k ≤ 64 → ∀ j, (putN ws a v k).getD j 0 = if a ≤ j ∧ j < a + k then byteOf v (j - a) else ws.getD j 0
  | 0, _, j => by rw [if_neg (by omega)]; rfl
  | k + 1, hk, j => by
    show ((putN ws a v k).set (a + k) (byteOf v k)).getD j 0 = _
    rw [getD_set _ _ _ _ (by rw [(putN_is h a v k).1]; omega), putN_get h a v k (by omega) j]
    by_cases h1 : j = a + k
    · subst h1
      rw [if_pos rfl, if_pos (by omega), show a + k - a = k by omega]
    · rw [if_neg h1]
      by_cases h2 : a ≤ j ∧ j < a + k
      · rw [if_pos h2, if_pos (by omega)]
      · rw [if_neg h2, if_neg (by omega)]
theorem num_congr {ws os : List Int} {a b : Nat} : ∀ k, (∀ j, j < k → ws.getD (a + j) 0 = os.getD (b + j) 0) → num ws a k = num os b k
  | 0, _ => rfl
  | k + 1, h => by
    simp only [num]
    rw [num_congr k (fun j hj => h j (by omega)), h k (by omega)]
theorem div_bytes (v : Int) (k : Nat) : v / 256 ^ k = v / 256 ^ (k + 1) * 256 + byteOf v k := by
  unfold byteOf
  rw [Int.pow_succ, ← Int.ediv_ediv_of_nonneg (Int.le_of_lt (pow_pos k))]
  generalize v / 256 ^ k = q
  omega
theorem num_bytes {os : List Int} {a : Nat} (v : Int) : ∀ k, (∀ j, j < k → os.getD (a + j) 0 = byteOf v j) → num os a k = v % 256 ^ k
  | 0, _ => by simp [num]
  | k + 1, h => by
    simp only [num]
    rw [num_bytes v k (fun j hj => h j (by omega)), h k (by omega)]
    have e := div_bytes v k
    have p := pow_pos k
    have d1 := Int.emod_add_mul_ediv v (256 ^ k)
    have d2 := Int.emod_add_mul_ediv v (256 ^ (k + 1))
    rw [pow_succ] at d2 ⊢
    rw [pow_succ] at e
    generalize v % 256 ^ k = r at *
    generalize v % (256 * 256 ^ k) = s at *
    generalize hq : v / (256 * 256 ^ k) = t at *
    rw [e] at d1
    generalize byteOf v k = b at *
    generalize (256 : Int) ^ k = q at *
    have e1 : q * (t * 256 + b) = 256 * q * t + q * b := by
      rw [Int.mul_add, Int.mul_comm t 256, ← Int.mul_assoc, Int.mul_comm q 256]
    rw [e1] at d1
    omega
/-- WHAT WAS PUT IS GOT. -/
theorem get_put {ws : List Int} (h : Is ws) (p n v : Int) (hf : fits p n = true) : get (put ws p n v) p n = v % 256 ^ n.toNat := by
  have f := fits_iff.1 hf
  unfold get put
  rw [if_pos hf, if_pos hf]
  refine num_bytes v _ fun j hj => ?_
  rw [putN_get h _ _ _ (by omega), if_pos (by omega), show p.toNat + j - p.toNat = j by omega]
/-- .. and no other byte is changed. -/
theorem put_far {ws : List Int} (h : Is ws) (p n v : Int) (j : Nat) (hj : (j : Int) < p ∨ p + n ≤ j) : (put ws p n v).getD j 0 = ws.getD j 0 := by
  unfold put
  split
  · rename_i hf
    have f := fits_iff.1 hf
    rw [putN_get h _ _ _ (by omega), if_neg (by omega)]
  · rfl

/-! ### what is reckoned in a round -/
theorem or_add {a c : Int} (t : Nat) (ha0 : 0 ≤ a) (hl : a < 2 ^ t) (hc0 : 0 ≤ c) (h64 : a + 2 ^ t * c < 18446744073709551616) : bits .or .u64 a (2 ^ t * c) = a + 2 ^ t * c := by
  have hp : (0 : Int) < 2 ^ t := Int.pow_pos (by decide)
  have hm : 0 ≤ 2 ^ t * c := Int.mul_nonneg (Int.le_of_lt hp) hc0
  rw [u64_or a (2 ^ t * c) ha0 (by omega) hm (by omega)]
  obtain ⟨A, rfl⟩ := Int.eq_ofNat_of_zero_le ha0
  obtain ⟨C, rfl⟩ := Int.eq_ofNat_of_zero_le hc0
  have e : ((2 : Int) ^ t * (C : Int)).toNat = 2 ^ t * C := by rw [pow_cast, ← Int.natCast_mul, Int.toNat_natCast]
  have h2 : A < 2 ^ t := by rw [pow_cast] at hl; omega
  rw [e, Int.toNat_natCast, Nat.or_comm, ← Nat.two_pow_add_eq_or_of_lt h2 C, pow_cast, ← Int.natCast_mul]
  omega
/-- A round of the code's Get. -/
theorem get_round {ws : List Int} (h : Is ws) (a k : Nat) (hk : k < 8) : bits .or .u64 (num ws a k) (IntKind.u64.wrap (ws.getD (a + k) 0 * 2 ^ (8 * k))) = num ws a (k + 1) := by
  have r := num_range h a k
  have r' := num_range h a (k + 1)
  have hl := num_lt h a (k + 1) (by omega)
  have b := h.byte (a + k)
  simp only [num] at hl r' ⊢
  rw [pow_two] at r hl ⊢
  have p : (0 : Int) < 2 ^ (8 * k) := Int.pow_pos (by decide)
  have hm : 0 ≤ 2 ^ (8 * k) * ws.getD (a + k) 0 := Int.mul_nonneg (Int.le_of_lt p) b.1
  have e : IntKind.u64.wrap (ws.getD (a + k) 0 * 2 ^ (8 * k)) = 2 ^ (8 * k) * ws.getD (a + k) 0 := by
    rw [Int.mul_comm, IntKind.wrap_u64]; omega
  rw [e]
  exact or_add (8 * k) r.1 r.2 b.1 hl
/-- A round of the reference's Get: f is 256 to the k. -/
theorem ref_round {ws : List Int} (h : Is ws) (a k : Nat) (hk : k < 8) : IntKind.u64.wrap (num ws a k + IntKind.u64.wrap (256 ^ k * ws.getD (a + k) 0)) = num ws a (k + 1) := by
  have r := num_range h a k
  have r' := num_range h a (k + 1)
  have hl := num_lt h a (k + 1) (by omega)
  have b := h.byte (a + k)
  simp only [num] at hl r' ⊢
  have p := pow_pos k
  have hm : 0 ≤ 256 ^ k * ws.getD (a + k) 0 := Int.mul_nonneg (Int.le_of_lt p) b.1
  rw [IntKind.wrap_u64, IntKind.wrap_u64]
  omega
theorem ref_pow (k : Nat) : IntKind.u64.wrap (IntKind.u64.wrap (256 ^ k) * 256) = IntKind.u64.wrap (256 ^ (k + 1)) := by
  rw [Int.pow_succ, IntKind.wrap_u64, IntKind.wrap_u64, IntKind.wrap_u64]
  generalize (256 : Int) ^ k = q
  omega
theorem pow_wrap {k : Nat} (h : k < 8) : IntKind.u64.wrap (256 ^ k) = 256 ^ k := by
  have := pow_le (show k ≤ 7 by omega)
  have e : (256 : Int) ^ 7 = 72057594037927936 := by decide
  have := pow_pos k
  rw [IntKind.wrap_u64]
  omega
/-- A byte of the code's Put. -/
theorem byte_code (v : Int) (k : Nat) : v / 2 ^ (8 * k) % 256 = byteOf v k := by
  unfold byteOf
  rw [pow_two]
/-- A round of the reference's Put. -/
theorem ref_div (v : Int) (k : Nat) : v / 256 ^ k / 256 = v / 256 ^ (k + 1) := by
  rw [Int.pow_succ, Int.ediv_ediv_of_nonneg (Int.le_of_lt (pow_pos k))]
theorem div_range' {v : Int} (h0 : 0 ≤ v) (h : v < 18446744073709551616) (k : Nat) : 0 ≤ v / 256 ^ k ∧ v / 256 ^ k < 18446744073709551616 := by
  rw [pow_two]; exact div_range h0 h _

/-! ### blended -/
def blend (ws os : List Int) (x : Int) : Nat → List Int
  | 0 => ws
  | k + 1 => if tb x k then (blend ws os x k).set k (os.getD k 0) else blend ws os x k
theorem blend_is {ws os : List Int} (h : Is ws) (h' : Is os) (x : Int) : ∀ k, Is (blend ws os x k)
  | 0 => h
  | k + 1 => by
    simp only [blend]
    split
    · exact (blend_is h h' x k).set _ (h'.byte k).1 (h'.byte k).2
    · exact blend_is h h' x k
theorem blend_get {ws os : List Int} (h : Is ws) (h' : Is os) (x : Int) : ∀ (k : Nat), k ≤ 64 → ∀ j, (blend ws os x k).getD j 0 = if j < k ∧ tb x j = true then os.getD j 0 else ws.getD j 0
  | 0, _, j => by rw [if_neg (by omega)]; rfl
  | k + 1, hk, j => by
    simp only [blend]
    by_cases hb : tb x k = true
    · rw [if_pos hb, getD_set _ _ _ _ (by rw [(blend_is h h' x k).1]; omega), blend_get h h' x k (by omega) j]
      by_cases hj : j = k
      · subst hj
        rw [if_pos rfl, if_pos ⟨by omega, hb⟩]
      · rw [if_neg hj]
        by_cases h2 : j < k ∧ tb x j = true
        · rw [if_pos h2, if_pos ⟨by omega, h2.2⟩]
        · rw [if_neg h2, if_neg (fun h3 => h2 ⟨by omega, h3.2⟩)]
    · rw [if_neg hb, blend_get h h' x k (by omega) j]
      by_cases h2 : j < k ∧ tb x j = true
      · rw [if_pos h2, if_pos ⟨by omega, h2.2⟩]
      · rw [if_neg h2, if_neg]
        intro h3
        by_cases hj : j = k
        · subst hj; exact hb h3.2
        · exact h2 ⟨by omega, h3.2⟩
/-- Where two lines are unlike. -/
def un (ws os : List Int) (k : Nat) : Bool := ws.getD k 0 != os.getD k 0
def diff (ws os : List Int) : Int := word (un ws os)
theorem diff_range (ws os : List Int) : 0 ≤ diff ws os ∧ diff ws os < 18446744073709551616 := ⟨word_nonneg _, word_lt _⟩
theorem tb_diff (ws os : List Int) (i : Nat) : tb (diff ws os) i = (decide (i < 64) && un ws os i) := tb_word _ _
theorem blend_diff {ws os : List Int} (h : Is ws) (h' : Is os) : blend ws os (diff ws os) 64 = os := by
  refine ext (blend_is h h' _ _).1 h'.1 fun i hi => ?_
  rw [blend_get h h' _ _ (Nat.le_refl _), tb_diff]
  by_cases hu : un ws os i = true
  · rw [if_pos ⟨hi, by simp [hi, hu]⟩]
  · rw [if_neg (by simp [hu])]
    unfold un at hu
    simpa using hu
theorem blend_zero {ws os : List Int} (h : Is ws) (h' : Is os) : blend ws os 0 64 = ws := by
  refine ext (blend_is h h' _ _).1 h.1 fun i hi => ?_
  rw [blend_get h h' _ _ (Nat.le_refl _), tb_zero, if_neg (by simp)]
theorem diff_self (ws : List Int) : diff ws ws = 0 := by
  refine Wd.ext (diff_range _ _).1 (diff_range _ _).2 (by decide) (by decide) fun i hi => ?_
  rw [tb_diff, tb_zero]
  simp [un]

/-! ### the line of bytes -/
def ofB (bs : List Int) : List Int := bs.take 64 ++ List.replicate (64 - bs.length) 0
theorem ofB_is {bs : List Int} (h : ∀ x ∈ bs, 0 ≤ x ∧ x ≤ 255) : Is (ofB bs) :=
  ⟨by simp [ofB]; omega, fun x hx => by
    rcases List.mem_append.1 hx with h1 | h1
    · exact h x (List.mem_of_mem_take h1)
    · obtain ⟨_, rfl⟩ := List.mem_replicate.1 h1
      decide⟩
theorem ofB_get (bs : List Int) (j : Nat) (hj : j < 64) : (ofB bs).getD j 0 = bs.getD j 0 := by
  unfold ofB
  rw [List.getD, List.getD]
  by_cases h : j < bs.length
  · rw [List.getElem?_append_left (by rw [List.length_take]; omega), List.getElem?_take, if_pos hj]
  · rw [List.getElem?_append_right (by rw [List.length_take]; omega), List.getElem?_eq_none (show bs.length ≤ j by omega), List.length_take, List.getElem?_replicate]
    split <;> rfl
/-- The reference's way: byte by byte. -/
def ofN (bs : List Int) : Nat → List Int
  | 0 => zeros
  | k + 1 => (ofN bs k).set k (bs.getD k 0)
theorem ofN_is {bs : List Int} (h : ∀ x ∈ bs, 0 ≤ x ∧ x ≤ 255) : ∀ k, Is (ofN bs k)
  | 0 => zeros_is
  | k + 1 => by
    refine (ofN_is h k).set _ ?_ ?_
    all_goals
      by_cases hk : k < bs.length
      · rw [List.getD, List.getElem?_eq_getElem hk]
        have := h _ (List.getElem_mem hk)
        first | exact this.1 | exact this.2
      · rw [List.getD, List.getElem?_eq_none (by omega)]
        decide
theorem ofN_get {bs : List Int} (h : ∀ x ∈ bs, 0 ≤ x ∧ x ≤ 255) : ∀ (k : Nat), k ≤ 64 → ∀ j, (ofN bs k).getD j 0 = if j < k then bs.getD j 0 else 0
  | 0, _, j => by
    rw [if_neg (by omega)]
    show zeros.getD j 0 = 0
    unfold zeros
    rw [List.getD, List.getElem?_replicate]
    split <;> rfl
  | k + 1, hk, j => by
    show ((ofN bs k).set k (bs.getD k 0)).getD j 0 = _
    rw [getD_set _ _ _ _ (by rw [(ofN_is h k).1]; omega), ofN_get h k (by omega) j]
    by_cases hj : j = k
    · subst hj
      rw [if_pos rfl, if_pos (by omega)]
    · rw [if_neg hj]
      by_cases h2 : j < k
      · rw [if_pos h2, if_pos (by omega)]
      · rw [if_neg h2, if_neg (by omega)]
theorem ofN_ofB {bs : List Int} (h : ∀ x ∈ bs, 0 ≤ x ∧ x ≤ 255) (k : Nat) (hk : k = min bs.length 64) : ofN bs k = ofB bs := by
  refine ext (ofN_is h k).1 (ofB_is h).1 fun i hi => ?_
  rw [ofN_get h k (by omega), ofB_get bs i hi]
  split
  · rfl
  · rw [List.getD, List.getElem?_eq_none (by omega)]; rfl
end Go.Proofs.YtjeolfcefeglpabGreat.Ln
namespace Go.Proofs.YtjeolfcefeglpabGreat.Rm
open Wd

def mk (L : Nat) (f : Nat → Int) : List Int := (List.range L).map f
theorem mk_len (L : Nat) (f : Nat → Int) : (mk L f).length = L := by simp [mk]
theorem mk_get (L : Nat) (f : Nat → Int) (j : Nat) (hj : j < L) : (mk L f).getD j 0 = f j := by simp [mk, List.getD, hj]
theorem mem_mk {L : Nat} {f : Nat → Int} {x : Int} (h : x ∈ mk L f) : ∃ j, j < L ∧ f j = x := by
  simp only [mk, List.mem_map, List.mem_range] at h
  exact h
theorem ext {xs ys : List Int} (h : xs.length = ys.length) (he : ∀ i, i < xs.length → xs.getD i 0 = ys.getD i 0) : xs = ys := by
  apply List.ext_getElem?
  intro i
  by_cases hi : i < xs.length
  · have := he i hi
    rw [List.getD, List.getD, List.getElem?_eq_getElem hi, List.getElem?_eq_getElem (by omega)] at this
    rw [List.getElem?_eq_getElem hi, List.getElem?_eq_getElem (by omega)]
    exact congrArg some this
  · rw [List.getElem?_eq_none (by omega), List.getElem?_eq_none (by omega)]
/-- A memory of n lines. -/
structure Ok (B : List Int) (n : Nat) : Prop where
  len : B.length = 64 * n
  rng : ∀ j, 0 ≤ B.getD j 0 ∧ B.getD j 0 ≤ 255
theorem mk_ok {n : Nat} {f : Nat → Int} (h : ∀ j, 0 ≤ f j ∧ f j ≤ 255) : Ok (mk (64 * n) f) n :=
  ⟨mk_len _ _, fun j => by
    by_cases hj : j < 64 * n
    · rw [mk_get _ _ _ hj]; exact h j
    · rw [List.getD, List.getElem?_eq_none (by rw [mk_len]; omega)]; decide⟩
def row (B : List Int) (i : Nat) : List Int := mk 64 fun k => B.getD (64 * i + k) 0
theorem row_get (B : List Int) (i k : Nat) (hk : k < 64) : (row B i).getD k 0 = B.getD (64 * i + k) 0 := mk_get _ _ _ hk
theorem row_is {B : List Int} {n : Nat} (h : Ok B n) (i : Nat) : Ln.Is (row B i) :=
  ⟨mk_len _ _, fun x hx => by obtain ⟨j, -, rfl⟩ := mem_mk hx; exact h.rng _⟩
def setRow (B : List Int) (i : Nat) (l : List Int) : List Int := mk B.length fun j => if j / 64 = i then l.getD (j % 64) 0 else B.getD j 0
theorem setRow_ok {B : List Int} {n : Nat} (h : Ok B n) (i : Nat) {l : List Int} (hl : Ln.Is l) : Ok (setRow B i l) n := by
  unfold setRow
  rw [h.len]
  refine mk_ok fun j => ?_
  split
  · exact hl.byte _
  · exact h.rng _
theorem setRow_get {B : List Int} {n : Nat} (h : Ok B n) (i : Nat) (l : List Int) (j : Nat) (hj : j < 64 * n) : (setRow B i l).getD j 0 = if j / 64 = i then l.getD (j % 64) 0 else B.getD j 0 :=
  mk_get _ _ _ (by rw [h.len]; exact hj)
theorem row_set {B : List Int} {n : Nat} (h : Ok B n) (i : Nat) (hi : i < n) {l : List Int} (hl : Ln.Is l) : row (setRow B i l) i = l := by
  refine ext (by rw [hl.1]; exact mk_len _ _) fun k hk => ?_
  have hk' : k < 64 := by simpa [row, mk_len] using hk
  rw [row_get _ _ _ hk', setRow_get h _ _ _ (by omega), if_pos (by omega)]
  congr 1
  omega
theorem row_other {B : List Int} {n : Nat} (h : Ok B n) (i j : Nat) (hj : j < n) (hne : j ≠ i) (l : List Int) : row (setRow B i l) j = row B j := by
  refine ext (by rw [row, row, mk_len, mk_len]) fun k hk => ?_
  have hk' : k < 64 := by simpa [row, mk_len] using hk
  rw [row_get _ _ _ hk', row_get _ _ _ hk', setRow_get h _ _ _ (by omega), if_neg (by omega)]
theorem eq_rows {B C : List Int} {n : Nat} (h : Ok B n) (h' : Ok C n) (he : ∀ i, i < n → row B i = row C i) : B = C := by
  refine ext (by rw [h.len, h'.len]) fun j hj => ?_
  rw [h.len] at hj
  have e : (row B (j / 64)).getD (j % 64) 0 = (row C (j / 64)).getD (j % 64) 0 := by rw [he (j / 64) (by omega)]
  rw [row_get _ _ _ (by omega), row_get _ _ _ (by omega), show 64 * (j / 64) + j % 64 = j by omega] at e
  exact e
theorem setRow_self {B : List Int} {n : Nat} (h : Ok B n) (i : Nat) : setRow B i (row B i) = B := by
  refine ext (by rw [setRow, mk_len]) fun j hj => ?_
  have hj' : j < 64 * n := by rw [← h.len]; simpa [setRow, mk_len] using hj
  rw [setRow_get h _ _ _ hj']
  split
  · rw [row_get _ _ _ (by omega)]
    congr 1
    omega
  · rfl
def nought (n : Nat) : List Int := List.replicate (64 * n) 0
theorem nought_ok (n : Nat) : Ok (nought n) n := ⟨by simp [nought], fun j => by
  unfold nought
  rw [List.getD, List.getElem?_replicate]
  split <;> decide⟩
theorem nought_row (n i : Nat) : row (nought n) i = Ln.zeros := by
  refine ext (by rw [row, mk_len]; rfl) fun k hk => ?_
  have hk' : k < 64 := by simpa [row, mk_len] using hk
  rw [row_get _ _ _ hk']
  unfold nought Ln.zeros
  rw [List.getD, List.getD, List.getElem?_replicate, List.getElem?_replicate]
  split <;> simp

/-! ### how many rows aren't noughts -/
def full (B : List Int) (i : Nat) : Bool := row B i != Ln.zeros
def cnt (B : List Int) : Nat → Nat
  | 0 => 0
  | k + 1 => cnt B k + (full B k).toNat
theorem cnt_congr {B C : List Int} : ∀ k, (∀ i, i < k → row B i = row C i) → cnt B k = cnt C k
  | 0, _ => rfl
  | k + 1, h => by
    simp only [cnt, full]
    rw [cnt_congr k (fun i hi => h i (by omega)), h k (by omega)]
theorem cnt_set {B : List Int} {n : Nat} (h : Ok B n) (i : Nat) {l : List Int} (hl : Ln.Is l) : ∀ k, k ≤ n → i < k → cnt (setRow B i l) k + (full B i).toNat = cnt B k + (l != Ln.zeros).toNat
  | 0, _, hi => absurd hi (by omega)
  | k + 1, hk, hi => by
    simp only [cnt]
    by_cases e : i = k
    · subst e
      rw [cnt_congr (C := B) i (fun j hj => row_other h i j (by omega) (by omega) l)]
      have : full (setRow B i l) i = (l != Ln.zeros) := by unfold full; rw [row_set h i (by omega) hl]
      rw [this]
      omega
    · have ih := cnt_set h i hl k (by omega) (by omega)
      have : full (setRow B i l) k = full B k := by unfold full; rw [row_other h i k (by omega) (by omega) l]
      rw [this]
      omega
/-- If each row of one memory that isn't noughts is the other one's, it has no more of them; and if it has as many, the others are noughts too. -/
theorem cnt_le {B C : List Int} : ∀ k, (∀ i, i < k → full B i = true → row C i = row B i) → cnt B k ≤ cnt C k
  | 0, _ => Nat.le_refl _
  | k + 1, h => by
    have ih := cnt_le k (fun i hi => h i (by omega))
    simp only [cnt]
    cases hf : full B k
    · simp; omega
    · have : full C k = true := by
        unfold full at hf ⊢
        rw [h k (by omega) hf]
        exact hf
      rw [this]
      omega
theorem cnt_eq {B C : List Int} : ∀ k, (∀ i, i < k → full B i = true → row C i = row B i) → cnt B k = cnt C k → ∀ i, i < k → row C i = row B i
  | 0, _, _, i, hi => absurd hi (by omega)
  | k + 1, h, he, i, hi => by
    have hle := cnt_le k (fun i hi => h i (by omega))
    simp only [cnt] at he
    cases hf : full B k
    · have hc : full C k = false := by
        cases hcf : full C k
        · rfl
        · rw [hf, hcf] at he; simp at he; omega
      rw [hf, hc] at he
      by_cases e : i = k
      · subst e
        unfold full at hf hc
        have e1 : row B i = Ln.zeros := by simpa using hf
        have e2 : row C i = Ln.zeros := by simpa using hc
        rw [e1, e2]
      · exact cnt_eq k (fun i hi => h i (by omega)) (by simpa using he) i (by omega)
    · by_cases e : i = k
      · subst e; exact h i (by omega) hf
      · have hc : full C k = true := by
          unfold full at hf ⊢
          rw [h k (by omega) hf]
          exact hf
        rw [hf, hc] at he
        exact cnt_eq k (fun i hi => h i (by omega)) (by omega) i (by omega)

/-! ### numbers -/
def st (B : List Int) (a m : Nat) (v : Int) : List Int := mk B.length fun j => if a ≤ j ∧ j < a + m then Ln.byteOf v (j - a) else B.getD j 0
theorem st_ok {B : List Int} {n : Nat} (h : Ok B n) (a m : Nat) (v : Int) : Ok (st B a m v) n := by
  unfold st
  rw [h.len]
  refine mk_ok fun j => ?_
  split
  · exact Ln.byteOf_range _ _
  · exact h.rng _
theorem st_get {B : List Int} {n : Nat} (h : Ok B n) (a m : Nat) (v : Int) (j : Nat) (hj : j < 64 * n) : (st B a m v).getD j 0 = if a ≤ j ∧ j < a + m then Ln.byteOf v (j - a) else B.getD j 0 :=
  mk_get _ _ _ (by rw [h.len]; exact hj)
/-- A number laid within a line. -/
def putR (B : List Int) (i : Nat) (p m v : Int) : List Int := if Ln.fits p m then setRow B i (Ln.put (row B i) p m v) else B
theorem putR_ok {B : List Int} {n : Nat} (h : Ok B n) (i : Nat) (p m v : Int) : Ok (putR B i p m v) n := by
  unfold putR
  split
  · exact setRow_ok h i (Ln.put_is (row_is h i) _ _ _)
  · exact h
theorem putR_st {B : List Int} {n : Nat} (h : Ok B n) (i p m : Nat) (v : Int) (hpm : p + m ≤ 64) (hm : m ≤ 8) : putR B i p m v = st B (64 * i + p) m v := by
  refine ext (by rw [(putR_ok h i _ _ _).len, (st_ok h _ _ _).len]) fun j hj => ?_
  rw [(putR_ok h i _ _ _).len] at hj
  rw [st_get h _ _ _ _ hj]
  unfold putR
  by_cases h0 : m = 0
  · subst h0
    rw [if_neg (by unfold Ln.fits; simp), if_neg (by omega)]
  · have hf : Ln.fits (p : Int) (m : Int) = true := Ln.fits_iff.2 (by omega)
    rw [if_pos hf, setRow_get h _ _ _ hj]
    by_cases e : j / 64 = i
    · rw [if_pos e]
      unfold Ln.put
      rw [if_pos hf, Int.toNat_natCast, Int.toNat_natCast, Ln.putN_get (row_is h i) _ _ _ (by omega), row_get _ _ _ (by omega)]
      by_cases c : p ≤ j % 64 ∧ j % 64 < p + m
      · rw [if_pos c, if_pos (by omega)]
        congr 1
        omega
      · rw [if_neg c, if_neg (by omega)]
        congr 1
        omega
    · rw [if_neg e, if_neg (by omega)]
theorem byteOf_add (v : Int) (m k : Nat) : Ln.byteOf (v / 256 ^ m) k = Ln.byteOf v (m + k) := by
  unfold Ln.byteOf
  rw [Int.pow_add, Int.ediv_ediv_of_nonneg (Int.le_of_lt (Ln.pow_pos m))]
/-- A number that is laid in two parts. -/
theorem st_two {B : List Int} {n : Nat} (h : Ok B n) (a m k : Nat) (v : Int) : st (st B a m v) (a + m) k (v / 256 ^ m) = st B a (m + k) v := by
  refine ext (by rw [(st_ok (st_ok h _ _ _) _ _ _).len, (st_ok h _ _ _).len]) fun j hj => ?_
  rw [(st_ok (st_ok h _ _ _) _ _ _).len] at hj
  rw [st_get (st_ok h _ _ _) _ _ _ _ hj, st_get h _ _ _ _ hj, st_get h _ _ _ _ hj, byteOf_add]
  by_cases c : a + m ≤ j ∧ j < a + m + k
  · rw [if_pos c, if_pos (by omega)]
    congr 1
    omega
  · rw [if_neg c]
    by_cases c2 : a ≤ j ∧ j < a + m
    · rw [if_pos c2, if_pos (by omega)]
    · rw [if_neg c2, if_neg (by omega)]
theorem num_row {B : List Int} (i p : Nat) (m : Nat) (hpm : p + m ≤ 64) : Ln.num (row B i) p m = Ln.num B (64 * i + p) m :=
  Ln.num_congr m fun j hj => by
    rw [row_get _ _ _ (by omega)]
    congr 1
    omega
theorem num_add (B : List Int) (a m : Nat) : ∀ k, Ln.num B a (m + k) = Ln.num B a m + 256 ^ m * Ln.num B (a + m) k
  | 0 => by simp [Ln.num]
  | k + 1 => by
    show Ln.num B a (m + k) + 256 ^ (m + k) * B.getD (a + (m + k)) 0 = Ln.num B a m + 256 ^ m * (Ln.num B (a + m) k + 256 ^ k * B.getD (a + m + k) 0)
    rw [num_add B a m k, Int.mul_add, Int.pow_add, Int.mul_assoc, show a + (m + k) = a + m + k by omega]
    omega
theorem num_rng {B : List Int} {n : Nat} (h : Ok B n) (a : Nat) : ∀ k, 0 ≤ Ln.num B a k ∧ Ln.num B a k < 256 ^ k
  | 0 => by simp [Ln.num]
  | k + 1 => by
    have ih := num_rng h a k
    have b := h.rng (a + k)
    have p := Ln.pow_pos k
    simp only [Ln.num]
    rw [Ln.pow_succ]
    generalize B.getD (a + k) 0 = x at *
    generalize (256 : Int) ^ k = q at *
    have h1 : q * x ≤ q * 255 := Int.mul_le_mul_of_nonneg_left b.2 (by omega)
    have h0 : 0 ≤ q * x := Int.mul_nonneg (by omega) b.1
    omega
theorem num_st {B : List Int} {n : Nat} (h : Ok B n) (a m : Nat) (v : Int) (ham : a + m ≤ 64 * n) : Ln.num (st B a m v) a m = v % 256 ^ m :=
  Ln.num_bytes v m fun j hj => by rw [st_get h _ _ _ _ (by omega), if_pos (by omega), show a + j - a = j by omega]
end Go.Proofs.YtjeolfcefeglpabGreat.Rm
set_option maxRecDepth 20000
namespace Go.Proofs.YtjeolfcefeglpabGreat
open Go.ChangeShapes Go.WideShapes Go.ChangeAt Go.RowKit Wd

/-- A whole array loaded by an operation whose guard says yes. -/
theorem wpList_load_rowW {P : Program} {ops : Array Oper} {rest : List Oper} {o : Oper} {a : Act} {w : World} {Q : Exit → Act → World → Prop} (hw : Region.wanted o (yielded ops a.tmps) = true) (ty : TypeId) (x : Operand) (ho : o.op = .load ty x)
    (g : Nat) (hx : a.eval x = .pointer (some ⟨g, 0, none⟩)) (t : TypeId) (cs : Array Value) (fr : Nat × Nat) (d : TypeDesc) (hg : w.heap[g]? = some (.cells cs t fr))
    (hu : P.underlying ty = some d) (hd : (match d with | .struct _ | .array _ _ => true | _ => false) = true) (hi : (P.info? ty).map (·.size) = some cs.size)
    (h : wpList P ops Q rest (a.put o.dst (.agg cs)) w) : wpList P ops Q (o :: rest) a w :=
  wpList_step fun _ hK => by
    rw [if_pos hw]
    exact wp_load_row ty x ho g hx t cs fr d hg hu hd hi (hK _ _ h)
theorem lret_b {a b : Bool} (h : a = b) : Ending.returned (.bool a) = .returned (.bool b) := by rw [h]
theorem lret_u {k : IntKind} {a b : Int} (h : a = b) : Ending.returned (.int k a) = .returned (.int k b) := by rw [h]
theorem lret_nb {k : IntKind} {a b : Int} {x y : Bool} (h : a = b) (h' : x = y) : Ending.returned (.tuple #[.int k a, .bool x]) = .returned (.tuple #[.int k b, .bool y]) := by rw [h, h']
theorem info_line : (Tryz.prog.info? 73).map (·.size) = some 64 := by kernel_rfl
theorem info_arr : (Tryz.prog.info? 72).map (·.size) = some 64 := by kernel_rfl
theorem iL {ws : List Int} (h : ws.length = 64) : (Tryz.prog.info? 73).map (·.size) = some (aV .u8 ws).size := by rw [aV_size, h]; exact info_line
theorem iR {ws : List Int} (h : ws.length = 64) : (Tryz.prog.info? 72).map (·.size) = some (aV .u8 ws).size := by rw [aV_size, h]; exact info_arr
theorem exists_c (p n : Int) (w : World) (hp : -9223372036854775808 ≤ p ∧ p ≤ 9223372036854775807) : Calls Tryz.prog 151 #[.int .i64 p, .int .i64 n] w fun e w' => e = .returned (.bool (Ln.fits p n)) ∧ w = w' := by
  by_cases h1 : 1 ≤ n
  · by_cases h2 : n ≤ 8
    · by_cases h3 : 0 ≤ p
      · have e : Ln.fits p n = decide (p ≤ 64 - n) := by unfold Ln.fits; exact decide_eq_decide.2 (by omega)
        have H := Lib.hid e
        have g1 : decide (1 ≤ n) = true := by simpa using h1
        have g2 : decide (n ≤ 8) = true := by simpa using h2
        have g3 : decide (0 ≤ p) = true := by simpa using h3
        clear e
        go_enter Tryz.func151, Tryz.ntmps151
        go_wp2_with fail
        go_ret
        exact ⟨lret_b H.out.symm, rfl⟩
      · have H := Lib.hid (show Ln.fits p n = false by unfold Ln.fits; simp; omega)
        have g1 : decide (1 ≤ n) = true := by simpa using h1
        have g2 : decide (n ≤ 8) = true := by simpa using h2
        have g3 : decide (0 ≤ p) = false := by simpa using h3
        go_enter Tryz.func151, Tryz.ntmps151
        go_wp2_with fail
        go_ret
        exact ⟨lret_b H.out.symm, rfl⟩
    · have H := Lib.hid (show Ln.fits p n = false by unfold Ln.fits; simp; omega)
      have g1 : decide (1 ≤ n) = true := by simpa using h1
      have g2 : decide (n ≤ 8) = false := by simpa using h2
      go_enter Tryz.func151, Tryz.ntmps151
      go_wp2_with fail
      go_ret
      exact ⟨lret_b H.out.symm, rfl⟩
  · have H := Lib.hid (show Ln.fits p n = false by unfold Ln.fits; simp; omega)
    have g1 : decide (1 ≤ n) = false := by simpa using h1
    go_enter Tryz.func151, Tryz.ntmps151
    go_wp2_with fail
    go_ret
    exact ⟨lret_b H.out.symm, rfl⟩

set_option maxHeartbeats 1000000 in
theorem get_c (ws : List Int) (h : Ln.Is ws) (p n : Int) (w : World) (hp : -9223372036854775808 ≤ p ∧ p ≤ 9223372036854775807) :
    Calls Tryz.prog 118 #[.agg (aV .u8 ws), .int .i64 p, .int .i64 n] w fun e w' => e = .returned (.tuple #[.int .u64 (Ln.get ws p n), .bool (Ln.fits p n)]) ∧ Below w.heap.size w w' := by
  have HI := Lib.hid h
  have HB := Lib.hid ((Below.refl w.heap.size w).alloc (Nat.le_refl _) (.cells (aV .u8 ws) 73))
  have HR := Lib.hid (RowAt.new .u8 w 73 ws)
  clear h
  by_cases hf : Ln.fits p n = true
  · have HG := Lib.hid (show Ln.get ws p n = Ln.num ws p.toNat n.toNat by unfold Ln.get; rw [if_pos hf])
    obtain ⟨f1, f2, f3, f4⟩ := Ln.fits_iff.1 hf
    obtain ⟨a, rfl⟩ := Int.eq_ofNat_of_zero_le f3
    obtain ⟨m, rfl⟩ := Int.eq_ofNat_of_zero_le (show 0 ≤ n by omega)
    have hm : m ≤ 8 := by omega
    have ham : a + m ≤ 64 := by omega
    clear f1 f2 f3 f4
    go_enter Tryz.func118, Tryz.ntmps118
    go_wp2_with fail
    refine (exists_c _ _ _ hp).mono ?_
    rintro e w1 ⟨rfl, rfl⟩
    generalize w.alloc (.cells (aV .u8 ws) 73) = w1 at *
    go_wp2_with fail
    go_loop [8, 15] (fun v i => ∃ k : Nat, k ≤ m ∧ i = .int .i64 k ∧ v = .int .u64 (Ln.num ws a k)) (fun _ i => m - (intOf i).toNat)
    case atStart => exact ⟨0, by omega, rfl, rfl⟩
    case round =>
      obtain ⟨k, hk, rfl, rfl⟩ := hrel
      by_cases hlt : k < m
      · have hc := HR.out.cell (a + k) (by rw [HI.out.1]; omega)
        have HE := Lib.hid (Ln.get_round HI.out a k (by omega))
        have hb := HI.out.byte (a + k)
        have hn := Ln.num_range HI.out a k
        generalize ws.getD (a + k) 0 = x at *
        go_wp2_with fail
        go_round
        case rel => exact ⟨k + 1, by omega, by go_num, by rw [← HE.out]⟩
        case measure => simp [intOf]; omega
      · obtain rfl : k = m := by omega
        go_wp2_with fail
        go_ret2
        exact ⟨lret_nb HG.out.symm rfl, HB.out⟩
  · have hf : Ln.fits p n = false := by simpa using hf
    have HG := Lib.hid (show Ln.get ws p n = 0 by unfold Ln.get; rw [if_neg (by simp [hf])])
    go_enter Tryz.func118, Tryz.ntmps118
    go_wp2_with fail
    refine (exists_c _ _ _ hp).mono ?_
    rintro e w1 ⟨rfl, rfl⟩
    rw [hf]
    go_wp2_with fail
    go_ret2
    exact ⟨lret_nb HG.out.symm hf.symm, HB.out⟩

theorem zeros64 : aV .u8 (List.replicate 64 0) = #[.int .u8 0, .int .u8 0, .int .u8 0, .int .u8 0, .int .u8 0, .int .u8 0, .int .u8 0, .int .u8 0, .int .u8 0, .int .u8 0, .int .u8 0, .int .u8 0, .int .u8 0, .int .u8 0, .int .u8 0, .int .u8 0, .int .u8 0, .int .u8 0, .int .u8 0, .int .u8 0, .int .u8 0, .int .u8 0, .int .u8 0, .int .u8 0, .int .u8 0, .int .u8 0, .int .u8 0, .int .u8 0, .int .u8 0, .int .u8 0, .int .u8 0, .int .u8 0, .int .u8 0, .int .u8 0, .int .u8 0, .int .u8 0, .int .u8 0, .int .u8 0, .int .u8 0, .int .u8 0, .int .u8 0, .int .u8 0, .int .u8 0, .int .u8 0, .int .u8 0, .int .u8 0, .int .u8 0, .int .u8 0, .int .u8 0, .int .u8 0, .int .u8 0, .int .u8 0, .int .u8 0, .int .u8 0, .int .u8 0, .int .u8 0, .int .u8 0, .int .u8 0, .int .u8 0, .int .u8 0, .int .u8 0, .int .u8 0, .int .u8 0, .int .u8 0] := rfl
theorem zeros_size {ws : List Int} (h : ws.length = 64) : (aV .u8 (List.replicate 64 0)).size = (aV .u8 ws).size := by rw [aV_size, aV_size, h]; rfl
theorem results_put (tmps : Array Value) (w : World) (b : Nat) (ws : List Int) (r : Bool) (h2 : tmps.getD 8 undef = .pointer (some ⟨b, 0, none⟩)) (h3 : tmps.getD 9 undef = .bool r) (hb : RowAt .u8 w b 73 ws) (hs : ws.length = 64) :
    (results Tryz.f152 tmps).run Tryz.prog w = .ok (.tuple #[.agg (aV .u8 ws), .bool r]) w := by
  have h2' : tmps[8]?.getD undef = .pointer (some ⟨b, 0, none⟩) := by simpa using h2
  have h3' : tmps[9]?.getD undef = .bool r := by simpa using h3
  have hl := run_loadVar_row w b 73 73 (aV .u8 ws) (0, 0) _ hb Tryz.underlying73 rfl (iL hs)
  simp [results, Tryz.results152, h2', h3', asAddr, hl]
theorem lret_lb {ws os : List Int} {x y : Bool} (h : ws = os) (h' : x = y) : Ending.returned (.tuple #[.agg (aV .u8 ws), .bool x]) = .returned (.tuple #[.agg (aV .u8 os), .bool y]) := by rw [h, h']
set_option maxHeartbeats 1000000 in
theorem lput_c (ws : List Int) (h : Ln.Is ws) (p n v : Int) (w : World) (hp : -9223372036854775808 ≤ p ∧ p ≤ 9223372036854775807) (hv : 0 ≤ v ∧ v < 18446744073709551616) :
    Calls Tryz.prog 152 #[.agg (aV .u8 ws), .int .i64 p, .int .i64 n, .int .u64 v] w fun e w' => e = .returned (.tuple #[.agg (aV .u8 (Ln.put ws p n v)), .bool (Ln.fits p n)]) ∧ Below w.heap.size w w' := by
  have HI := Lib.hid h
  have HB := Lib.hid (((Below.refl w.heap.size w).alloc (Nat.le_refl _) (.cells (aV .u8 ws) 73)).alloc (by simp) (.cells (aV .u8 (List.replicate 64 0)) 73))
  have HR := Lib.hid ((RowAt.new .u8 w 73 ws).alloc (.cells (aV .u8 (List.replicate 64 0)) 73))
  have HZ := Lib.hid (show RowAt .u8 ((w.alloc (.cells (aV .u8 ws) 73)).alloc (.cells (aV .u8 (List.replicate 64 0)) 73)) (w.heap.size + 1) 73 (List.replicate 64 0) by
    simpa using RowAt.new .u8 (w.alloc (.cells (aV .u8 ws) 73)) 73 (List.replicate 64 0))
  clear h
  by_cases hf : Ln.fits p n = true
  · have HG := Lib.hid (show Ln.putN ws p.toNat v n.toNat = Ln.put ws p n v by unfold Ln.put; rw [if_pos hf])
    obtain ⟨f1, f2, f3, f4⟩ := Ln.fits_iff.1 hf
    obtain ⟨a, rfl⟩ := Int.eq_ofNat_of_zero_le f3
    obtain ⟨m, rfl⟩ := Int.eq_ofNat_of_zero_le (show 0 ≤ n by omega)
    have hm : m ≤ 8 := by omega
    have ham : a + m ≤ 64 := by omega
    have HV := Lib.hid hv
    clear f1 f2 f3 f4 hv
    go_enter Tryz.func152, Tryz.ntmps152
    go_wp2_with fail
    refine (exists_c _ _ _ hp).mono ?_
    rintro e w1 ⟨rfl, rfl⟩
    rw [← zeros64, hf]
    generalize (w.alloc (.cells (aV .u8 ws) 73)).alloc (.cells (aV .u8 (List.replicate 64 0)) 73) = w1 at *
    go_wp2_with fail
    go_loopw [17] (fun i wr => ∃ k : Nat, k ≤ m ∧ i = .int .i64 k ∧ RowAt .u8 wr w.heap.size 73 (Ln.putN ws a v k) ∧ RowAt .u8 wr (w.heap.size + 1) 73 (List.replicate 64 0) ∧ Below w.heap.size w wr) (fun i _ => m - (intOf i).toNat)
    case atStart => exact ⟨0, by omega, rfl, HR.out, HZ.out, HB.out⟩
    case round =>
      obtain ⟨k, hk, rfl, hr, hz, hb⟩ := hrel
      by_cases hlt : k < m
      · have hc := hr.cell (a + k) (by rw [(Ln.putN_is HI.out a v k).1]; omega)
        have hfz := hr.frozen (a + k)
        have HE := Lib.hid (Ln.byte_code v k)
        have HR' := Lib.hid (hr.set (a + k) (Ln.byteOf v k))
        have HZ' := Lib.hid (hz.far (c := w.heap.size) (i := a + k) (by omega) (.int .u8 (Ln.byteOf v k)))
        have HB' := Lib.hid (hb.setCell (p := ⟨w.heap.size, a + k, none⟩) (Nat.le_refl _) (.int .u8 (Ln.byteOf v k)))
        generalize (Ln.putN ws a v k).getD (a + k) 0 = x at *
        clear hr hz hb
        go_wp2_with fail
        go_roundw
        case rel => exact ⟨k + 1, by omega, by go_num, by rw [HE.out]; exact HR'.out, by rw [HE.out]; exact HZ'.out, by rw [HE.out]; exact HB'.out⟩
        case measure => simp [intOf]; omega
      · obtain rfl : k = m := by omega
        have HR' := Lib.hid hr
        have HZ' := Lib.hid hz
        have HB' := Lib.hid hb
        have HIP := Lib.hid (Ln.putN_is HI.out a v k).1
        clear hr hz hb
        go_wp2_with (first | (refine wpList_load_row rfl 73 _ rfl w.heap.size rfl 73 _ (0, 0) _ HR'.out Tryz.underlying73 rfl (iL HIP.out) ?_) | (refine wpList_store_row rfl 73 _ _ rfl (w.heap.size + 1) _ rfl rfl 73 _ HZ'.out (iL HIP.out) (zeros_size HIP.out) (aV_one _ _) ?_))
        refine bodyPost_ret (results_put _ _ (w.heap.size + 1) _ true rfl rfl (HZ'.out.row _) HIP.out) rfl ⟨lret_lb HG.out hf.symm, below_setRow HB'.out (by omega) _⟩
  · have hf : Ln.fits p n = false := by simpa using hf
    have HG := Lib.hid (show ws = Ln.put ws p n v by unfold Ln.put; rw [if_neg (by simp [hf])])
    go_enter Tryz.func152, Tryz.ntmps152
    go_wp2_with fail
    refine (exists_c _ _ _ hp).mono ?_
    rintro e w1 ⟨rfl, rfl⟩
    rw [← zeros64, hf]
    generalize (w.alloc (.cells (aV .u8 ws) 73)).alloc (.cells (aV .u8 (List.replicate 64 0)) 73) = w1 at *
    go_wp2_with (first | (refine wpList_load_row rfl 73 _ rfl w.heap.size rfl 73 _ (0, 0) _ HR.out Tryz.underlying73 rfl (iL HI.out.1) ?_) | (refine wpList_store_row rfl 73 _ _ rfl (w.heap.size + 1) _ rfl rfl 73 _ HZ.out (iL HI.out.1) (zeros_size HI.out.1) (aV_one _ _) ?_))
    refine bodyPost_ret (results_put _ _ (w.heap.size + 1) _ false rfl rfl (HZ.out.row _) HI.out.1) rfl ⟨lret_lb HG.out hf.symm, below_setRow HB.out (by omega) _⟩
end Go.Proofs.YtjeolfcefeglpabGreat
