/-
  Plain lists, no program: a memory of lines of 64 bytes: its rows, a row or a number laid into it, and how many rows aren't noughts.
-/
import Derived.Test.YtdlollkieihjpaaLnA
namespace Go.Proofs.Ytdlollkieihjpaa.Rm
open Wd

def mk (L : Nat) (f : Nat → Int) : List Int := (List.range L).map f
theorem mk_len (L : Nat) (f : Nat → Int) : (mk L f).length = L := by simp [mk]
theorem mk_get (L : Nat) (f : Nat → Int) (j : Nat) (hj : j < L) : (mk L f).getD j 0 = f j := by simp [mk, List.getD, hj]
theorem mem_mk {L : Nat} {f : Nat → Int} {x : Int} (h : x ∈ mk L f) : ∃ j, j < L ∧ f j = x := by
  simp only [mk, List.mem_map, List.mem_range] at h
  exact h
theorem ext {xs ys : List Int} (h : xs.length = ys.length) (he : ∀ i, i < xs.length → xs.getD i 0 = ys.getD i 0) : xs = ys := by
  apply List.ext_getElem?
  intro i
  by_cases hi : i < xs.length
  · have := he i hi
    rw [List.getD, List.getD, List.getElem?_eq_getElem hi, List.getElem?_eq_getElem (by omega)] at this
    rw [List.getElem?_eq_getElem hi, List.getElem?_eq_getElem (by omega)]
    exact congrArg some this
  · rw [List.getElem?_eq_none (by omega), List.getElem?_eq_none (by omega)]
/-- A memory of n lines. -/
structure Ok (B : List Int) (n : Nat) : Prop where
  len : B.length = 64 * n
  rng : ∀ j, 0 ≤ B.getD j 0 ∧ B.getD j 0 ≤ 255
theorem mk_ok {n : Nat} {f : Nat → Int} (h : ∀ j, 0 ≤ f j ∧ f j ≤ 255) : Ok (mk (64 * n) f) n :=
  ⟨mk_len _ _, fun j => by
    by_cases hj : j < 64 * n
    · rw [mk_get _ _ _ hj]; exact h j
    · rw [List.getD, List.getElem?_eq_none (by rw [mk_len]; omega)]; decide⟩
def row (B : List Int) (i : Nat) : List Int := mk 64 fun k => B.getD (64 * i + k) 0
theorem row_get (B : List Int) (i k : Nat) (hk : k < 64) : (row B i).getD k 0 = B.getD (64 * i + k) 0 := mk_get _ _ _ hk
theorem row_is {B : List Int} {n : Nat} (h : Ok B n) (i : Nat) : Ln.Is (row B i) :=
  ⟨mk_len _ _, fun x hx => by obtain ⟨j, -, rfl⟩ := mem_mk hx; exact h.rng _⟩
def setRow (B : List Int) (i : Nat) (l : List Int) : List Int := mk B.length fun j => if j / 64 = i then l.getD (j % 64) 0 else B.getD j 0
theorem setRow_ok {B : List Int} {n : Nat} (h : Ok B n) (i : Nat) {l : List Int} (hl : Ln.Is l) : Ok (setRow B i l) n := by
  unfold setRow
  rw [h.len]
  refine mk_ok fun j => ?_
  split
  · exact hl.byte _
  · exact h.rng _
theorem setRow_get {B : List Int} {n : Nat} (h : Ok B n) (i : Nat) (l : List Int) (j : Nat) (hj : j < 64 * n) : (setRow B i l).getD j 0 = if j / 64 = i then l.getD (j % 64) 0 else B.getD j 0 :=
  mk_get _ _ _ (by rw [h.len]; exact hj)
theorem row_set {B : List Int} {n : Nat} (h : Ok B n) (i : Nat) (hi : i < n) {l : List Int} (hl : Ln.Is l) : row (setRow B i l) i = l := by
  refine ext (by rw [hl.1]; exact mk_len _ _) fun k hk => ?_
  have hk' : k < 64 := by simpa [row, mk_len] using hk
  rw [row_get _ _ _ hk', setRow_get h _ _ _ (by omega), if_pos (by omega)]
  congr 1
  omega
theorem row_other {B : List Int} {n : Nat} (h : Ok B n) (i j : Nat) (hj : j < n) (hne : j ≠ i) (l : List Int) : row (setRow B i l) j = row B j := by
  refine ext (by rw [row, row, mk_len, mk_len]) fun k hk => ?_
  have hk' : k < 64 := by simpa [row, mk_len] using hk
  rw [row_get _ _ _ hk', row_get _ _ _ hk', setRow_get h _ _ _ (by omega), if_neg (by omega)]
theorem eq_rows {B C : List Int} {n : Nat} (h : Ok B n) (h' : Ok C n) (he : ∀ i, i < n → row B i = row C i) : B = C := by
  refine ext (by rw [h.len, h'.len]) fun j hj => ?_
  rw [h.len] at hj
  have e : (row B (j / 64)).getD (j % 64) 0 = (row C (j / 64)).getD (j % 64) 0 := by rw [he (j / 64) (by omega)]
  rw [row_get _ _ _ (by omega), row_get _ _ _ (by omega), show 64 * (j / 64) + j % 64 = j by omega] at e
  exact e
theorem setRow_self {B : List Int} {n : Nat} (h : Ok B n) (i : Nat) : setRow B i (row B i) = B := by
  refine ext (by rw [setRow, mk_len]) fun j hj => ?_
  have hj' : j < 64 * n := by rw [← h.len]; simpa [setRow, mk_len] using hj
  rw [setRow_get h _ _ _ hj']
  split
  · rw [row_get _ _ _ (by omega)]
    congr 1
    omega
  · rfl
def nought (n : Nat) : List Int := List.replicate (64 * n) 0
theorem nought_ok (n : Nat) : Ok (nought n) n := ⟨by simp [nought], fun j => by
  unfold nought
  rw [List.getD, List.getElem?_replicate]
  split <;> decide⟩
theorem nought_row (n i : Nat) : row (nought n) i = Ln.zeros := by
  refine ext (by rw [row, mk_len]; rfl) fun k hk => ?_
  have hk' : k < 64 := by simpa [row, mk_len] using hk
  rw [row_get _ _ _ hk']
  unfold nought Ln.zeros
  rw [List.getD, List.getD, List.getElem?_replicate, List.getElem?_replicate]
  split <;> simp

/-! ### how many rows aren't noughts -/
def full (B : List Int) (i : Nat) : Bool := row B i != Ln.zeros
def cnt (B : List Int) : Nat → Nat
  | 0 => 0
  | k + 1 => cnt B k + (full B k).toNat
theorem cnt_congr {B C : List Int} : ∀ k, (∀ i, i < k → row B i = row C i) → cnt B k = cnt C k
  | 0, _ => rfl
  | k + 1, h => by
    simp only [cnt, full]
    rw [cnt_congr k (fun i hi => h i (by omega)), h k (by omega)]
theorem cnt_set {B : List Int} {n : Nat} (h : Ok B n) (i : Nat) {l : List Int} (hl : Ln.Is l) : ∀ k, k ≤ n → i < k → cnt (setRow B i l) k + (full B i).toNat = cnt B k + (l != Ln.zeros).toNat
  | 0, _, hi => absurd hi (by omega)
  | k + 1, hk, hi => by
    simp only [cnt]
    by_cases e : i = k
    · subst e
      rw [cnt_congr (C := B) i (fun j hj => row_other h i j (by omega) (by omega) l)]
      have : full (setRow B i l) i = (l != Ln.zeros) := by unfold full; rw [row_set h i (by omega) hl]
      rw [this]
      omega
    · have ih := cnt_set h i hl k (by omega) (by omega)
      have : full (setRow B i l) k = full B k := by unfold full; rw [row_other h i k (by omega) (by omega) l]
      rw [this]
      omega
/-- If each row of one memory that isn't noughts is the other one's, it has no more of them; and if it has as many, the others are noughts too. -/
theorem cnt_le {B C : List Int} : ∀ k, (∀ i, i < k → full B i = true → row C i = row B i) → cnt B k ≤ cnt C k
  | 0, _ => Nat.le_refl _
  | k + 1, h => by
    have ih := cnt_le k (fun i hi => h i (by omega))
    simp only [cnt]
    cases hf : full B k
    · simp; omega
    · have : full C k = true := by
        unfold full at hf ⊢
        rw [h k (by omega) hf]
        exact hf
      rw [this]
      omega
theorem cnt_eq {B C : List Int} : ∀ k, (∀ i, i < k → full B i = true → row C i = row B i) → cnt B k = cnt C k → ∀ i, i < k → row C i = row B i
  | 0, _, _, i, hi => absurd hi (by omega)
  | k + 1, h, he, i, hi => by
    have hle := cnt_le k (fun i hi => h i (by omega))
    simp only [cnt] at he
    cases hf : full B k
    · have hc : full C k = false := by
        cases hcf : full C k
        · rfl
        · rw [hf, hcf] at he; simp at he; omega
      rw [hf, hc] at he
      by_cases e : i = k
      · subst e
        unfold full at hf hc
        have e1 : row B i = Ln.zeros := by simpa using hf
        have e2 : row C i = Ln.zeros := by simpa using hc
        rw [e1, e2]
      · exact cnt_eq k (fun i hi => h i (by omega)) (by simpa using he) i (by omega)
    · by_cases e : i = k
      · subst e; exact h i (by omega) hf
      · have hc : full C k = true := by
          unfold full at hf ⊢
          rw [h k (by omega) hf]
          exact hf
        rw [hf, hc] at he
        exact cnt_eq k (fun i hi => h i (by omega)) (by omega) i (by omega)

/-! ### numbers -/
def st (B : List Int) (a m : Nat) (v : Int) : List Int := mk B.length fun j => if a ≤ j ∧ j < a + m then Ln.byteOf v (j - a) else B.getD j 0
theorem st_ok {B : List Int} {n : Nat} (h : Ok B n) (a m : Nat) (v : Int) : Ok (st B a m v) n := by
  unfold st
  rw [h.len]
  refine mk_ok fun j => ?_
  split
  · exact Ln.byteOf_range _ _
  · exact h.rng _
theorem st_get {B : List Int} {n : Nat} (h : Ok B n) (a m : Nat) (v : Int) (j : Nat) (hj : j < 64 * n) : (st B a m v).getD j 0 = if a ≤ j ∧ j < a + m then Ln.byteOf v (j - a) else B.getD j 0 :=
  mk_get _ _ _ (by rw [h.len]; exact hj)
/-- A number laid within a line. -/
def putR (B : List Int) (i : Nat) (p m v : Int) : List Int := if Ln.fits p m then setRow B i (Ln.put (row B i) p m v) else B
theorem putR_ok {B : List Int} {n : Nat} (h : Ok B n) (i : Nat) (p m v : Int) : Ok (putR B i p m v) n := by
  unfold putR
  split
  · exact setRow_ok h i (Ln.put_is (row_is h i) _ _ _)
  · exact h
theorem putR_st {B : List Int} {n : Nat} (h : Ok B n) (i p m : Nat) (v : Int) (hpm : p + m ≤ 64) (hm : m ≤ 8) : putR B i p m v = st B (64 * i + p) m v := by
  refine ext (by rw [(putR_ok h i _ _ _).len, (st_ok h _ _ _).len]) fun j hj => ?_
  rw [(putR_ok h i _ _ _).len] at hj
  rw [st_get h _ _ _ _ hj]
  unfold putR
  by_cases h0 : m = 0
  · subst h0
    rw [if_neg (by unfold Ln.fits; simp), if_neg (by omega)]
  · have hf : Ln.fits (p : Int) (m : Int) = true := Ln.fits_iff.2 (by omega)
    rw [if_pos hf, setRow_get h _ _ _ hj]
    by_cases e : j / 64 = i
    · rw [if_pos e]
      unfold Ln.put
      rw [if_pos hf, Int.toNat_natCast, Int.toNat_natCast, Ln.putN_get (row_is h i) _ _ _ (by omega), row_get _ _ _ (by omega)]
      by_cases c : p ≤ j % 64 ∧ j % 64 < p + m
      · rw [if_pos c, if_pos (by omega)]
        congr 1
        omega
      · rw [if_neg c, if_neg (by omega)]
        congr 1
        omega
    · rw [if_neg e, if_neg (by omega)]
theorem byteOf_add (v : Int) (m k : Nat) : Ln.byteOf (v / 256 ^ m) k = Ln.byteOf v (m + k) := by
  unfold Ln.byteOf
  rw [Int.pow_add, Int.ediv_ediv_of_nonneg (Int.le_of_lt (Ln.pow_pos m))]
/-- A number that is laid in two parts. -/
theorem st_two {B : List Int} {n : Nat} (h : Ok B n) (a m k : Nat) (v : Int) : st (st B a m v) (a + m) k (v / 256 ^ m) = st B a (m + k) v := by
  refine ext (by rw [(st_ok (st_ok h _ _ _) _ _ _).len, (st_ok h _ _ _).len]) fun j hj => ?_
  rw [(st_ok (st_ok h _ _ _) _ _ _).len] at hj
  rw [st_get (st_ok h _ _ _) _ _ _ _ hj, st_get h _ _ _ _ hj, st_get h _ _ _ _ hj, byteOf_add]
  by_cases c : a + m ≤ j ∧ j < a + m + k
  · rw [if_pos c, if_pos (by omega)]
    congr 1
    omega
  · rw [if_neg c]
    by_cases c2 : a ≤ j ∧ j < a + m
    · rw [if_pos c2, if_pos (by omega)]
    · rw [if_neg c2, if_neg (by omega)]
theorem num_row {B : List Int} (i p : Nat) (m : Nat) (hpm : p + m ≤ 64) : Ln.num (row B i) p m = Ln.num B (64 * i + p) m :=
  Ln.num_congr m fun j hj => by
    rw [row_get _ _ _ (by omega)]
    congr 1
    omega
theorem num_add (B : List Int) (a m : Nat) : ∀ k, Ln.num B a (m + k) = Ln.num B a m + 256 ^ m * Ln.num B (a + m) k
  | 0 => by simp [Ln.num]
  | k + 1 => by
    show Ln.num B a (m + k) + 256 ^ (m + k) * B.getD (a + (m + k)) 0 = Ln.num B a m + 256 ^ m * (Ln.num B (a + m) k + 256 ^ k * B.getD (a + m + k) 0)
    rw [num_add B a m k, Int.mul_add, Int.pow_add, Int.mul_assoc, show a + (m + k) = a + m + k by omega]
    omega
theorem num_rng {B : List Int} {n : Nat} (h : Ok B n) (a : Nat) : ∀ k, 0 ≤ Ln.num B a k ∧ Ln.num B a k < 256 ^ k
  | 0 => by simp [Ln.num]
  | k + 1 => by
    have ih := num_rng h a k
    have b := h.rng (a + k)
    have p := Ln.pow_pos k
    simp only [Ln.num]
    rw [Ln.pow_succ]
    generalize B.getD (a + k) 0 = x at *
    generalize (256 : Int) ^ k = q at *
    have h1 : q * x ≤ q * 255 := Int.mul_le_mul_of_nonneg_left b.2 (by omega)
    have h0 : 0 ≤ q * x := Int.mul_nonneg (by omega) b.1
    omega
theorem num_st {B : List Int} {n : Nat} (h : Ok B n) (a m : Nat) (v : Int) (ham : a + m ≤ 64 * n) : Ln.num (st B a m v) a m = v % 256 ^ m :=
  Ln.num_bytes v m fun j hj => by rw [st_get h _ _ _ _ (by omega), if_pos (by omega), show a + j - a = j by omega]
end Go.Proofs.Ytdlollkieihjpaa.Rm
