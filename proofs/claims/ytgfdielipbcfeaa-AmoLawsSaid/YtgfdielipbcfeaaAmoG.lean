/-
  Plain numbers, no program: in either order AMOs come to the same.
-/
import Derived.Test.YtgfdielipbcfeaaAmoP
namespace Go.Proofs.Ytgfdielipbcfeaa
open Go.ChangeShapes Go.WideShapes Go.ChangeAt Go.RowKit Wd

def WordB (x : Int) : Prop := 0 ≤ x ∧ x < 18446744073709551616
/-- Two in either order. -/
def Either (g : Int → Int → Int) : Prop := ∀ m x y, WordB m → WordB x → WordB y → g (g m x) y = g (g m y) x
/-- Twice is once. -/
def Once (g : Int → Int → Int) : Prop := ∀ m x, WordB m → WordB x → g (g m x) x = g m x
theorem amoG_word (j : Nat) {m x : Int} (hm : WordB m) (hx : WordB x) : WordB (amoG j m x) := by
  obtain ⟨hm0, hm⟩ := hm
  obtain ⟨hx0, hx⟩ := hx
  unfold WordB
  match j with
  | 0 => exact ⟨hx0, hx⟩
  | 1 => exact wrap_range _
  | 2 => exact xor_range hm0 hm hx0 hx
  | 3 => exact and_range hm0 hm hx0 hx
  | 4 => exact or_range hm0 hm hx0 hx
  | 5 => rw [amoG_5]; split <;> omega
  | 6 => rw [amoG_6]; split <;> omega
  | 7 => rw [amoG_7]; split <;> omega
  | j + 8 => show 0 ≤ (if m < x then x else m) ∧ (if m < x then x else m) < 18446744073709551616; split <;> omega
theorem xor_n {a b : Int} (ha : WordB a) (hb : WordB b) : (bits .xor .u64 a b).toNat = a.toNat ^^^ b.toNat := by rw [u64_xor a b ha.1 ha.2 hb.1 hb.2]; omega
theorem and_n {a b : Int} (ha : WordB a) (hb : WordB b) : (bits .and .u64 a b).toNat = a.toNat &&& b.toNat := by rw [u64_and a b ha.1 ha.2 hb.1 hb.2]; omega
theorem or_n {a b : Int} (ha : WordB a) (hb : WordB b) : (bits .or .u64 a b).toNat = a.toNat ||| b.toNat := by rw [u64_or a b ha.1 ha.2 hb.1 hb.2]; omega
theorem nat_eq {a b : Int} (ha : WordB a) (hb : WordB b) (h : a.toNat = b.toNat) : a = b := by
  unfold WordB at *
  omega
theorem either_1 : Either (amoG 1) := by
  intro m x y hm hx hy
  rw [amoG_1, amoG_1, amoG_1, amoG_1]
  simp only [IntKind.wrap_u64]
  omega
theorem either_2 : Either (amoG 2) := by
  intro m x y hm hx hy
  refine nat_eq (amoG_word 2 (amoG_word 2 hm hx) hy) (amoG_word 2 (amoG_word 2 hm hy) hx) ?_
  have a := xor_n (amoG_word 2 hm hx) hy
  have b := xor_n (amoG_word 2 hm hy) hx
  have c := xor_n hm hx
  have d := xor_n hm hy
  show (bits .xor .u64 (bits .xor .u64 m x) y).toNat = (bits .xor .u64 (bits .xor .u64 m y) x).toNat
  have a' : (bits .xor .u64 (bits .xor .u64 m x) y).toNat = (bits .xor .u64 m x).toNat ^^^ y.toNat := a
  have b' : (bits .xor .u64 (bits .xor .u64 m y) x).toNat = (bits .xor .u64 m y).toNat ^^^ x.toNat := b
  rw [a', b', c, d, Nat.xor_assoc, Nat.xor_assoc, Nat.xor_comm x.toNat]
theorem either_3 : Either (amoG 3) := by
  intro m x y hm hx hy
  refine nat_eq (amoG_word 3 (amoG_word 3 hm hx) hy) (amoG_word 3 (amoG_word 3 hm hy) hx) ?_
  have a' : (bits .and .u64 (bits .and .u64 m x) y).toNat = (bits .and .u64 m x).toNat &&& y.toNat := and_n (amoG_word 3 hm hx) hy
  have b' : (bits .and .u64 (bits .and .u64 m y) x).toNat = (bits .and .u64 m y).toNat &&& x.toNat := and_n (amoG_word 3 hm hy) hx
  show (bits .and .u64 (bits .and .u64 m x) y).toNat = (bits .and .u64 (bits .and .u64 m y) x).toNat
  rw [a', b', and_n hm hx, and_n hm hy, Nat.and_assoc, Nat.and_assoc, Nat.and_comm x.toNat]
theorem either_4 : Either (amoG 4) := by
  intro m x y hm hx hy
  refine nat_eq (amoG_word 4 (amoG_word 4 hm hx) hy) (amoG_word 4 (amoG_word 4 hm hy) hx) ?_
  have a' : (bits .or .u64 (bits .or .u64 m x) y).toNat = (bits .or .u64 m x).toNat ||| y.toNat := or_n (amoG_word 4 hm hx) hy
  have b' : (bits .or .u64 (bits .or .u64 m y) x).toNat = (bits .or .u64 m y).toNat ||| x.toNat := or_n (amoG_word 4 hm hy) hx
  show (bits .or .u64 (bits .or .u64 m x) y).toNat = (bits .or .u64 (bits .or .u64 m y) x).toNat
  rw [a', b', or_n hm hx, or_n hm hy, Nat.or_assoc, Nat.or_assoc, Nat.or_comm x.toNat]
theorem once_3 : Once (amoG 3) := by
  intro m x hm hx
  refine nat_eq (amoG_word 3 (amoG_word 3 hm hx) hx) (amoG_word 3 hm hx) ?_
  have a' : (bits .and .u64 (bits .and .u64 m x) x).toNat = (bits .and .u64 m x).toNat &&& x.toNat := and_n (amoG_word 3 hm hx) hx
  show (bits .and .u64 (bits .and .u64 m x) x).toNat = (bits .and .u64 m x).toNat
  rw [a', and_n hm hx, Nat.and_assoc, Nat.and_self]
theorem once_4 : Once (amoG 4) := by
  intro m x hm hx
  refine nat_eq (amoG_word 4 (amoG_word 4 hm hx) hx) (amoG_word 4 hm hx) ?_
  have a' : (bits .or .u64 (bits .or .u64 m x) x).toNat = (bits .or .u64 m x).toNat ||| x.toNat := or_n (amoG_word 4 hm hx) hx
  show (bits .or .u64 (bits .or .u64 m x) x).toNat = (bits .or .u64 m x).toNat
  rw [a', or_n hm hx, Nat.or_assoc, Nat.or_self]
theorem either_5 : Either (amoG 5) := by
  intro m x y hm hx hy
  unfold WordB at *
  simp only [amoG_5]
  unfold wrap64 at *
  (repeat' split) <;> omega
theorem once_5 : Once (amoG 5) := by
  intro m x hm hx
  unfold WordB at *
  simp only [amoG_5]
  unfold wrap64 at *
  (repeat' split) <;> omega
theorem kept_5_pre (m x : Int) : amoG 5 m x = m ∨ amoG 5 m x = x := by
  rw [amoG_5]
  split
  · exact .inr rfl
  · exact .inl rfl
theorem either_6 : Either (amoG 6) := by
  intro m x y hm hx hy
  unfold WordB at *
  simp only [amoG_6]
  unfold wrap64 at *
  (repeat' split) <;> omega
theorem once_6 : Once (amoG 6) := by
  intro m x hm hx
  unfold WordB at *
  simp only [amoG_6]
  unfold wrap64 at *
  (repeat' split) <;> omega
theorem kept_6_pre (m x : Int) : amoG 6 m x = m ∨ amoG 6 m x = x := by
  rw [amoG_6]
  split
  · exact .inr rfl
  · exact .inl rfl
theorem either_7 : Either (amoG 7) := by
  intro m x y hm hx hy
  unfold WordB at *
  simp only [amoG_7]
  (repeat' split) <;> omega
theorem once_7 : Once (amoG 7) := by
  intro m x hm hx
  unfold WordB at *
  simp only [amoG_7]
  (repeat' split) <;> omega
theorem kept_7_pre (m x : Int) : amoG 7 m x = m ∨ amoG 7 m x = x := by
  rw [amoG_7]
  split
  · exact .inr rfl
  · exact .inl rfl
theorem either_8 : Either (amoG 8) := by
  intro m x y hm hx hy
  unfold WordB at *
  simp only [amoG_8]
  (repeat' split) <;> omega
theorem once_8 : Once (amoG 8) := by
  intro m x hm hx
  unfold WordB at *
  simp only [amoG_8]
  (repeat' split) <;> omega
theorem kept_8_pre (m x : Int) : amoG 8 m x = m ∨ amoG 8 m x = x := by
  rw [amoG_8]
  split
  · exact .inr rfl
  · exact .inl rfl
/-- The form of 32 bits. -/
def narrow (g : Int → Int → Int) (m x : Int) : Int := g (signS m 32) (signS x 32) % 4294967296
def Kept (g : Int → Int → Int) : Prop := ∀ m x, WordB m → WordB x → signS m 32 = m → signS x 32 = x → signS (g m x) 32 = g m x
theorem sgn_word (x : Int) : WordB (signS x 32) := signS_range x 32
theorem sgn_self {x : Int} : signS (signS x 32) 32 = signS x 32 := keep_sign x 32
theorem sgn_narrow {g : Int → Int → Int} (hg : ∀ m x, WordB m → WordB x → WordB (g m x)) (hk : Kept g) (m x : Int) : signS (narrow g m x) 32 = g (signS m 32) (signS x 32) := by
  have hw := hg _ _ (sgn_word m) (sgn_word x)
  have e := hk _ _ (sgn_word m) (sgn_word x) sgn_self sgn_self
  unfold narrow
  rw [sgn_eq (y := g (signS m 32) (signS x 32)) (by have := hw.1; omega) hw.1 (by omega), e]
theorem either_w {g : Int → Int → Int} (hg : ∀ m x, WordB m → WordB x → WordB (g m x)) (hk : Kept g) (h : Either g) : Either (narrow g) := by
  intro m x y _ _ _
  have e1 := sgn_narrow hg hk m x
  have e2 := sgn_narrow hg hk m y
  have e3 := h _ _ _ (sgn_word m) (sgn_word x) (sgn_word y)
  unfold narrow at *
  rw [e1, e2, e3]
theorem once_w {g : Int → Int → Int} (hg : ∀ m x, WordB m → WordB x → WordB (g m x)) (hk : Kept g) (h : Once g) : Once (narrow g) := by
  intro m x _ _
  have e1 := sgn_narrow hg hk m x
  have e3 := h _ _ (sgn_word m) (sgn_word x)
  unfold narrow at *
  rw [e1, e3]
theorem narrow_word {g : Int → Int → Int} (m x : Int) : WordB (narrow g m x) := by
  unfold narrow WordB
  omega
theorem narrow_1 {m x : Int} (hm : 0 ≤ m) (hx : 0 ≤ x) : narrow (amoG 1) m x = (m + x) % 4294967296 := by
  have a := sgn_mod hm
  have b := sgn_mod hx
  unfold narrow
  rw [amoG_1, wrap_mod]
  omega
theorem either_w1 : Either (narrow (amoG 1)) := by
  intro m x y hm hx hy
  rw [narrow_1 (narrow_word m x).1 hy.1, narrow_1 (narrow_word m y).1 hx.1, narrow_1 hm.1 hx.1, narrow_1 hm.1 hy.1]
  omega
theorem tb_hi {x : Int} (h : signS x 32 = x) {i : Nat} (hi : i < 64) (h2 : ¬ i < 32) : tb x i = tb x 31 := by
  have := tb_sign32 x i hi
  rw [h, if_neg h2] at this
  exact this
theorem kept_bits {g : Int → Int → Int} (o : Bool → Bool → Bool) (hg : ∀ m x, WordB m → WordB x → WordB (g m x)) (ht : ∀ m x i, WordB m → WordB x → tb (g m x) i = o (tb m i) (tb x i)) : Kept g := by
  intro m x hm hx h1 h2
  have r := hg _ _ hm hx
  apply ext (signS_range _ 32).1 (signS_range _ 32).2 r.1 r.2
  intro i hi
  rw [tb_sign32 _ i hi]
  split
  · rfl
  · rename_i c
    rw [ht _ _ _ hm hx, ht _ _ _ hm hx, tb_hi h1 hi c, tb_hi h2 hi c]
theorem kept_5 : Kept (amoG 5) := by
  intro m x _ _ h1 h2
  rcases kept_5_pre m x with e | e
  · rw [e]; exact h1
  · rw [e]; exact h2
theorem kept_6 : Kept (amoG 6) := by
  intro m x _ _ h1 h2
  rcases kept_6_pre m x with e | e
  · rw [e]; exact h1
  · rw [e]; exact h2
theorem kept_7 : Kept (amoG 7) := by
  intro m x _ _ h1 h2
  rcases kept_7_pre m x with e | e
  · rw [e]; exact h1
  · rw [e]; exact h2
theorem kept_8 : Kept (amoG 8) := by
  intro m x _ _ h1 h2
  rcases kept_8_pre m x with e | e
  · rw [e]; exact h1
  · rw [e]; exact h2
theorem kept_2 : Kept (amoG 2) := kept_bits (fun a b => a ^^ b) (fun _ _ hm hx => amoG_word 2 hm hx) fun _ _ i hm hx => tb_xor hm.1 hm.2 hx.1 hx.2 i
theorem kept_3 : Kept (amoG 3) := kept_bits (fun a b => a && b) (fun _ _ hm hx => amoG_word 3 hm hx) fun _ _ i hm hx => tb_and hm.1 hm.2 hx.1 hx.2 i
theorem kept_4 : Kept (amoG 4) := kept_bits (fun a b => a || b) (fun _ _ hm hx => amoG_word 4 hm hx) fun _ _ i hm hx => tb_or hm.1 hm.2 hx.1 hx.2 i
end Go.Proofs.Ytgfdielipbcfeaa
