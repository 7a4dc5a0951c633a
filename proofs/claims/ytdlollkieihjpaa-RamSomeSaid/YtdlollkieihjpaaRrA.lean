/-
  The reference of layer 10: its memory in the program's memory; contracts of Has, Load, Store.
-/
import Derived.Test.YtdlollkieihjpaaRmF
import Derived.Deep.DeepCutAuto
namespace Go.Proofs.Ytdlollkieihjpaa
open Go.ChangeShapes Go.WideShapes Go.ChangeAt Go.RowKit Wd

namespace Rm
/-- Bytes laid from a place on. -/
def lay (B : List Int) (a m : Nat) (f : Nat → Int) : List Int := mk B.length fun j => if a ≤ j ∧ j < a + m then f (j - a) else B.getD j 0
theorem lay_ok {B : List Int} {n : Nat} (h : Ok B n) (a m : Nat) {f : Nat → Int} (hf : ∀ j, 0 ≤ f j ∧ f j ≤ 255) : Ok (lay B a m f) n := by
  unfold lay
  rw [h.len]
  refine mk_ok fun j => ?_
  split
  · exact hf _
  · exact h.rng _
theorem lay_get {B : List Int} {n : Nat} (h : Ok B n) (a m : Nat) (f : Nat → Int) (j : Nat) (hj : j < 64 * n) : (lay B a m f).getD j 0 = if a ≤ j ∧ j < a + m then f (j - a) else B.getD j 0 :=
  mk_get _ _ _ (by rw [h.len]; exact hj)
theorem lay_len (B : List Int) (a m : Nat) (f : Nat → Int) : (lay B a m f).length = B.length := mk_len _ _
theorem lay_zero (B : List Int) (a : Nat) (f : Nat → Int) : lay B a 0 f = B := by
  refine ext (lay_len _ _ _ _) fun j hj => ?_
  rw [lay_len] at hj
  unfold lay
  rw [mk_get _ _ _ hj, if_neg (by omega)]
theorem lay_step (B : List Int) (a m : Nat) (f : Nat → Int) (h : a + m < B.length) : (lay B a m f).set (a + m) (f m) = lay B a (m + 1) f := by
  refine ext (by rw [List.length_set, lay_len, lay_len]) fun j hj => ?_
  rw [List.length_set, lay_len] at hj
  rw [Ln.getD_set _ _ _ _ (by rw [lay_len]; exact h)]
  unfold lay
  rw [mk_get _ _ _ hj, mk_get _ _ _ hj]
  by_cases c : j = a + m
  · subst c
    rw [if_pos rfl, if_pos (by omega), show a + m - a = m by omega]
  · rw [if_neg c]
    by_cases d : a ≤ j ∧ j < a + m
    · rw [if_pos d, if_pos (by omega)]
    · rw [if_neg d, if_neg (by omega)]
theorem st_lay (B : List Int) (a m : Nat) (v : Int) : st B a m v = lay B a m (Ln.byteOf v) := rfl
theorem setRow_lay {B : List Int} {n : Nat} (h : Ok B n) (i : Nat) (l : List Int) : setRow B i l = lay B (64 * i) 64 (fun k => l.getD k 0) := by
  refine ext (by rw [lay_len]; exact mk_len _ _) fun j hj => ?_
  have hj' : j < 64 * n := by rw [← h.len]; simpa [setRow, mk_len] using hj
  rw [setRow_get h _ _ _ hj', lay_get h _ _ _ _ hj']
  by_cases c : j / 64 = i
  · rw [if_pos c, if_pos (by omega)]
    congr 1
    omega
  · rw [if_neg c, if_neg (by omega)]
theorem num_cons (B : List Int) (a m : Nat) : Ln.num B a (m + 1) = B.getD a 0 + 256 * Ln.num B (a + 1) m := by
  rw [show m + 1 = 1 + m by omega, num_add B a 1 m]
  simp [Ln.num]
end Rm
theorem CsAt.setc {w : World} {b : Nat} {t : TypeId} {cs : Array Value} (h : CsAt w b t cs) (i : Nat) (v : Value) : CsAt (w.setCell ⟨b, i, none⟩ v) b t (cs.setIfInBounds i v) := heap_setCell_same w b i _ t _ h
/-- The reference's memory: its bytes at block gb. -/
structure RefAt (w : World) (gb : Nat) (t : TypeId) (n : Nat) (B : List Int) : Prop where
  ok : Rm.Ok B n
  n1 : n ≤ 4096
  row : ∃ Z : List Value, CsAt w gb t (B.map (Value.int .u8) ++ Z).toArray
theorem RefAt.lt {w : World} {gb : Nat} {t : TypeId} {n : Nat} {B : List Int} (h : RefAt w gb t n B) : gb < w.heap.size := by obtain ⟨Z, hZ⟩ := h.row; exact hZ.lt
theorem RefAt.cell {w : World} {gb : Nat} {t : TypeId} {n : Nat} {B : List Int} (h : RefAt w gb t n B) (j : Nat) (hj : j < 64 * n) : w.cell? ⟨gb, j, none⟩ = some (.int .u8 (B.getD j 0)) := by
  obtain ⟨Z, hZ⟩ := h.row
  have hl := h.ok.len
  rw [hZ.cell j, List.getElem?_toArray, List.getElem?_append_left (by rw [List.length_map]; omega), List.getElem?_map, List.getD, List.getElem?_eq_getElem (by omega)]
  rfl
theorem RefAt.frozen {w : World} {gb : Nat} {t : TypeId} {n : Nat} {B : List Int} (h : RefAt w gb t n B) (j : Nat) : w.frozen? ⟨gb, j, none⟩ = false := by
  obtain ⟨Z, hZ⟩ := h.row
  exact hZ.frozen j
theorem RefAt.only {w w' : World} {gb b : Nat} {t : TypeId} {n : Nat} {B : List Int} (h : RefAt w gb t n B) (ho : Only b w w') (hne : gb ≠ b) : RefAt w' gb t n B := by
  obtain ⟨Z, hZ⟩ := h.row
  exact ⟨h.ok, h.n1, Z, hZ.only ho hne⟩
theorem RefAt.low {w w' : World} {gb : Nat} {t : TypeId} {n : Nat} {B : List Int} (h : RefAt w gb t n B) (hb : Below w.heap.size w w') : RefAt w' gb t n B := by
  obtain ⟨Z, hZ⟩ := h.row
  exact ⟨h.ok, h.n1, Z, hZ.low hb⟩
theorem RefAt.set {w : World} {gb : Nat} {t : TypeId} {n : Nat} {B : List Int} (h : RefAt w gb t n B) (j : Nat) (hj : j < 64 * n) {x : Int} {B' : List Int} (hB : B.set j x = B') (hok : Rm.Ok B' n) : RefAt (w.setCell ⟨gb, j, none⟩ (.int .u8 x)) gb t n B' := by
  obtain ⟨Z, hZ⟩ := h.row
  refine ⟨hok, h.n1, Z, ?_⟩
  have := CsAt.setc hZ j (.int .u8 x)
  rw [List.setIfInBounds_toArray, List.set_append_left _ _ (by rw [List.length_map, h.ok.len]; exact hj), ← List.map_set, hB] at this
  exact this
/-- An owned row holds the memory. -/
theorem RefAt.of_own {w : World} {base : Nat} {e : TypeId} {v : Value} {n : Nat} {B : List Int} {xs : List Value} (h : w.ownsRow base e 1 v (64 * n) xs) (hx : xs = B.map (Value.int .u8)) (hok : Rm.Ok B n) (h1 : 1 ≤ n) (h2 : n ≤ 4096) :
    ∃ g cap, v = .slice (some ⟨g, 0, none⟩) (64 * n) cap ∧ base ≤ g ∧ RefAt w g e n B := by
  rcases h.2 with ⟨-, h0⟩ | ⟨g, cap, cur, rfl, hbg, hg, hnc, hcm, hcs, ht⟩
  · omega
  · refine ⟨g, cap, rfl, hbg, hok, h2, cur.toList.drop (64 * n * 1), ?_⟩
    rw [← hx, ← ht, List.take_append_drop, Array.toArray_toList]
    exact hg
theorem Only.setCell {b : Nat} {u w : World} (h : Only b u w) (j : Nat) (v : Value) : Only b u (w.setCell ⟨b, j, none⟩ v) :=
  h.trans ⟨rfl, rfl, rfl, by simp, fun k hk hne => Below.heap_setCell _ _ _ _ hne⟩
/-- The reference's M. -/
def mV (gb n cap : Nat) : Value := .agg #[.slice (some ⟨gb, 0, none⟩) (64 * n) cap]
theorem rhas_c {w : World} (gb n cap : Nat) (hn : n ≤ 4096) (x m : Int) (hx : 0 ≤ x ∧ x < 18446744073709551616) (hm : -9223372036854775808 ≤ m ∧ m ≤ 9223372036854775807) :
    Calls Try.prog 32 #[mV gb n cap, .int .u64 x, .int .i64 m] w fun e w' => e = .returned (.bool (hasB n x m)) ∧ Below w.heap.size w w' := by
  have HB := Lib.hid ((Below.refl w.heap.size w).alloc (Nat.le_refl _) (.cells #[.slice (some ⟨gb, 0, none⟩) (64 * n) cap] 34))
  unfold mV
  by_cases h1 : m < 1
  · have HE := Lib.hid (show hasB n x m = false by unfold hasB; simp; omega)
    have g1 : decide (m < 1) = true := by simpa using h1
    go_enter Try.func32, Try.ntmps32
    go_wp2_with fail
    go_ret
    exact ⟨lret_b HE.out.symm, HB.out⟩
  · have g1 : decide (m < 1) = false := by simpa using h1
    by_cases h2 : x < 2147483648
    · have HE := Lib.hid (show hasB n x m = false by unfold hasB; simp; omega)
      have g2 : decide (x < 2147483648) = true := by simpa using h2
      go_enter Try.func32, Try.ntmps32
      go_wp2_with fail
      go_ret
      exact ⟨lret_b HE.out.symm, HB.out⟩
    · have g2 : decide (x < 2147483648) = false := by simpa using h2
      by_cases h3 : ((64 * n : Nat) : Int) ≤ x - 2147483648
      · have g3 : decide (((64 * n : Nat) : Int) ≤ x - 2147483648) = true := by simpa using h3
        have g4 : decide (64 * (n : Int) ≤ x - 2147483648) = true := by simp; omega
        have HE := Lib.hid (show hasB n x m = false by unfold hasB; simp; omega)
        go_enter Try.func32, Try.ntmps32
        go_wp2_with fail
        go_ret
        exact ⟨lret_b HE.out.symm, HB.out⟩
      · have g3 : decide (((64 * n : Nat) : Int) ≤ x - 2147483648) = false := by simpa using h3
        have g4 : decide (64 * (n : Int) ≤ x - 2147483648) = false := by simp; omega
        have HE := Lib.hid (show hasB n x m = decide (m ≤ 64 * (n : Int) - (x - 2147483648)) by unfold hasB; exact decide_eq_decide.2 (by omega))
        go_enter Try.func32, Try.ntmps32
        go_wp2_with fail
        go_ret
        exact ⟨lret_b HE.out.symm, HB.out⟩
end Go.Proofs.Ytdlollkieihjpaa
