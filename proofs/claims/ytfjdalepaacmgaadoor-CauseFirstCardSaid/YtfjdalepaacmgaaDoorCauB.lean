/-
  The table cause.causes in memory; contracts of cause.inWord, Word, of the functions that are handed to find.
-/
import Derived.Test.YtfjdalepaacmgaaDoorRow
import Derived.Test.YtfjdalepaacmgaaDoorBits
import Derived.Test.YtfjdalepaacmgaaDoorCauA
import Derived.Test.YtfjdalepaacmgaaDoorEqf
import Derived.ProofKit
import Derived.WalkLawsBesides
import Derived.Shelf.Abstract
import Derived.Deep.DeepCutAuto
namespace Go.Proofs.YtfjdalepaacmgaaDoor
open Go.ChangeShapes Go.WideShapes Go.ChangeAt Go.RowKit Wd Cau

def kB (l : List UInt8) : ByteArray := ⟨l.toArray⟩
abbrev CaT : TypeId := 23
abbrev NmT : TypeId := 89
theorem cell_some {W : World} {b o : Nat} {v : Value} (h : W.cell? ⟨b, o, none⟩ = some v) : b < W.heap.size := by
  apply Classical.byContradiction
  intro hn
  have : W.heap[b]? = none := Array.getElem?_eq_none (by omega)
  simp [World.cell?, this] at h
def kC (b : Bool) (n : Int) : Value := .agg #[.bool b, .int .i64 n]
def kAgg (r : RowK) : Value := .agg #[.bool r.1, .int .i64 (r.2.1 : Nat), .string (kB r.2.2)]
def kVal (r : Option RowK) : Value := .tuple #[kAgg (r.getD noK), .bool r.isSome]
abbrev I64 (n : Int) : Prop := -9223372036854775808 ≤ n ∧ n ≤ 9223372036854775807
theorem kwf {n : Int} (h : I64 n) : (Lit.int .i64 n).wf = true := WalkArith.wf_i64 ⟨h.1, by have := h.2; omega⟩
theorem eql_ca (b c : Bool) {n m : Int} (hn : I64 n) (hm : I64 m) (w : World) : (binOp .eql CaT (.agg #[.bool b, .int .i64 n]) (.agg #[.bool c, .int .i64 m])).run Tryd.prog w = .ok (.bool ((b == c) && (n == m))) w := by
  rw [Eqf.beql w 6 (by omega) CaT [none, some .i64] (by kernel_rfl) (by kernel_rfl) _ _ (by kernel_rfl) (by kernel_rfl) (by simp [Eqf.okL, Eqf.okV, kwf hn]) (by simp [Eqf.okL, Eqf.okV, kwf hm])]
  simp [Eqf.eqL, Eqf.eqv]
theorem guard_ca : Tryd.prog.eqGuardType Tryd.prog.depth CaT = false := by kernel_rfl
set_option maxHeartbeats 1000000 in
theorem kword1_c (n : Int) (w : World) : Calls Tryd.prog 49 #[.int .i64 n] w fun e w' => e = .returned (.bool (decide (0 ≤ n) && decide (n ≤ 63))) ∧ w = w' := by
  cases h0 : decide (0 ≤ n)
  · go_enter Tryd.func49, Tryd.ntmps49
    go_wp2_with fail
    go_ret
    exact ⟨rfl, rfl⟩
  · cases h1 : decide (n ≤ 63)
    all_goals
      go_enter Tryd.func49, Tryd.ntmps49
      go_wp2_with fail
      go_ret
      exact ⟨rfl, rfl⟩
set_option maxHeartbeats 1000000 in
theorem kknown1_c (r : RowK) (b : Bool) (n : Int) (hn : I64 n) (hr : I64 (r.2.1 : Nat)) (pb : Nat) (w : World) (hc : CsAt w pb CaT #[.bool b, .int .i64 n]) :
    Calls Tryd.prog 48 #[kAgg r, .pointer (some ⟨pb, 0, none⟩)] w fun e w' => e = .returned (.bool (isC b n r)) ∧ Below w.heap.size w w' := by
  obtain ⟨c, m, l⟩ := r
  dsimp only at hr
  have c0 := hc.cell 0
  have c1 := hc.cell 1
  have hlt := cell_some c0
  unfold kAgg isC
  dsimp only
  generalize ((m : Nat) : Int) = m' at *
  generalize kB l = s
  have hB : Below w.heap.size w (w.alloc (.cells #[.bool c, .int .i64 m', .string s] NmT)) := (Below.refl _ _).alloc (Nat.le_refl _) _
  have hc2 := (hB.cell (p := ⟨pb, 0, none⟩) hlt).trans c0
  have hc3 := (hB.cell (p := ⟨pb, 1, none⟩) hlt).trans c1
  have HB := Lib.hid hB
  have HE := Lib.hid (fun W => eql_ca c b hr hn W)
  clear hc hB
  go_enter Tryd.func48, Tryd.ntmps48
  go_wp2_with (refine wpList_cmp rfl .eql CaT _ _ _ rfl #[.bool c, .int .i64 m'] #[.bool b, .int .i64 n] rfl rfl guard_ca _ (HE.out _) ?_)
  go_ret
  exact ⟨rfl, HB.out⟩
set_option maxHeartbeats 1000000 in
theorem kname1_c (r : RowK) (b : Bool) (n : Int) (hn : I64 n) (hr : I64 (r.2.1 : Nat)) (pb : Nat) (w : World) (hc : CsAt w pb CaT #[.bool b, .int .i64 n]) :
    Calls Tryd.prog 46 #[kAgg r, .pointer (some ⟨pb, 0, none⟩)] w fun e w' => e = .returned (.bool (isC b n r)) ∧ Below w.heap.size w w' := by
  obtain ⟨c, m, l⟩ := r
  dsimp only at hr
  have c0 := hc.cell 0
  have c1 := hc.cell 1
  have hlt := cell_some c0
  unfold kAgg isC
  dsimp only
  generalize ((m : Nat) : Int) = m' at *
  generalize kB l = s
  have hB : Below w.heap.size w (w.alloc (.cells #[.bool c, .int .i64 m', .string s] NmT)) := (Below.refl _ _).alloc (Nat.le_refl _) _
  have hc2 := (hB.cell (p := ⟨pb, 0, none⟩) hlt).trans c0
  have hc3 := (hB.cell (p := ⟨pb, 1, none⟩) hlt).trans c1
  have HB := Lib.hid hB
  have HE := Lib.hid (fun W => eql_ca c b hr hn W)
  clear hc hB
  go_enter Tryd.func46, Tryd.ntmps46
  go_wp2_with (refine wpList_cmp rfl .eql CaT _ _ _ rfl #[.bool c, .int .i64 m'] #[.bool b, .int .i64 n] rfl rfl guard_ca _ (HE.out _) ?_)
  go_ret
  exact ⟨rfl, HB.out⟩
set_option maxHeartbeats 1000000 in
theorem kfind1_c (r : RowK) (s : ByteArray) (pb : Nat) (w : World) (hc : w.cell? ⟨pb, 0, none⟩ = some (.string s)) :
    Calls Tryd.prog 50 #[kAgg r, .pointer (some ⟨pb, 0, none⟩)] w fun e w' => e = .returned (.bool (isNamK s r)) ∧ Below w.heap.size w w' := by
  obtain ⟨c, m, l⟩ := r
  have hlt := cell_some hc
  have HE := Lib.hid (show isNamK s (c, m, l) = ((⟨l.toArray⟩ : ByteArray).toList == s.toList) by unfold isNamK; simp)
  unfold kAgg
  dsimp only
  generalize ((m : Nat) : Int) = m'
  generalize isNamK s (c, m, l) = q at *
  rw [show kB l = ⟨l.toArray⟩ from rfl]
  generalize (⟨l.toArray⟩ : ByteArray) = S at *
  have hB : Below w.heap.size w (w.alloc (.cells #[.bool c, .int .i64 m', .string S] NmT)) := (Below.refl _ _).alloc (Nat.le_refl _) _
  have hc2 := (hB.cell (p := ⟨pb, 0, none⟩) hlt).trans hc
  have HB := Lib.hid hB
  clear hc hB
  go_enter Tryd.func50, Tryd.ntmps50
  go_wp2_with fail
  go_ret
  exact ⟨by rw [HE.out]; rfl, HB.out⟩
theorem or63 {n : Int} (h : 0 ≤ n ∧ n ≤ 63) : bits .or .u64 n 9223372036854775808 = n + 9223372036854775808 := by
  obtain ⟨k, rfl⟩ := Int.eq_ofNat_of_zero_le h.1
  have hk : k < 64 := by omega
  exact (by decide +kernel : ∀ k : Fin 64, bits .or .u64 ((k.val : Nat) : Int) 9223372036854775808 = ((k.val : Nat) : Int) + 9223372036854775808) ⟨k, hk⟩
theorem wordK_code (b : Bool) (n : Int) : wordK b n = if decide (0 ≤ n) && decide (n ≤ 63) then (if b then bits .or .u64 n 9223372036854775808 else n) else (if b then bits .or .u64 0 9223372036854775808 else 0) := by
  unfold wordK
  by_cases h : 0 ≤ n ∧ n ≤ 63
  · have h2 : (decide (0 ≤ n) && decide (n ≤ 63)) = true := by simp [h]
    rw [h2, if_pos h, if_pos rfl]
    cases b
    · simp
    · simp [or63 h]
  · have h2 : (decide (0 ≤ n) && decide (n ≤ 63)) = false := by
      rw [Bool.and_eq_false_iff]
      simp only [decide_eq_false_iff_not]
      omega
    rw [h2, if_neg h]
    cases b
    · simp
    · simp [or63 (show (0 : Int) ≤ 0 ∧ (0 : Int) ≤ 63 by omega)]
set_option maxHeartbeats 2000000 in
theorem kword_c (b : Bool) (n : Int) (w : World) : Calls Tryd.prog 13 #[.agg #[.bool b, .int .i64 n]] w fun e w' => e = .returned (.int .u64 (wordK b n)) ∧ Below w.heap.size w w' := by
  have HC := Lib.hid (fun W => kword1_c n W)
  have HW := Lib.hid (wordK_code b n)
  have hB : Below w.heap.size w (w.alloc (.cells #[.bool b, .int .i64 n] CaT)) := (Below.refl _ _).alloc (Nat.le_refl _) _
  have HB := Lib.hid hB
  clear hB
  by_cases h : 0 ≤ n ∧ n ≤ 63
  · have h2 : (decide (0 ≤ n) && decide (n ≤ 63)) = true := by simp [h]
    rw [h2] at HC HW
    have hw : IntKind.u64.wrap n = n := by rw [IntKind.wrap_u64]; omega
    clear h h2
    generalize wordK b n = z at *
    cases b
    all_goals
      go_enter Tryd.func13, Tryd.ntmps13
      go_wp2_with fail
      refine (HC.out _).mono ?_
      rintro e w2 ⟨rfl, rfl⟩
      go_wp2_with fail
      go_ret
      exact ⟨by rw [HW.out]; rfl, HB.out⟩
  · have h2 : (decide (0 ≤ n) && decide (n ≤ 63)) = false := by
      rw [Bool.and_eq_false_iff]
      simp only [decide_eq_false_iff_not]
      omega
    rw [h2] at HC HW
    clear h h2
    generalize wordK b n = z at *
    cases b
    all_goals
      go_enter Tryd.func13, Tryd.ntmps13
      go_wp2_with fail
      refine (HC.out _).mono ?_
      rintro e w2 ⟨rfl, rfl⟩
      go_wp2_with fail
      go_ret
      exact ⟨by rw [HW.out]; rfl, HB.out⟩
end Go.Proofs.YtfjdalepaacmgaaDoor
