/-
  The table cause.causes in memory; contracts of cause.inWord, Word, of the functions that are handed to find. Contracts of cause.find with the functions that are handed to it, of Known, Name, Find, Of. Contracts of cause.exception, Align, Fault, Page, Call, To, First.
-/
import Derived.Test.YtkbgmppbkllnmaaDoorUac
import Derived.Test.YtkbgmppbkllnmaaDoorUaa
import Derived.Test.YtkbgmppbkllnmaaDoorUan
import Derived.ProofKit
import Derived.WalkLawsBesides
import Derived.Shelf.Abstract
import Derived.Deep.DeepCutAuto
import Derived.Test.YtkbgmppbkllnmaaDoorUad
set_option maxRecDepth 20000
namespace Go.Proofs.YtkbgmppbkllnmaaDoor
open Go.ChangeShapes Go.WideShapes Go.ChangeAt Go.RowKit Wd Cau

def kB (l : List UInt8) : ByteArray := ⟨l.toArray⟩
abbrev CaT : TypeId := 24
theorem cell_some {W : World} {b o : Nat} {v : Value} (h : W.cell? ⟨b, o, none⟩ = some v) : b < W.heap.size := by
  apply Classical.byContradiction
  intro hn
  have : W.heap[b]? = none := Array.getElem?_eq_none (by omega)
  simp [World.cell?, this] at h
def kC (b : Bool) (n : Int) : Value := .agg #[.bool b, .int .i64 n]
def kAgg (r : RowK) : Value := .agg #[.bool r.1, .int .i64 (r.2.1 : Nat), .string (kB r.2.2)]
def kVal (r : Option RowK) : Value := .tuple #[kAgg (r.getD noK), .bool r.isSome]
abbrev I64 (n : Int) : Prop := -9223372036854775808 ≤ n ∧ n ≤ 9223372036854775807
theorem kwf {n : Int} (h : I64 n) : (Lit.int .i64 n).wf = true := WalkArith.wf_i64 ⟨h.1, by have := h.2; omega⟩
theorem eql_ca (b c : Bool) {n m : Int} (hn : I64 n) (hm : I64 m) (w : World) : (binOp .eql CaT (.agg #[.bool b, .int .i64 n]) (.agg #[.bool c, .int .i64 m])).run Tryd.prog w = .ok (.bool ((b == c) && (n == m))) w := by
  rw [Eqf.beql w 6 (by omega) CaT [none, some .i64] (by kernel_rfl) (by kernel_rfl) _ _ (by kernel_rfl) (by kernel_rfl) (by simp [Eqf.okL, Eqf.okV, kwf hn]) (by simp [Eqf.okL, Eqf.okV, kwf hm])]
  simp [Eqf.eqL, Eqf.eqv]
theorem guard_ca : Tryd.prog.eqGuardType Tryd.prog.depth CaT = false := by kernel_rfl
set_option maxHeartbeats 1000000 in
theorem kword1_c (n : Int) (w : World) : Calls Tryd.prog 49 #[.int .i64 n] w fun e w' => e = .returned (.bool (decide (0 ≤ n) && decide (n ≤ 63))) ∧ w = w' := by
  cases h0 : decide (0 ≤ n)
  · go_enter Tryd.func49, Tryd.ntmps49
    go_wp2_with fail
    go_ret
    exact ⟨rfl, rfl⟩
  · cases h1 : decide (n ≤ 63)
    all_goals
      go_enter Tryd.func49, Tryd.ntmps49
      go_wp2_with fail
      go_ret
      exact ⟨rfl, rfl⟩
theorem or63 {n : Int} (h : 0 ≤ n ∧ n ≤ 63) : bits .or .u64 n 9223372036854775808 = n + 9223372036854775808 := by
  obtain ⟨k, rfl⟩ := Int.eq_ofNat_of_zero_le h.1
  have hk : k < 64 := by omega
  exact (by decide +kernel : ∀ k : Fin 64, bits .or .u64 ((k.val : Nat) : Int) 9223372036854775808 = ((k.val : Nat) : Int) + 9223372036854775808) ⟨k, hk⟩
theorem wordK_code (b : Bool) (n : Int) : wordK b n = if decide (0 ≤ n) && decide (n ≤ 63) then (if b then bits .or .u64 n 9223372036854775808 else n) else (if b then bits .or .u64 0 9223372036854775808 else 0) := by
  unfold wordK
  by_cases h : 0 ≤ n ∧ n ≤ 63
  · have h2 : (decide (0 ≤ n) && decide (n ≤ 63)) = true := by simp [h]
    rw [h2, if_pos h, if_pos rfl]
    cases b
    · simp
    · simp [or63 h]
  · have h2 : (decide (0 ≤ n) && decide (n ≤ 63)) = false := by
      rw [Bool.and_eq_false_iff]
      simp only [decide_eq_false_iff_not]
      omega
    rw [h2, if_neg h]
    cases b
    · simp
    · simp [or63 (show (0 : Int) ≤ 0 ∧ (0 : Int) ≤ 63 by omega)]
set_option maxHeartbeats 2000000 in
theorem kword_c (b : Bool) (n : Int) (w : World) : Calls Tryd.prog 28 #[.agg #[.bool b, .int .i64 n]] w fun e w' => e = .returned (.int .u64 (wordK b n)) ∧ Below w.heap.size w w' := by
  have HC := Lib.hid (fun W => kword1_c n W)
  have HW := Lib.hid (wordK_code b n)
  have hB : Below w.heap.size w (w.alloc (.cells #[.bool b, .int .i64 n] CaT)) := (Below.refl _ _).alloc (Nat.le_refl _) _
  have HB := Lib.hid hB
  clear hB
  by_cases h : 0 ≤ n ∧ n ≤ 63
  · have h2 : (decide (0 ≤ n) && decide (n ≤ 63)) = true := by simp [h]
    rw [h2] at HC HW
    have hw : IntKind.u64.wrap n = n := by rw [IntKind.wrap_u64]; omega
    clear h h2
    generalize wordK b n = z at *
    cases b
    all_goals
      go_enter Tryd.func28, Tryd.ntmps28
      go_wp2_with fail
      refine (HC.out _).mono ?_
      rintro e w2 ⟨rfl, rfl⟩
      go_wp2_with fail
      go_ret
      exact ⟨by rw [HW.out]; rfl, HB.out⟩
  · have h2 : (decide (0 ≤ n) && decide (n ≤ 63)) = false := by
      rw [Bool.and_eq_false_iff]
      simp only [decide_eq_false_iff_not]
      omega
    rw [h2] at HC HW
    clear h h2
    generalize wordK b n = z at *
    cases b
    all_goals
      go_enter Tryd.func28, Tryd.ntmps28
      go_wp2_with fail
      refine (HC.out _).mono ?_
      rintro e w2 ⟨rfl, rfl⟩
      go_wp2_with fail
      go_ret
      exact ⟨by rw [HW.out]; rfl, HB.out⟩
end Go.Proofs.YtkbgmppbkllnmaaDoor
set_option maxRecDepth 20000
namespace Go.Proofs.YtkbgmppbkllnmaaDoor
open Go.ChangeShapes Go.WideShapes Go.ChangeAt Go.RowKit Wd Cau

/-- What stands while Of's function compares: the boxed row, the word. -/
structure KoS (w W : World) (pb : Nat) (c : Bool) (m : Int) (s : ByteArray) (x : Int) : Prop where
  c0 : W.cell? ⟨w.heap.size, 0, none⟩ = some (.bool c)
  c1 : W.cell? ⟨w.heap.size, 1, none⟩ = some (.int .i64 m)
  c2 : W.cell? ⟨w.heap.size, 2, none⟩ = some (.string s)
  p0 : W.cell? ⟨pb, 0, none⟩ = some (.int .u64 x)
  lt : w.heap.size < W.heap.size
  pl : pb < w.heap.size
  bel : Below w.heap.size w W
theorem KoS.low {w W W' : World} {pb : Nat} {c : Bool} {m : Int} {s : ByteArray} {x : Int} (h : KoS w W pb c m s x) (hb : Below W.heap.size W W') : KoS w W' pb c m s x :=
  ⟨(hb.cell (p := ⟨w.heap.size, 0, none⟩) h.lt).trans h.c0, (hb.cell (p := ⟨w.heap.size, 1, none⟩) h.lt).trans h.c1, (hb.cell (p := ⟨w.heap.size, 2, none⟩) h.lt).trans h.c2, (hb.cell (p := ⟨pb, 0, none⟩) (Nat.lt_trans h.pl h.lt)).trans h.p0, Nat.lt_of_lt_of_le h.lt hb.size, h.pl, h.bel.trans (hb.mono h.bel.size)⟩
theorem KoS.drew {w W : World} {pb : Nat} {c : Bool} {m : Int} {s : ByteArray} {x : Int} (h : KoS w W pb c m s x) : KoS w W.drew pb c m s x := ⟨h.c0, h.c1, h.c2, h.p0, h.lt, h.pl, h.bel.drew⟩
abbrev zNm : Array Value := #[.bool false, .int .i64 0, .string ⟨#[]⟩]
theorem kAgg_no : kAgg noK = .agg zNm := rfl
theorem kVal_parts (o : Option RowK) : ∃ (b : Bool) (n : Int) (s : ByteArray) (k : Bool), kVal o = .tuple #[.agg #[.bool b, .int .i64 n, .string s], .bool k] ∧ b = (o.getD noK).1 ∧ n = ((o.getD noK).2.1 : Nat) ∧ s = kB (o.getD noK).2.2 ∧ k = o.isSome := ⟨_, _, _, _, rfl, rfl, rfl, rfl, rfl⟩
theorem code_i64 (k : Nat) (hk : k < 20) : I64 ((rowK k).2.1 : Nat) := by
  have := (by decide +kernel : ∀ k : Fin 20, (rowK k.val).2.1 < 16) ⟨k, hk⟩
  simp only at this
  exact ⟨by omega, by omega⟩

/-- A cause and whether there is one. -/
def kCV (o : Option RowK) : Value := .tuple #[.agg #[.bool (o.getD noK).1, .int .i64 ((o.getD noK).2.1 : Nat)], .bool o.isSome]
abbrev zCa : Array Value := #[.bool false, .int .i64 0]

end Go.Proofs.YtkbgmppbkllnmaaDoor
set_option maxRecDepth 20000
namespace Go.Proofs.YtkbgmppbkllnmaaDoor
open Go.ChangeShapes Go.WideShapes Go.ChangeAt Go.RowKit Wd Cau

abbrev kE (n : Int) : Value := .agg #[.bool false, .int .i64 n]
def excK (a i l s : Int) : Int := if a = 0 then i else if a = 1 then l else s
def callK (p : Int) : Int := if p = 0 then 8 else if p = 1 then 9 else 11
set_option maxHeartbeats 1000000 in
theorem kcall_c (p : Int) (w : World) : Calls Tryd.prog 53 #[.int .i64 p] w fun e w' => e = .returned (kE (callK p)) ∧ Below w.heap.size w w' := by
  by_cases h0 : p = 0
  · subst h0
    have HX := Lib.hid (show callK 0 = 8 from if_pos rfl)
    go_enter Tryd.func53, Tryd.ntmps53
    go_upto_region 1 with (fail)
    have h1 := CsAt.new w CaT zCa
    have h3 : Below w.heap.size w (w.alloc (.cells zCa CaT)) := (Below.refl _ _).alloc (Nat.le_refl _) _
    generalize (w.alloc (.cells zCa CaT)) = w1 at *
    have H1 := Lib.hid h1
    have H3 := Lib.hid h3
    clear h1 h3
    have hR2 := H1.out
    have z0 := hR2.cell 0
    have z1 := hR2.cell 1
    have y0 := hR2.frozen 0
    have y1 := hR2.frozen 1
    clear hR2
    simp only [List.getElem?_toArray, List.getElem?_cons_zero, List.getElem?_cons_succ] at z0 z1
    go_wp2_with fail
    refine bodyPost_ret (v := kE 8) (by simp [results, Tryd.results53, go_sem, z0, z1]) rfl ⟨by rw [HX.out], ?_⟩
    exact ((H3.out.setCell (by exact Nat.le_refl _) _).setCell (by exact Nat.le_refl _) _)
  · have e0 : (p == 0) = false := by simpa using h0
    have HX := Lib.hid (show callK p = if p = 1 then 9 else 11 from if_neg h0)
    clear h0
    by_cases h1 : p = 1
    · subst h1
      rw [if_pos rfl] at HX
      go_enter Tryd.func53, Tryd.ntmps53
      go_upto_region 1 with (fail)
      have h1 := CsAt.new w CaT zCa
      have h3 : Below w.heap.size w (w.alloc (.cells zCa CaT)) := (Below.refl _ _).alloc (Nat.le_refl _) _
      generalize (w.alloc (.cells zCa CaT)) = w1 at *
      have H1 := Lib.hid h1
      have H3 := Lib.hid h3
      clear h1 h3
      have hR2 := H1.out
      have z0 := hR2.cell 0
      have z1 := hR2.cell 1
      have y0 := hR2.frozen 0
      have y1 := hR2.frozen 1
      clear hR2
      simp only [List.getElem?_toArray, List.getElem?_cons_zero, List.getElem?_cons_succ] at z0 z1
      go_wp2_with fail
      refine bodyPost_ret (v := kE 9) (by simp [results, Tryd.results53, go_sem, z0, z1]) rfl ⟨by rw [HX.out], ?_⟩
      exact ((H3.out.setCell (by exact Nat.le_refl _) _).setCell (by exact Nat.le_refl _) _)
    · have e1 : (p == 1) = false := by simpa using h1
      rw [if_neg h1] at HX
      clear h1
      go_enter Tryd.func53, Tryd.ntmps53
      go_upto_region 1 with (fail)
      have h1 := CsAt.new w CaT zCa
      have h3 : Below w.heap.size w (w.alloc (.cells zCa CaT)) := (Below.refl _ _).alloc (Nat.le_refl _) _
      generalize (w.alloc (.cells zCa CaT)) = w1 at *
      have H1 := Lib.hid h1
      have H3 := Lib.hid h3
      clear h1 h3
      have hR2 := H1.out
      have z0 := hR2.cell 0
      have z1 := hR2.cell 1
      have y0 := hR2.frozen 0
      have y1 := hR2.frozen 1
      clear hR2
      simp only [List.getElem?_toArray, List.getElem?_cons_zero, List.getElem?_cons_succ] at z0 z1
      go_wp2_with fail
      refine bodyPost_ret (v := kE 11) (by simp [results, Tryd.results53, go_sem, z0, z1]) rfl ⟨by rw [HX.out], ?_⟩
      exact ((H3.out.setCell (by exact Nat.le_refl _) _).setCell (by exact Nat.le_refl _) _)
theorem bitK {d : Int} (hd : 0 ≤ d ∧ d < 18446744073709551616) (k : Nat) : (bits .and .u64 (d / 2 ^ k) 1 == 1) = tb d k := by
  have hr := div_range hd.1 hd.2 k
  have h := and_low hr.1 hr.2 1 (by omega)
  rw [show (2 : Int) ^ 1 - 1 = 1 by decide, show (2 : Int) ^ 1 = 2 by decide] at h
  rw [h]
  have e : tb d k = tb (d / 2 ^ k) 0 := by rw [tb_div hd.1]; congr 1; omega
  rw [e]
  unfold tb
  rw [Nat.testBit_zero]
  rw [Bool.eq_iff_iff]
  simp only [beq_iff_eq, decide_eq_true_eq]
  omega
def toK (b : Bool) (n p d i : Int) : Int := if p ≠ 3 ∧ 0 ≤ n ∧ n ≤ 63 ∧ tb (if b then i else d) n.toNat = true then 1 else 3
set_option maxHeartbeats 2000000 in
theorem kto_c (b : Bool) (n p d i : Int) (w : World) (hd : 0 ≤ d ∧ d < 18446744073709551616) (hi : 0 ≤ i ∧ i < 18446744073709551616) :
    Calls Tryd.prog 23 #[.agg #[.bool b, .int .i64 n], .int .i64 p, .int .u64 d, .int .u64 i] w fun e w' => e = .returned (.int .i64 (toK b n p d i)) ∧ Below w.heap.size w w' := by
  have HC := Lib.hid (fun W => kword1_c n W)
  have hB : Below w.heap.size w (w.alloc (.cells #[.bool b, .int .i64 n] CaT)) := (Below.refl _ _).alloc (Nat.le_refl _) _
  have HB := Lib.hid hB
  clear hB
  by_cases hp : p = 3
  · subst hp
    have HV := Lib.hid (show toK b n 3 d i = 3 from if_neg (fun h => h.1 rfl))
    clear hd hi
    cases b
    all_goals
      go_enter Tryd.func23, Tryd.ntmps23
      go_wp2_with fail
      go_ret
      exact ⟨by rw [HV.out]; rfl, HB.out⟩
  · have ep : (p != 3) = true := by simpa using hp
    by_cases hn : 0 ≤ n ∧ n ≤ 63
    · have h2 : (decide (0 ≤ n) && decide (n ≤ 63)) = true := by simp [hn]
      rw [h2] at HC
      clear h2
      obtain ⟨k, rfl⟩ := Int.eq_ofNat_of_zero_le hn.1
      have hk : k < 64 := by omega
      have hv : toK b k p d i = if tb (if b then i else d) k = true then 1 else 3 := by
        unfold toK
        by_cases ht : tb (if b then i else d) k = true
        · rw [if_pos ht, if_pos ⟨hp, hn.1, hn.2, by simpa using ht⟩]
        · rw [if_neg ht, if_neg (fun h => ht (by simpa using h.2.2.2))]
      have hbd := bitK hd k
      have hbi := bitK hi k
      have HV := Lib.hid hv
      clear hv hp hd hi
      cases b
      all_goals
        simp only [Bool.false_eq_true, if_false, if_true] at HV
      · cases ht : tb d k
        all_goals
          rw [ht] at HV hbd
          clear ht
          go_enter Tryd.func23, Tryd.ntmps23
          go_wp2_with fail
          refine (HC.out _).mono ?_
          rintro e w2 ⟨rfl, rfl⟩
          go_wp2_with fail
          go_ret
          exact ⟨by rw [HV.out]; rfl, HB.out⟩
      · cases ht : tb i k
        all_goals
          rw [ht] at HV hbi
          clear ht
          go_enter Tryd.func23, Tryd.ntmps23
          go_wp2_with fail
          refine (HC.out _).mono ?_
          rintro e w2 ⟨rfl, rfl⟩
          go_wp2_with fail
          go_ret
          exact ⟨by rw [HV.out]; rfl, HB.out⟩
    · have h2 : (decide (0 ≤ n) && decide (n ≤ 63)) = false := by
        rw [Bool.and_eq_false_iff]
        simp only [decide_eq_false_iff_not]
        omega
      rw [h2] at HC
      have HV := Lib.hid (show toK b n p d i = 3 from if_neg (fun h => hn ⟨h.2.1, h.2.2.1⟩))
      clear h2 hn hp hd hi
      cases b
      all_goals
        go_enter Tryd.func23, Tryd.ntmps23
        go_wp2_with fail
        refine (HC.out _).mono ?_
        rintro e w2 ⟨rfl, rfl⟩
        go_wp2_with fail
        go_ret
        exact ⟨by rw [HV.out]; rfl, HB.out⟩
/-- The order of the interrupts in memory. -/
def OrderIn (w : World) : Prop := 0 < w.heap.size ∧ ∀ k, k < 6 → w.cell? ⟨0, k, none⟩ = some (.int .i64 (ordK.getD k 0 : Nat))
theorem OrderIn.low {w w' : World} (h : OrderIn w) (hb : Below w.heap.size w w') : OrderIn w' :=
  ⟨Nat.le_trans h.1 hb.size, fun k hk => (hb.cell (p := ⟨0, k, none⟩) h.1).trans (h.2 k hk)⟩
def fI (w : Int) : Value := .tuple #[.agg #[.bool (fstI w).isSome, .int .i64 ((fstI w).getD 0 : Nat)], .bool (fstI w).isSome]
set_option maxHeartbeats 4000000 in
theorem kfirst_c (x : Int) (hx : 0 ≤ x ∧ x < 18446744073709551616) (w : World) (hN : OrderIn w) : Calls Tryd.prog 45 #[.int .u64 x] w fun e w' => e = .returned (fI x) ∧ Below w.heap.size w w' := by
  have HX := Lib.hid hx
  have HN := Lib.hid hN
  clear hx hN
  go_enter Tryd.func45, Tryd.ntmps45
  go_wp2_with fail
  have h1 := CsAt.new w CaT zCa
  have h3 : Below w.heap.size w (w.alloc (.cells zCa CaT)) := (Below.refl _ _).alloc (Nat.le_refl _) _
  generalize (w.alloc (.cells zCa CaT)) = w1 at *
  have H1 := Lib.hid h1
  have H3 := Lib.hid h3
  clear h1 h3
  go_loopw [4, 5] (fun _ iv wr => ∃ k : Nat, k ≤ 6 ∧ iv = .int .i64 k ∧ (∀ j, j < k → tb x (ordK.getD j 0) = false) ∧ wr = w1) (fun _ iv _ => 6 - (intOf iv).toNat)
  case atStart => exact ⟨0, Nat.zero_le _, rfl, fun i h => by omega, rfl⟩
  case round =>
    obtain ⟨k, hk, rfl, hn, rfl⟩ := hrel
    have HN' := Lib.hid hn
    clear hn
    by_cases hlt : k < 6
    · have c0 := (HN.out.low H3.out).2 k hlt
      have hl2 : (k : Int) < 6 := by omega
      have hq : ordK.getD k 0 < 64 := (by decide : ∀ k : Fin 6, ordK.getD k.val 0 < 64) ⟨k, hlt⟩
      have hbt := bitK HX.out (ordK.getD k 0)
      have HH := Lib.hid (fun h => ifst_hit (w := x) hlt HN'.out h)
      cases ht : tb x (ordK.getD k 0)
      · rw [ht] at hbt
        have HT := Lib.hid ht
        clear ht HH
        generalize hqk : ordK.getD k 0 = q at *
        have HQ := Lib.hid hqk
        clear hqk
        go_wp2_with fail
        go_roundw
        case rel => exact ⟨k + 1, by omega, by go_num, fun i hi => if e : i = k then by rw [e, HQ.out]; exact HT.out else HN'.out i (by omega), trivial⟩
        case measure => simp [intOf]; omega
      · rw [ht] at hbt
        have HF := Lib.hid (HH.out ht)
        clear ht HH
        generalize ordK.getD k 0 = q at *
        have hR2 := H1.out
        have z0 := hR2.cell 0
        have z1 := hR2.cell 1
        have y0 := hR2.frozen 0
        have y1 := hR2.frozen 1
        clear hR2
        simp only [List.getElem?_toArray, List.getElem?_cons_zero, List.getElem?_cons_succ] at z0 z1
        go_wp2_with fail
        refine bodyPost_ret (v := .tuple #[.agg #[.bool true, .int .i64 q], .bool true]) (by simp [results, Tryd.results45, go_sem, z0, z1]) rfl ⟨by unfold fI; rw [HF.out]; rfl, ?_⟩
        exact ((H3.out.setCell (by exact Nat.le_refl _) _).setCell (by exact Nat.le_refl _) _)
    · obtain rfl : k = 6 := by omega
      have HF := Lib.hid (ifst_none HN'.out)
      have hR2 := H1.out
      have z0 := hR2.cell 0
      have z1 := hR2.cell 1
      have y0 := hR2.frozen 0
      have y1 := hR2.frozen 1
      clear hR2
      simp only [List.getElem?_toArray, List.getElem?_cons_zero, List.getElem?_cons_succ] at z0 z1
      go_wp2_with fail
      refine bodyPost_ret (v := .tuple #[.agg zCa, .bool false]) (by simp [results, Tryd.results45, go_sem, z0, z1]) rfl ⟨by unfold fI; rw [HF.out]; rfl, ?_⟩
      exact ((H3.out.setCell (by exact Nat.le_refl _) _).setCell (by exact Nat.le_refl _) _)
end Go.Proofs.YtkbgmppbkllnmaaDoor
