/-
  The contract of insn.Decode: the first op whose fixed bits a word has.
-/
import Derived.Test.YteknlcigfjdmdaaDoorInI
namespace Go.Proofs.YteknlcigfjdmdaaDoor
open Go.ChangeShapes Go.WideShapes Go.ChangeAt Go.RowKit Wd

def maskN (k : Nat) : Nat := (findRow (k : Nat)).2.2.1
def matchN (X k : Nat) : Bool := (X &&& maskN k) == valN k
def opsTo (m : Nat) : List Nat := (List.range m).map (· + 1)
theorem opsTo_succ (m : Nat) : opsTo (m + 1) = opsTo m ++ [m + 1] := by simp [opsTo, List.range_succ]
theorem opsTo_prefix (m : Nat) (hm : m < 98) : opsTo (m + 1) <+: opsTo 98 := by
  unfold opsTo
  have : List.range (m + 1) <+: List.range 98 := by
    rw [List.prefix_iff_eq_take, List.length_range, List.take_range, Nat.min_eq_left (by omega)]
  exact this.map _
theorem first_full {p : Nat → Bool} {m k : Nat} (hm : m < 98) (h : (opsTo (m + 1)).find? p = some k) : (opsTo 98).find? p = some k := by
  obtain ⟨t, ht⟩ := opsTo_prefix m hm
  rw [← ht, List.find?_append, h]; rfl
theorem first_none {p : Nat → Bool} {m : Nat} (h : (opsTo m).find? p = none) (hk : p (m + 1) = false) : (opsTo (m + 1)).find? p = none := by
  rw [opsTo_succ, List.find?_append, h]; simp [hk]
theorem first_hit {p : Nat → Bool} {m : Nat} (h : (opsTo m).find? p = none) (hk : p (m + 1) = true) : (opsTo (m + 1)).find? p = some (m + 1) := by
  rw [opsTo_succ, List.find?_append, h]; simp [hk]
def decN (X : Nat) : Option Nat := (opsTo 98).find? (matchN X)
theorem tabs_ok : ∀ k : Fin 99, 1 ≤ k.val → maskN k.val &&& 127 = 127 ∧ maskN k.val < 4294967296 ∧ valN k.val < 4294967296 := by decide +kernel
theorem opcode_skip (X k : Nat) (h1 : 1 ≤ k) (h2 : k ≤ 98) (h : (valN k ^^^ X) &&& 127 ≠ 0) : matchN X k = false := by
  cases hm : matchN X k
  · rfl
  · exfalso
    apply h
    have e : X &&& maskN k = valN k := by simpa [matchN] using hm
    have hk := (tabs_ok ⟨k, by omega⟩ h1).1
    simp only at hk
    apply Nat.eq_of_testBit_eq
    intro i
    rw [Nat.testBit_and, Nat.testBit_xor, Nat.zero_testBit, ← e, Nat.testBit_and]
    have hb : (maskN k &&& 127).testBit i = (127 : Nat).testBit i := by rw [hk]
    rw [Nat.testBit_and] at hb
    revert hb
    cases (127 : Nat).testBit i <;> cases (maskN k).testBit i <;> cases X.testBit i <;> simp
def zeroInsn : Value := .agg #[.int .i64 0, .int .i64 0, .int .i64 0, .int .i64 0, .int .i64 0, .int .i64 0, .bool false, .bool false]
def decV (X : Nat) : Value := match decN X with | some k => .tuple #[readV (fmtN (k : Nat)) (k : Nat) (X : Nat), .bool true] | none => .tuple #[zeroInsn, .bool false]
structure ResAt (w : World) (b : Nat) : Prop where
  c : w.cell? ⟨b, 0, none⟩ = some (.int .i64 0) ∧ w.cell? ⟨b, 1, none⟩ = some (.int .i64 0) ∧ w.cell? ⟨b, 2, none⟩ = some (.int .i64 0) ∧ w.cell? ⟨b, 3, none⟩ = some (.int .i64 0) ∧ w.cell? ⟨b, 4, none⟩ = some (.int .i64 0) ∧ w.cell? ⟨b, 5, none⟩ = some (.int .i64 0) ∧ w.cell? ⟨b, 6, none⟩ = some (.bool false) ∧ w.cell? ⟨b, 7, none⟩ = some (.bool false)
  d : w.frozen? ⟨b, 0, none⟩ = false ∧ w.frozen? ⟨b, 1, none⟩ = false ∧ w.frozen? ⟨b, 2, none⟩ = false ∧ w.frozen? ⟨b, 3, none⟩ = false ∧ w.frozen? ⟨b, 4, none⟩ = false ∧ w.frozen? ⟨b, 5, none⟩ = false ∧ w.frozen? ⟨b, 6, none⟩ = false ∧ w.frozen? ⟨b, 7, none⟩ = false
theorem resAt_new (w : World) (t : TypeId) : ResAt (w.alloc (.cells #[.int .i64 0, .int .i64 0, .int .i64 0, .int .i64 0, .int .i64 0, .int .i64 0, .bool false, .bool false] t)) w.heap.size := by
  constructor
  · refine ⟨?_, ?_, ?_, ?_, ?_, ?_, ?_, ?_⟩ <;> simp [go_sem]
  · refine ⟨?_, ?_, ?_, ?_, ?_, ?_, ?_, ?_⟩ <;> simp [go_sem]
theorem ResAt.on {w w' : World} {b : Nat} (h : ResAt w b) (hb : Below w.heap.size w w') : ResAt w' b := by
  obtain ⟨⟨c0, c1, c2, c3, c4, c5, c6, c7⟩, ⟨d0, d1, d2, d3, d4, d5, d6, d7⟩⟩ := h
  have hl := lt_cell c0
  exact ⟨⟨(hb.cell (p := ⟨b, 0, none⟩) hl).trans c0, (hb.cell (p := ⟨b, 1, none⟩) hl).trans c1, (hb.cell (p := ⟨b, 2, none⟩) hl).trans c2, (hb.cell (p := ⟨b, 3, none⟩) hl).trans c3, (hb.cell (p := ⟨b, 4, none⟩) hl).trans c4, (hb.cell (p := ⟨b, 5, none⟩) hl).trans c5, (hb.cell (p := ⟨b, 6, none⟩) hl).trans c6, (hb.cell (p := ⟨b, 7, none⟩) hl).trans c7⟩, ⟨(hb.frozen (p := ⟨b, 0, none⟩) hl).trans d0, (hb.frozen (p := ⟨b, 1, none⟩) hl).trans d1, (hb.frozen (p := ⟨b, 2, none⟩) hl).trans d2, (hb.frozen (p := ⟨b, 3, none⟩) hl).trans d3, (hb.frozen (p := ⟨b, 4, none⟩) hl).trans d4, (hb.frozen (p := ⟨b, 5, none⟩) hl).trans d5, (hb.frozen (p := ⟨b, 6, none⟩) hl).trans d6, (hb.frozen (p := ⟨b, 7, none⟩) hl).trans d7⟩⟩
theorem resAt_lt {w : World} {b : Nat} (h : ResAt w b) : b < w.heap.size := lt_cell h.c.1
set_option maxHeartbeats 4000000 in
set_option maxRecDepth 100000 in
theorem decode_c (X : Nat) (hX : X < 4294967296) (w : World) (hv : VarsAt w) : Calls Tryd.prog 6 #[.int .u32 (X : Nat)] w fun e w' => e = .returned (decV X) ∧ Below w.heap.size w w' := by
  generalize hr : decV X = r
  have HR := Lib.hid hr
  have hv2 := hv.size
  have HV := Lib.hid hv
  clear hr hv
  go_enter Tryd.func6, Tryd.ntmps6
  go_wp2_with fail
  have HR0 := Lib.hid (resAt_new w 25)
  have HB0 := Lib.hid (show Below w.heap.size w (w.alloc (.cells #[.int .i64 0, .int .i64 0, .int .i64 0, .int .i64 0, .int .i64 0, .int .i64 0, .bool false, .bool false] 25)) from (Below.refl _ _).alloc (Nat.le_refl _) _)
  have hz : (w.alloc (.cells #[.int .i64 0, .int .i64 0, .int .i64 0, .int .i64 0, .int .i64 0, .int .i64 0, .bool false, .bool false] 25)).heap.size = w.heap.size + 1 := by simp
  have HZ := Lib.hid hz
  clear hz
  generalize (w.alloc (.cells #[.int .i64 0, .int .i64 0, .int .i64 0, .int .i64 0, .int .i64 0, .int .i64 0, .bool false, .bool false] 25)) = W0 at *
  go_loopw [4] (fun i wr => ∃ k : Nat, k ≤ 98 ∧ i = .int .i64 ((k : Int) + 1) ∧ Below W0.heap.size W0 wr ∧ (opsTo k).find? (matchN X) = none) (fun i _ => 99 - (intOf i).toNat)
  case atStart => exact ⟨0, by omega, rfl, Below.refl _ _, rfl⟩
  case round =>
    obtain ⟨k, hk, rfl, hb, hf⟩ := hrel
    have HF := Lib.hid hf
    have HVr := Lib.hid (((HV.out.low HB0.out)).low hb)
    have HRr := Lib.hid (HR0.out.on hb)
    have HB := Lib.hid (HB0.out.trans (hb.mono (by have := HZ.out; omega)))
    have HBr := Lib.hid hb
    clear hf hb
    by_cases hlt : k < 98
    · have cv := HVr.out.vals (k + 1) (by omega)
      obtain ⟨t1, t2, t3⟩ := tabs_ok ⟨k + 1, by omega⟩ (by simp only; omega)
      simp only at t1 t2 t3
      have ex := u32_xor ((valN (k + 1) : Nat) : Int) (X : Int) (by omega) (by omega) (by omega) (by omega)
      rw [Int.toNat_natCast, Int.toNat_natCast] at ex
      have hxl : valN (k + 1) ^^^ X < 4294967296 := Nat.xor_lt_two_pow (n := 32) t3 hX
      have ea := u32_and ((valN (k + 1) ^^^ X : Nat) : Int) 127 (by omega) (by omega) (by omega) (by omega)
      rw [Int.toNat_natCast, show (127 : Int).toNat = 127 from rfl] at ea
      by_cases hs : (valN (k + 1) ^^^ X) &&& 127 = 0
      · have es : (bits .and .u32 (bits .xor .u32 ((valN (k + 1) : Nat) : Int) (X : Int)) 127 != 0) = false := by rw [ex, ea, hs]; rfl
        have em := u32_and (X : Int) ((maskN (k + 1) : Nat) : Int) (by omega) (by omega) (by omega) (by omega)
        rw [Int.toNat_natCast, Int.toNat_natCast] at em
        have hm : (bits .and .u32 (X : Int) (fixM ((k : Int) + 1)) == fixV ((k : Int) + 1)) = matchN X (k + 1) := by
          have e1 : fixM ((k : Int) + 1) = ((maskN (k + 1) : Nat) : Int) := by unfold fixM maskN; rw [show (((k + 1 : Nat)) : Int) = (k : Int) + 1 by omega]
          have e2 : fixV ((k : Int) + 1) = ((valN (k + 1) : Nat) : Int) := by unfold fixV valN; rw [show (((k + 1 : Nat)) : Int) = (k : Int) + 1 by omega]
          rw [e1, e2, em]
          unfold matchN
          rw [Bool.eq_iff_iff, beq_iff_eq, beq_iff_eq]
          omega
        clear ex ea em hxl hs t1 t2 t3
        generalize ((valN (k + 1) : Nat) : Int) = v at *
        go_wp2_with fail
        refine (fixed_c _ _ HVr.out).mono ?_
        rintro e w1 ⟨rfl, hb1⟩
        have HV1 := Lib.hid (HVr.out.low hb1)
        have HR1 := Lib.hid (HRr.out.on hb1)
        have HB1 := Lib.hid (HB.out.trans (hb1.mono HB.out.size))
        have HBr1 := Lib.hid (HBr.out.trans (hb1.mono HBr.out.size))
        clear hb1 cv es
        cases hmm : matchN X (k + 1)
        · rw [hmm] at hm
          have HN := Lib.hid (first_none HF.out hmm)
          clear hmm
          generalize fixM ((k : Int) + 1) = fm at *
          generalize fixV ((k : Int) + 1) = fv at *
          go_wp2_with fail
          go_roundw
          case rel => exact ⟨k + 1, by omega, by go_num, HBr1.out, HN.out⟩
          case measure => simp [intOf]; omega
        · rw [hmm] at hm
          have HN := Lib.hid (first_full hlt (first_hit HF.out hmm))
          clear hmm
          generalize fixM ((k : Int) + 1) = fm at *
          generalize fixV ((k : Int) + 1) = fv at *
          go_wp2_with fail
          refine (read_c _ _ _ HV1.out (by omega) (by omega)).mono ?_
          rintro e w2 ⟨rfl, hb2⟩
          have HR2 := Lib.hid (HR1.out.on hb2)
          have HB := Lib.hid (HB1.out.trans (hb2.mono HB1.out.size))
          clear hb2 hm
          obtain ⟨⟨c0, c1, c2, c3, c4, c5, c6, c7⟩, ⟨d0, d1, d2, d3, d4, d5, d6, d7⟩⟩ := HR2.out
          have HE := Lib.hid (show r = .tuple #[readV (fmtN ((k : Int) + 1)) ((k : Int) + 1) (X : Nat), .bool true] from by
            rw [← HR.out]; unfold decV decN; rw [HN.out]; simp only; rw [show (((k + 1 : Nat)) : Int) = (k : Int) + 1 by omega])
          unfold readV at *
          go_wp2_with fail
          refine bodyPost_ret (v := r) (by rw [HE.out]; simp [results, Tryd.results6, go_sem, c0, c1, c2, c3, c4, c5, c6, c7]) rfl ⟨rfl, ?_⟩
          exact ((((((((HB.out.setCell (by exact Nat.le_refl _) _).setCell (by exact Nat.le_refl _) _).setCell (by exact Nat.le_refl _) _).setCell (by exact Nat.le_refl _) _).setCell (by exact Nat.le_refl _) _).setCell (by exact Nat.le_refl _) _).setCell (by exact Nat.le_refl _) _).setCell (by exact Nat.le_refl _) _)
      · have es : (bits .and .u32 (bits .xor .u32 ((valN (k + 1) : Nat) : Int) (X : Int)) 127 != 0) = true := by
          rw [ex, ea]
          simpa using hs
        have HN := Lib.hid (first_none HF.out (opcode_skip X (k + 1) (by omega) (by omega) hs))
        clear ex ea hxl hs t1 t2 t3
        generalize ((valN (k + 1) : Nat) : Int) = v at *
        go_wp2_with fail
        go_roundw
        case rel => exact ⟨k + 1, by omega, by go_num, HBr.out, HN.out⟩
        case measure => simp [intOf]; omega
    · obtain rfl : k = 98 := by omega
      obtain ⟨⟨c0, c1, c2, c3, c4, c5, c6, c7⟩, ⟨d0, d1, d2, d3, d4, d5, d6, d7⟩⟩ := HRr.out
      have HE := Lib.hid (show r = .tuple #[zeroInsn, .bool false] from by rw [← HR.out]; unfold decV decN; rw [HF.out])
      go_wp2_with fail
      refine bodyPost_ret (v := r) (by rw [HE.out]; simp [results, Tryd.results6, go_sem, zeroInsn, c0, c1, c2, c3, c4, c5, c6, c7]) rfl ⟨rfl, ?_⟩
      exact ((((((((HB.out.setCell (by exact Nat.le_refl _) _).setCell (by exact Nat.le_refl _) _).setCell (by exact Nat.le_refl _) _).setCell (by exact Nat.le_refl _) _).setCell (by exact Nat.le_refl _) _).setCell (by exact Nat.le_refl _) _).setCell (by exact Nat.le_refl _) _).setCell (by exact Nat.le_refl _) _)
end Go.Proofs.YteknlcigfjdmdaaDoor
