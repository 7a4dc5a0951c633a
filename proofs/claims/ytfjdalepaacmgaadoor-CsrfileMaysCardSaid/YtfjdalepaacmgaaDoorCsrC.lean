/-
  Contracts of csr.numbered, Known, Name, Find, Mask, Least, ReadOnly, privilege, May.
-/
import Derived.Test.YtfjdalepaacmgaaDoorCsrB
set_option maxRecDepth 20000
namespace Go.Proofs.YtfjdalepaacmgaaDoor
open Go.ChangeShapes Go.WideShapes Go.ChangeAt Go.RowKit Wd Csr

set_option maxHeartbeats 2000000 in
theorem numbered_c (n : Int) (w : World) (hN : RowsIn w) : Calls Tryd.prog 108 #[.int .i64 n] w fun e w' => e = .returned (rVal (fstC (isNum n))) ∧ Below w.heap.size w w' := by
  have HN := Lib.hid hN
  clear hN
  go_enter Tryd.func108, Tryd.ntmps108
  go_upto_region 1 with (fail)
  have h1 : CsAt ((w.alloc (.cells #[.int .i64 n] 3)).alloc (.cells zRow CrT)) (w.heap.size + 1) CrT zRow := by
    have := CsAt.new (w.alloc (.cells #[.int .i64 n] 3)) CrT zRow
    simpa using this
  have h2 : ((w.alloc (.cells #[.int .i64 n] 3)).alloc (.cells zRow CrT)).cell? ⟨w.heap.size, 0, none⟩ = some (.int .i64 n) := by simp [go_sem, World.cell?_alloc_past]
  have h3 : Below w.heap.size w ((w.alloc (.cells #[.int .i64 n] 3)).alloc (.cells zRow CrT)) := ((Below.refl _ _).alloc (Nat.le_refl _) _).alloc (by simp) _
  have h4 : w.heap.size < ((w.alloc (.cells #[.int .i64 n] 3)).alloc (.cells zRow CrT)).heap.size := by simp; omega
  generalize ((w.alloc (.cells #[.int .i64 n] 3)).alloc (.cells zRow CrT)) = w1 at *
  have H1 := Lib.hid h1
  have H2 := Lib.hid h2
  have H3 := Lib.hid h3
  have HC := Lib.hid (cfind_c 110 #[.pointer (some ⟨w.heap.size, 0, none⟩)] (isNum n) w1 (HN.out.low h3) (fun k W _ hb => num1_c _ n _ W ((hb.cell (p := ⟨w.heap.size, 0, none⟩) h4).trans h2)) (Go.Proofs.enters_of Tryd.func110 (by kernel_rfl) rfl))
  clear h1 h2 h3 h4
  go_wp2_with fail
  refine HC.out.mono ?_
  rintro e w2 ⟨rfl, hb⟩
  have HV := Lib.hid (show ∃ (a : Int) (s : ByteArray) (m : Int) (o : Bool), rVal (fstC (isNum n)) = .tuple #[.agg #[.int .i64 a, .string s, .int .u64 m], .bool o] from ⟨_, _, _, _, rfl⟩)
  obtain ⟨a, s, m, o, hv⟩ := HV.out
  rw [hv]
  have hR2 := H1.out.low hb
  have HB := Lib.hid (H3.out.trans (hb.mono H3.out.size))
  have z0 := hR2.cell 0
  have z1 := hR2.cell 1
  have z2 := hR2.cell 2
  have y0 := hR2.frozen 0
  have y1 := hR2.frozen 1
  have y2 := hR2.frozen 2
  clear hb hR2
  have HVV := Lib.hid hv
  clear hv
  simp only [List.getElem?_toArray, List.getElem?_cons_zero, List.getElem?_cons_succ] at z0 z1 z2
  go_wp2_with fail
  refine bodyPost_ret (v := .tuple #[.agg #[.int .i64 a, .string s, .int .u64 m], .bool o]) (by simp [results, Tryd.results108, go_sem, z0, z1, z2]) rfl ⟨by rw [HVV.out], ?_⟩
  exact ((HB.out.setCell (by exact Nat.le_succ _) _).setCell (by exact Nat.le_succ _) _).setCell (by exact Nat.le_succ _) _
theorem rVal_num (n : Int) : rVal (fstC (isNum n)) = .tuple #[.agg #[.int .i64 ((ofN n).1 : Nat), .string (cB (ofN n).2.1), .int .u64 ((ofN n).2.2 : Nat)], .bool (known n)] := rfl
set_option maxHeartbeats 1000000 in
theorem known_c (n : Int) (w : World) (hN : RowsIn w) : Calls Tryd.prog 95 #[.int .i64 n] w fun e w' => e = .returned (.bool (known n)) ∧ Below w.heap.size w w' := by
  have HC := Lib.hid (numbered_c n w hN)
  clear hN
  go_enter Tryd.func95, Tryd.ntmps95
  go_wp2_with fail
  refine HC.out.mono ?_
  rintro e w1 ⟨rfl, hb⟩
  rw [rVal_num]
  have HB := Lib.hid hb
  clear hb
  generalize (((ofN n).1 : Nat) : Int) = a
  generalize (((ofN n).2.2 : Nat) : Int) = m
  generalize cB (ofN n).2.1 = s
  generalize hx : known n = o
  have HX := Lib.hid hx
  clear hx
  go_wp2_with fail
  go_ret
  exact ⟨by rw [HX.out]; rfl, HB.out.alloc HB.out.size _⟩
set_option maxHeartbeats 1000000 in
theorem cmask_c (n : Int) (w : World) (hN : RowsIn w) : Calls Tryd.prog 94 #[.int .i64 n] w fun e w' => e = .returned (.int .u64 (maskC n)) ∧ Below w.heap.size w w' := by
  have HC := Lib.hid (numbered_c n w hN)
  clear hN
  go_enter Tryd.func94, Tryd.ntmps94
  go_wp2_with fail
  refine HC.out.mono ?_
  rintro e w1 ⟨rfl, hb⟩
  rw [rVal_num]
  have HB := Lib.hid hb
  clear hb
  generalize (((ofN n).1 : Nat) : Int) = a
  generalize hx : (((ofN n).2.2 : Nat) : Int) = m
  have HX := Lib.hid hx
  clear hx
  generalize cB (ofN n).2.1 = s
  generalize known n = o
  go_wp2_with fail
  go_ret
  exact ⟨by rw [show maskC n = m from HX.out]; rfl, HB.out.alloc HB.out.size _⟩
def numC (s : ByteArray) : Int := ((((fstC (isNam s)).getD noRow).1 : Nat) : Int)
theorem numC_is (s : ByteArray) : (fstC (isNam s)).isSome = (numC s != 0) := by
  unfold numC
  rcases fst_cases (isNam s) with e | ⟨k, hk, e, -⟩
  · rw [e]; rfl
  · rw [e]
    have := row_pos ⟨k, hk⟩
    simp only at this
    exact (by simpa using this : _ = _).symm
/-! ### privileges -/
def leastC (n : Int) : Int := if known n then n / 256 % 4 else 3
def roC (n : Int) : Bool := known n && (n / 1024 % 4 == 3)
def isPrv (p : Int) : Bool := p == 0 || p == 1 || p == 3
def mayC (n p : Int) (wr : Bool) : Bool := known n && isPrv p && !decide (p < leastC n) && (!wr || !roC n)
theorem known_low {n : Int} (h : known n = true) : 256 ≤ n ∧ n ≤ 3860 := by
  obtain ⟨k, hk, rfl, -⟩ := of_known h
  have : ∀ k : Fin 34, 256 ≤ (rowC k.val).1 ∧ (rowC k.val).1 ≤ 3860 := by decide +kernel
  have := this ⟨k, hk⟩
  simp only at this
  omega
theorem and3 (n : Int) : bits .and .i64 n 3 = n % 4 := by
  have h3 : (BitVec.ofInt 64 3).toNat = 2 ^ 2 - 1 := by decide
  have key : (BitVec.ofInt 64 n &&& BitVec.ofInt 64 3).toNat = (n % ((2 ^ 64 : Nat) : Int)).toNat % 2 ^ 2 := by
    rw [BitVec.toNat_and, BitVec.toNat_ofInt, h3, Nat.and_two_pow_sub_one_eq_mod]
  show IntKind.i64.wrap ((BitVec.ofInt 64 n &&& BitVec.ofInt 64 3).toNat : Nat) = n % 4
  rw [key, IntKind.wrap_i64]
  omega
end Go.Proofs.YtfjdalepaacmgaaDoor
