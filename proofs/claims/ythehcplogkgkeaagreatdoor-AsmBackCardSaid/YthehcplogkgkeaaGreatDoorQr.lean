/-
  Contracts of asm.nameText and of asm.operands where a format has none (layer 6). The contract of asm.Text (layer 6).
-/
import Derived.Test.YthehcplogkgkeaaGreatDoorQq
import Derived.Test.YthehcplogkgkeaaGreatDoorQi
import Derived.Test.YthehcplogkgkeaaGreatDoorQl
import Derived.Shelf.Abstract
set_option maxRecDepth 4000
namespace Go.Proofs.YthehcplogkgkeaaGreatDoor
open Go.ChangeShapes Go.WideShapes Go.ChangeAt Go.RowKit Wd

/-- The program's table of orders in memory. -/
structure OrdersAt (w : World) : Prop where
  c0 : w.cell? ⟨0, 0, none⟩ = some (.string ⟨#[]⟩)
  c1 : w.cell? ⟨0, 1, none⟩ = some (.bool false)
  c2 : w.cell? ⟨0, 2, none⟩ = some (.bool false)
  c3 : w.cell? ⟨0, 3, none⟩ = some (.string ⟨#[46, 97, 113]⟩)
  c4 : w.cell? ⟨0, 4, none⟩ = some (.bool true)
  c5 : w.cell? ⟨0, 5, none⟩ = some (.bool false)
  c6 : w.cell? ⟨0, 6, none⟩ = some (.string ⟨#[46, 114, 108]⟩)
  c7 : w.cell? ⟨0, 7, none⟩ = some (.bool false)
  c8 : w.cell? ⟨0, 8, none⟩ = some (.bool true)
  c9 : w.cell? ⟨0, 9, none⟩ = some (.string ⟨#[46, 97, 113, 114, 108]⟩)
  c10 : w.cell? ⟨0, 10, none⟩ = some (.bool true)
  c11 : w.cell? ⟨0, 11, none⟩ = some (.bool true)
  size : 0 < w.heap.size
theorem OrdersAt.low {w w' : World} (h : OrdersAt w) (hb : Below w.heap.size w w') : OrdersAt w' :=
  ⟨(hb.cell (p := ⟨0, 0, none⟩) h.size).trans h.c0, (hb.cell (p := ⟨0, 1, none⟩) h.size).trans h.c1, (hb.cell (p := ⟨0, 2, none⟩) h.size).trans h.c2, (hb.cell (p := ⟨0, 3, none⟩) h.size).trans h.c3, (hb.cell (p := ⟨0, 4, none⟩) h.size).trans h.c4, (hb.cell (p := ⟨0, 5, none⟩) h.size).trans h.c5, (hb.cell (p := ⟨0, 6, none⟩) h.size).trans h.c6, (hb.cell (p := ⟨0, 7, none⟩) h.size).trans h.c7, (hb.cell (p := ⟨0, 8, none⟩) h.size).trans h.c8, (hb.cell (p := ⟨0, 9, none⟩) h.size).trans h.c9, (hb.cell (p := ⟨0, 10, none⟩) h.size).trans h.c10, (hb.cell (p := ⟨0, 11, none⟩) h.size).trans h.c11, Nat.lt_of_lt_of_le h.size hb.size⟩
theorem nameB_size (op : Int) : (nameB op).size < 20 := by
  have l : ∀ k : Fin 99, (bsOf (Tab.nmL k.val)).size < 20 := by decide +kernel
  unfold nameB
  split
  · exact l ⟨op.toNat, by omega⟩
  · decide
def ordB (aq rl : Bool) : ByteArray := if aq then if rl then ⟨#[46, 97, 113, 114, 108]⟩ else ⟨#[46, 97, 113]⟩ else if rl then ⟨#[46, 114, 108]⟩ else ⟨#[]⟩
theorem ord_ix0 (W : World) : (Instr.index 107 (.agg #[.string ⟨#[]⟩, .bool false, .bool false, .string ⟨#[46, 97, 113]⟩, .bool true, .bool false, .string ⟨#[46, 114, 108]⟩, .bool false, .bool true, .string ⟨#[46, 97, 113, 114, 108]⟩, .bool true, .bool true]) (.int .i64 0)).run Tryz.prog W = .ok (.agg #[.string ⟨#[]⟩, .bool false, .bool false]) W := by kernel_rfl
theorem ord_ix1 (W : World) : (Instr.index 107 (.agg #[.string ⟨#[]⟩, .bool false, .bool false, .string ⟨#[46, 97, 113]⟩, .bool true, .bool false, .string ⟨#[46, 114, 108]⟩, .bool false, .bool true, .string ⟨#[46, 97, 113, 114, 108]⟩, .bool true, .bool true]) (.int .i64 1)).run Tryz.prog W = .ok (.agg #[.string ⟨#[46, 97, 113]⟩, .bool true, .bool false]) W := by kernel_rfl
theorem ord_ix2 (W : World) : (Instr.index 107 (.agg #[.string ⟨#[]⟩, .bool false, .bool false, .string ⟨#[46, 97, 113]⟩, .bool true, .bool false, .string ⟨#[46, 114, 108]⟩, .bool false, .bool true, .string ⟨#[46, 97, 113, 114, 108]⟩, .bool true, .bool true]) (.int .i64 2)).run Tryz.prog W = .ok (.agg #[.string ⟨#[46, 114, 108]⟩, .bool false, .bool true]) W := by kernel_rfl
theorem ord_ix3 (W : World) : (Instr.index 107 (.agg #[.string ⟨#[]⟩, .bool false, .bool false, .string ⟨#[46, 97, 113]⟩, .bool true, .bool false, .string ⟨#[46, 114, 108]⟩, .bool false, .bool true, .string ⟨#[46, 97, 113, 114, 108]⟩, .bool true, .bool true]) (.int .i64 3)).run Tryz.prog W = .ok (.agg #[.string ⟨#[46, 97, 113, 114, 108]⟩, .bool true, .bool true]) W := by kernel_rfl
set_option maxHeartbeats 4000000 in
theorem nameText_0 (op rd rs1 rs2 imm csr : Int) (w : World) (ho : OrdersAt w) : Calls Tryz.prog 20 #[.agg #[.int .i64 op, .int .i64 rd, .int .i64 rs1, .int .i64 rs2, .int .i64 imm, .int .i64 csr, .bool false, .bool false]] w fun e w' => e = .returned (.string (nameB op ++ ordB false false)) ∧ Below w.heap.size w w' := by
  have HB0 := Lib.hid ((Below.refl w.heap.size w).alloc (Nat.le_refl _) (.cells #[.int .i64 op, .int .i64 rd, .int .i64 rs1, .int .i64 rs2, .int .i64 imm, .int .i64 csr, .bool false, .bool false] 24))
  have HO := Lib.hid (ho.low HB0.out)
  have HI := Lib.hid (insAt_new w 24 op rd rs1 rs2 imm csr false false)
  have i0 := HI.out.c.1
  clear ho
  go_enter Tryz.func20, Tryz.ntmps20
  go_wp2_with fail
  generalize (w.alloc (.cells #[.int .i64 op, .int .i64 rd, .int .i64 rs1, .int .i64 rs2, .int .i64 imm, .int .i64 csr, .bool false, .bool false] 24)) = W at *
  refine (name_c _ _).mono ?_
  rintro e w1 ⟨rfl, hb⟩
  have HB1 := Lib.hid (HB0.out.trans (hb.mono HB0.out.size))
  have HO1 := Lib.hid (HO.out.low hb)
  have HI1 := Lib.hid (HI.out.on hb)
  clear hb i0
  have o0 := HO1.out.c0
  have o1 := HO1.out.c1
  have o2 := HO1.out.c2
  have o3 := HO1.out.c3
  have o4 := HO1.out.c4
  have o5 := HO1.out.c5
  have o6 := HO1.out.c6
  have o7 := HO1.out.c7
  have o8 := HO1.out.c8
  have o9 := HO1.out.c9
  have o10 := HO1.out.c10
  have o11 := HO1.out.c11
  have hbz := nameB_size op
  generalize hbase : nameB op = base at *
  have HBS := Lib.hid hbase
  clear hbase
  go_wp2_with fail
  clear o0 o1 o2 o3 o4 o5 o6 o7 o8 o9 o10 o11
  go_loopw [3, 10] (fun nm i wr => ∃ k : Nat, k ≤ 4 ∧ i = .int .i64 k ∧ nm = .string (if 0 < k then base ++ ordB false false else base) ∧ Below w1.heap.size w1 wr) (fun _ i _ => 4 - (intOf i).toNat)
  case atStart => exact ⟨0, by decide, rfl, rfl, Below.refl _ _⟩
  case round =>
    obtain ⟨k, hk, rfl, rfl, hnx⟩ := hrel
    have HN := Lib.hid hnx
    have HIr := Lib.hid (HI1.out.on hnx)
    have y6 := HIr.out.c.2.2.2.2.2.2.1
    have y7 := HIr.out.c.2.2.2.2.2.2.2
    clear hnx
    have z60 := old_alloc wr (.cells #[.string ⟨#[]⟩, .bool false, .bool false] 106) y6
    have z70 := old_alloc wr (.cells #[.string ⟨#[]⟩, .bool false, .bool false] 106) y7
    have z61 := old_alloc wr (.cells #[.string ⟨#[46, 97, 113]⟩, .bool true, .bool false] 106) y6
    have z71 := old_alloc wr (.cells #[.string ⟨#[46, 97, 113]⟩, .bool true, .bool false] 106) y7
    have z62 := old_alloc wr (.cells #[.string ⟨#[46, 114, 108]⟩, .bool false, .bool true] 106) y6
    have z72 := old_alloc wr (.cells #[.string ⟨#[46, 114, 108]⟩, .bool false, .bool true] 106) y7
    have z63 := old_alloc wr (.cells #[.string ⟨#[46, 97, 113, 114, 108]⟩, .bool true, .bool true] 106) y6
    have z73 := old_alloc wr (.cells #[.string ⟨#[46, 97, 113, 114, 108]⟩, .bool true, .bool true] 106) y7
    have : k = 0 ∨ k = 1 ∨ k = 2 ∨ k = 3 ∨ k = 4 := by omega
    have x0 := ord_ix0
    have x1 := ord_ix1
    have x2 := ord_ix2
    have x3 := ord_ix3
    rcases this with rfl | rfl | rfl | rfl | rfl
    · go_wp2_with fail
      go_roundw
      case rel => exact ⟨1, by decide, rfl, by rw [if_pos (by decide)]; rfl, HN.out.alloc HN.out.size _⟩
      case measure => simp [intOf]
    · go_wp2_with fail
      go_roundw
      case rel => exact ⟨2, by decide, rfl, rfl, HN.out.alloc HN.out.size _⟩
      case measure => simp [intOf]
    · go_wp2_with fail
      go_roundw
      case rel => exact ⟨3, by decide, rfl, rfl, HN.out.alloc HN.out.size _⟩
      case measure => simp [intOf]
    · go_wp2_with fail
      go_roundw
      case rel => exact ⟨4, by decide, rfl, rfl, HN.out.alloc HN.out.size _⟩
      case measure => simp [intOf]
    · go_wp2_with fail
      go_ret
      exact ⟨by rw [HBS.out]; rfl, HB1.out.trans (HN.out.mono HB1.out.size)⟩
set_option maxHeartbeats 4000000 in
theorem nameText_1 (op rd rs1 rs2 imm csr : Int) (w : World) (ho : OrdersAt w) : Calls Tryz.prog 20 #[.agg #[.int .i64 op, .int .i64 rd, .int .i64 rs1, .int .i64 rs2, .int .i64 imm, .int .i64 csr, .bool true, .bool false]] w fun e w' => e = .returned (.string (nameB op ++ ordB true false)) ∧ Below w.heap.size w w' := by
  have HB0 := Lib.hid ((Below.refl w.heap.size w).alloc (Nat.le_refl _) (.cells #[.int .i64 op, .int .i64 rd, .int .i64 rs1, .int .i64 rs2, .int .i64 imm, .int .i64 csr, .bool true, .bool false] 24))
  have HO := Lib.hid (ho.low HB0.out)
  have HI := Lib.hid (insAt_new w 24 op rd rs1 rs2 imm csr true false)
  have i0 := HI.out.c.1
  clear ho
  go_enter Tryz.func20, Tryz.ntmps20
  go_wp2_with fail
  generalize (w.alloc (.cells #[.int .i64 op, .int .i64 rd, .int .i64 rs1, .int .i64 rs2, .int .i64 imm, .int .i64 csr, .bool true, .bool false] 24)) = W at *
  refine (name_c _ _).mono ?_
  rintro e w1 ⟨rfl, hb⟩
  have HB1 := Lib.hid (HB0.out.trans (hb.mono HB0.out.size))
  have HO1 := Lib.hid (HO.out.low hb)
  have HI1 := Lib.hid (HI.out.on hb)
  clear hb i0
  have o0 := HO1.out.c0
  have o1 := HO1.out.c1
  have o2 := HO1.out.c2
  have o3 := HO1.out.c3
  have o4 := HO1.out.c4
  have o5 := HO1.out.c5
  have o6 := HO1.out.c6
  have o7 := HO1.out.c7
  have o8 := HO1.out.c8
  have o9 := HO1.out.c9
  have o10 := HO1.out.c10
  have o11 := HO1.out.c11
  have hbz := nameB_size op
  generalize hbase : nameB op = base at *
  have HBS := Lib.hid hbase
  clear hbase
  go_wp2_with fail
  clear o0 o1 o2 o3 o4 o5 o6 o7 o8 o9 o10 o11
  go_loopw [3, 10] (fun nm i wr => ∃ k : Nat, k ≤ 4 ∧ i = .int .i64 k ∧ nm = .string (if 1 < k then base ++ ordB true false else base) ∧ Below w1.heap.size w1 wr) (fun _ i _ => 4 - (intOf i).toNat)
  case atStart => exact ⟨0, by decide, rfl, rfl, Below.refl _ _⟩
  case round =>
    obtain ⟨k, hk, rfl, rfl, hnx⟩ := hrel
    have HN := Lib.hid hnx
    have HIr := Lib.hid (HI1.out.on hnx)
    have y6 := HIr.out.c.2.2.2.2.2.2.1
    have y7 := HIr.out.c.2.2.2.2.2.2.2
    clear hnx
    have z60 := old_alloc wr (.cells #[.string ⟨#[]⟩, .bool false, .bool false] 106) y6
    have z70 := old_alloc wr (.cells #[.string ⟨#[]⟩, .bool false, .bool false] 106) y7
    have z61 := old_alloc wr (.cells #[.string ⟨#[46, 97, 113]⟩, .bool true, .bool false] 106) y6
    have z71 := old_alloc wr (.cells #[.string ⟨#[46, 97, 113]⟩, .bool true, .bool false] 106) y7
    have z62 := old_alloc wr (.cells #[.string ⟨#[46, 114, 108]⟩, .bool false, .bool true] 106) y6
    have z72 := old_alloc wr (.cells #[.string ⟨#[46, 114, 108]⟩, .bool false, .bool true] 106) y7
    have z63 := old_alloc wr (.cells #[.string ⟨#[46, 97, 113, 114, 108]⟩, .bool true, .bool true] 106) y6
    have z73 := old_alloc wr (.cells #[.string ⟨#[46, 97, 113, 114, 108]⟩, .bool true, .bool true] 106) y7
    have : k = 0 ∨ k = 1 ∨ k = 2 ∨ k = 3 ∨ k = 4 := by omega
    have x0 := ord_ix0
    have x1 := ord_ix1
    have x2 := ord_ix2
    have x3 := ord_ix3
    rcases this with rfl | rfl | rfl | rfl | rfl
    · go_wp2_with fail
      go_roundw
      case rel => exact ⟨1, by decide, rfl, rfl, HN.out.alloc HN.out.size _⟩
      case measure => simp [intOf]
    · go_wp2_with fail
      go_roundw
      case rel => exact ⟨2, by decide, rfl, by rw [if_pos (by decide)]; rfl, HN.out.alloc HN.out.size _⟩
      case measure => simp [intOf]
    · go_wp2_with fail
      go_roundw
      case rel => exact ⟨3, by decide, rfl, rfl, HN.out.alloc HN.out.size _⟩
      case measure => simp [intOf]
    · go_wp2_with fail
      go_roundw
      case rel => exact ⟨4, by decide, rfl, rfl, HN.out.alloc HN.out.size _⟩
      case measure => simp [intOf]
    · go_wp2_with fail
      go_ret
      exact ⟨by rw [HBS.out]; rfl, HB1.out.trans (HN.out.mono HB1.out.size)⟩
set_option maxHeartbeats 4000000 in
theorem nameText_2 (op rd rs1 rs2 imm csr : Int) (w : World) (ho : OrdersAt w) : Calls Tryz.prog 20 #[.agg #[.int .i64 op, .int .i64 rd, .int .i64 rs1, .int .i64 rs2, .int .i64 imm, .int .i64 csr, .bool false, .bool true]] w fun e w' => e = .returned (.string (nameB op ++ ordB false true)) ∧ Below w.heap.size w w' := by
  have HB0 := Lib.hid ((Below.refl w.heap.size w).alloc (Nat.le_refl _) (.cells #[.int .i64 op, .int .i64 rd, .int .i64 rs1, .int .i64 rs2, .int .i64 imm, .int .i64 csr, .bool false, .bool true] 24))
  have HO := Lib.hid (ho.low HB0.out)
  have HI := Lib.hid (insAt_new w 24 op rd rs1 rs2 imm csr false true)
  have i0 := HI.out.c.1
  clear ho
  go_enter Tryz.func20, Tryz.ntmps20
  go_wp2_with fail
  generalize (w.alloc (.cells #[.int .i64 op, .int .i64 rd, .int .i64 rs1, .int .i64 rs2, .int .i64 imm, .int .i64 csr, .bool false, .bool true] 24)) = W at *
  refine (name_c _ _).mono ?_
  rintro e w1 ⟨rfl, hb⟩
  have HB1 := Lib.hid (HB0.out.trans (hb.mono HB0.out.size))
  have HO1 := Lib.hid (HO.out.low hb)
  have HI1 := Lib.hid (HI.out.on hb)
  clear hb i0
  have o0 := HO1.out.c0
  have o1 := HO1.out.c1
  have o2 := HO1.out.c2
  have o3 := HO1.out.c3
  have o4 := HO1.out.c4
  have o5 := HO1.out.c5
  have o6 := HO1.out.c6
  have o7 := HO1.out.c7
  have o8 := HO1.out.c8
  have o9 := HO1.out.c9
  have o10 := HO1.out.c10
  have o11 := HO1.out.c11
  have hbz := nameB_size op
  generalize hbase : nameB op = base at *
  have HBS := Lib.hid hbase
  clear hbase
  go_wp2_with fail
  clear o0 o1 o2 o3 o4 o5 o6 o7 o8 o9 o10 o11
  go_loopw [3, 10] (fun nm i wr => ∃ k : Nat, k ≤ 4 ∧ i = .int .i64 k ∧ nm = .string (if 2 < k then base ++ ordB false true else base) ∧ Below w1.heap.size w1 wr) (fun _ i _ => 4 - (intOf i).toNat)
  case atStart => exact ⟨0, by decide, rfl, rfl, Below.refl _ _⟩
  case round =>
    obtain ⟨k, hk, rfl, rfl, hnx⟩ := hrel
    have HN := Lib.hid hnx
    have HIr := Lib.hid (HI1.out.on hnx)
    have y6 := HIr.out.c.2.2.2.2.2.2.1
    have y7 := HIr.out.c.2.2.2.2.2.2.2
    clear hnx
    have z60 := old_alloc wr (.cells #[.string ⟨#[]⟩, .bool false, .bool false] 106) y6
    have z70 := old_alloc wr (.cells #[.string ⟨#[]⟩, .bool false, .bool false] 106) y7
    have z61 := old_alloc wr (.cells #[.string ⟨#[46, 97, 113]⟩, .bool true, .bool false] 106) y6
    have z71 := old_alloc wr (.cells #[.string ⟨#[46, 97, 113]⟩, .bool true, .bool false] 106) y7
    have z62 := old_alloc wr (.cells #[.string ⟨#[46, 114, 108]⟩, .bool false, .bool true] 106) y6
    have z72 := old_alloc wr (.cells #[.string ⟨#[46, 114, 108]⟩, .bool false, .bool true] 106) y7
    have z63 := old_alloc wr (.cells #[.string ⟨#[46, 97, 113, 114, 108]⟩, .bool true, .bool true] 106) y6
    have z73 := old_alloc wr (.cells #[.string ⟨#[46, 97, 113, 114, 108]⟩, .bool true, .bool true] 106) y7
    have : k = 0 ∨ k = 1 ∨ k = 2 ∨ k = 3 ∨ k = 4 := by omega
    have x0 := ord_ix0
    have x1 := ord_ix1
    have x2 := ord_ix2
    have x3 := ord_ix3
    rcases this with rfl | rfl | rfl | rfl | rfl
    · go_wp2_with fail
      go_roundw
      case rel => exact ⟨1, by decide, rfl, rfl, HN.out.alloc HN.out.size _⟩
      case measure => simp [intOf]
    · go_wp2_with fail
      go_roundw
      case rel => exact ⟨2, by decide, rfl, rfl, HN.out.alloc HN.out.size _⟩
      case measure => simp [intOf]
    · go_wp2_with fail
      go_roundw
      case rel => exact ⟨3, by decide, rfl, by rw [if_pos (by decide)]; rfl, HN.out.alloc HN.out.size _⟩
      case measure => simp [intOf]
    · go_wp2_with fail
      go_roundw
      case rel => exact ⟨4, by decide, rfl, rfl, HN.out.alloc HN.out.size _⟩
      case measure => simp [intOf]
    · go_wp2_with fail
      go_ret
      exact ⟨by rw [HBS.out]; rfl, HB1.out.trans (HN.out.mono HB1.out.size)⟩
set_option maxHeartbeats 4000000 in
theorem nameText_3 (op rd rs1 rs2 imm csr : Int) (w : World) (ho : OrdersAt w) : Calls Tryz.prog 20 #[.agg #[.int .i64 op, .int .i64 rd, .int .i64 rs1, .int .i64 rs2, .int .i64 imm, .int .i64 csr, .bool true, .bool true]] w fun e w' => e = .returned (.string (nameB op ++ ordB true true)) ∧ Below w.heap.size w w' := by
  have HB0 := Lib.hid ((Below.refl w.heap.size w).alloc (Nat.le_refl _) (.cells #[.int .i64 op, .int .i64 rd, .int .i64 rs1, .int .i64 rs2, .int .i64 imm, .int .i64 csr, .bool true, .bool true] 24))
  have HO := Lib.hid (ho.low HB0.out)
  have HI := Lib.hid (insAt_new w 24 op rd rs1 rs2 imm csr true true)
  have i0 := HI.out.c.1
  clear ho
  go_enter Tryz.func20, Tryz.ntmps20
  go_wp2_with fail
  generalize (w.alloc (.cells #[.int .i64 op, .int .i64 rd, .int .i64 rs1, .int .i64 rs2, .int .i64 imm, .int .i64 csr, .bool true, .bool true] 24)) = W at *
  refine (name_c _ _).mono ?_
  rintro e w1 ⟨rfl, hb⟩
  have HB1 := Lib.hid (HB0.out.trans (hb.mono HB0.out.size))
  have HO1 := Lib.hid (HO.out.low hb)
  have HI1 := Lib.hid (HI.out.on hb)
  clear hb i0
  have o0 := HO1.out.c0
  have o1 := HO1.out.c1
  have o2 := HO1.out.c2
  have o3 := HO1.out.c3
  have o4 := HO1.out.c4
  have o5 := HO1.out.c5
  have o6 := HO1.out.c6
  have o7 := HO1.out.c7
  have o8 := HO1.out.c8
  have o9 := HO1.out.c9
  have o10 := HO1.out.c10
  have o11 := HO1.out.c11
  have hbz := nameB_size op
  generalize hbase : nameB op = base at *
  have HBS := Lib.hid hbase
  clear hbase
  go_wp2_with fail
  clear o0 o1 o2 o3 o4 o5 o6 o7 o8 o9 o10 o11
  go_loopw [3, 10] (fun nm i wr => ∃ k : Nat, k ≤ 4 ∧ i = .int .i64 k ∧ nm = .string (if 3 < k then base ++ ordB true true else base) ∧ Below w1.heap.size w1 wr) (fun _ i _ => 4 - (intOf i).toNat)
  case atStart => exact ⟨0, by decide, rfl, rfl, Below.refl _ _⟩
  case round =>
    obtain ⟨k, hk, rfl, rfl, hnx⟩ := hrel
    have HN := Lib.hid hnx
    have HIr := Lib.hid (HI1.out.on hnx)
    have y6 := HIr.out.c.2.2.2.2.2.2.1
    have y7 := HIr.out.c.2.2.2.2.2.2.2
    clear hnx
    have z60 := old_alloc wr (.cells #[.string ⟨#[]⟩, .bool false, .bool false] 106) y6
    have z70 := old_alloc wr (.cells #[.string ⟨#[]⟩, .bool false, .bool false] 106) y7
    have z61 := old_alloc wr (.cells #[.string ⟨#[46, 97, 113]⟩, .bool true, .bool false] 106) y6
    have z71 := old_alloc wr (.cells #[.string ⟨#[46, 97, 113]⟩, .bool true, .bool false] 106) y7
    have z62 := old_alloc wr (.cells #[.string ⟨#[46, 114, 108]⟩, .bool false, .bool true] 106) y6
    have z72 := old_alloc wr (.cells #[.string ⟨#[46, 114, 108]⟩, .bool false, .bool true] 106) y7
    have z63 := old_alloc wr (.cells #[.string ⟨#[46, 97, 113, 114, 108]⟩, .bool true, .bool true] 106) y6
    have z73 := old_alloc wr (.cells #[.string ⟨#[46, 97, 113, 114, 108]⟩, .bool true, .bool true] 106) y7
    have : k = 0 ∨ k = 1 ∨ k = 2 ∨ k = 3 ∨ k = 4 := by omega
    have x0 := ord_ix0
    have x1 := ord_ix1
    have x2 := ord_ix2
    have x3 := ord_ix3
    rcases this with rfl | rfl | rfl | rfl | rfl
    · go_wp2_with fail
      go_roundw
      case rel => exact ⟨1, by decide, rfl, rfl, HN.out.alloc HN.out.size _⟩
      case measure => simp [intOf]
    · go_wp2_with fail
      go_roundw
      case rel => exact ⟨2, by decide, rfl, rfl, HN.out.alloc HN.out.size _⟩
      case measure => simp [intOf]
    · go_wp2_with fail
      go_roundw
      case rel => exact ⟨3, by decide, rfl, rfl, HN.out.alloc HN.out.size _⟩
      case measure => simp [intOf]
    · go_wp2_with fail
      go_roundw
      case rel => exact ⟨4, by decide, rfl, by rw [if_pos (by decide)]; rfl, HN.out.alloc HN.out.size _⟩
      case measure => simp [intOf]
    · go_wp2_with fail
      go_ret
      exact ⟨by rw [HBS.out]; rfl, HB1.out.trans (HN.out.mono HB1.out.size)⟩
theorem nameText_c (op rd rs1 rs2 imm csr : Int) (aq rl : Bool) (w : World) (ho : OrdersAt w) : Calls Tryz.prog 20 #[.agg #[.int .i64 op, .int .i64 rd, .int .i64 rs1, .int .i64 rs2, .int .i64 imm, .int .i64 csr, .bool aq, .bool rl]] w fun e w' => e = .returned (.string (nameB op ++ ordB aq rl)) ∧ Below w.heap.size w w' := by
  cases aq <;> cases rl
  · exact nameText_0 op rd rs1 rs2 imm csr w ho
  · exact nameText_2 op rd rs1 rs2 imm csr w ho
  · exact nameText_1 op rd rs1 rs2 imm csr w ho
  · exact nameText_3 op rd rs1 rs2 imm csr w ho
def OpsAny (W : World) (v : Value) (L : List Opd) : Prop := (L = [] ∧ v = .slice none 0 0) ∨ OpsAt W v L
def opsL (f : Nat) : List Opd :=
  match f with
  | 1 => [oRd, oRs1, oRs2]
  | 2 => [oRd, oRs1, oImm]
  | 3 => [oRs2, oRs1, oImm]
  | 4 => [oRs1, oRs2, oImm]
  | 5 => [oRd, oUp]
  | 6 => [oRd, oImm]
  | 7 => [oRd, oRs1, oImm]
  | 8 => [oRd, oRs1, oImm]
  | 9 => [oRd, oCsr, oRs1]
  | 10 => [oRd, oCsr, oNum]
  | 11 => [oRd, oRs2, oRs1]
  | 12 => [oRd, oRs1]
  | 14 => [oRs1, oRs2]
  | _ => []
set_option maxHeartbeats 4000000 in
theorem operands_13 (w : World) : Calls Tryz.prog 21 #[.int .i64 13] w fun e w' => e = .returned (.slice none 0 0) ∧ Below w.heap.size w w' := by
  have hsf := store_fn
  go_enter Tryz.func21, Tryz.ntmps21
  go_wp2_with fail
  refine (register_c _ _).mono ?_
  rintro e w1 ⟨rfl, hb, hs, hc⟩
  unfold opdV
  have nb : Below w.heap.size w (w1.alloc (.cells #[capV 97 w.heap.size, capV 99 w.heap.size] 57)) := hb.alloc hb.size _
  have HB := Lib.hid nb
  clear hb hs hc nb
  go_wp2_with fail
  generalize hW : w1.alloc (.cells #[capV 97 w.heap.size, capV 99 w.heap.size] 57) = w2 at *
  clear hW
  refine (register_c _ _).mono ?_
  rintro e w3 ⟨rfl, hb, hs, hc⟩
  unfold opdV
  have nb : Below w2.heap.size w2 (w3.alloc (.cells #[capV 97 w2.heap.size, capV 99 w2.heap.size] 57)) := hb.alloc hb.size _
  replace HB := Lib.hid (HB.out.trans (nb.mono HB.out.size))
  clear hb hs hc nb
  go_wp2_with fail
  generalize hW : w3.alloc (.cells #[capV 97 w2.heap.size, capV 99 w2.heap.size] 57) = w4 at *
  clear hW
  refine (register_c _ _).mono ?_
  rintro e w5 ⟨rfl, hb, hs, hc⟩
  unfold opdV
  have nb : Below w4.heap.size w4 (w5.alloc (.cells #[capV 97 w4.heap.size, capV 99 w4.heap.size] 57)) := hb.alloc hb.size _
  replace HB := Lib.hid (HB.out.trans (nb.mono HB.out.size))
  clear hb hs hc nb
  go_wp2_with fail
  generalize hW : w5.alloc (.cells #[capV 97 w4.heap.size, capV 99 w4.heap.size] 57) = w6 at *
  clear hW
  refine (plain_c _ _).mono ?_
  rintro e w7 ⟨rfl, hb, hs, hc⟩
  unfold opdV
  have nb : Below w6.heap.size w6 (w7.alloc (.cells #[capV 101 w6.heap.size, capV 103 w6.heap.size] 57)) := hb.alloc hb.size _
  replace HB := Lib.hid (HB.out.trans (nb.mono HB.out.size))
  clear hb hs hc nb
  go_wp2_with fail
  generalize hW : w7.alloc (.cells #[capV 101 w6.heap.size, capV 103 w6.heap.size] 57) = w8 at *
  clear hW
  go_ret
  exact ⟨rfl, HB.out⟩
theorem operands_c (f : Nat) (hf : 1 ≤ f) (hf2 : f ≤ 14) (w : World) : Calls Tryz.prog 21 #[.int .i64 f] w fun e w' => ∃ v, e = .returned v ∧ Below w.heap.size w w' ∧ OpsAny w' v (opsL f) := by
  have h : f = 1 ∨ f = 2 ∨ f = 3 ∨ f = 4 ∨ f = 5 ∨ f = 6 ∨ f = 7 ∨ f = 8 ∨ f = 9 ∨ f = 10 ∨ f = 11 ∨ f = 12 ∨ f = 13 ∨ f = 14 := by omega
  have go : ∀ {L : List Opd} {k : Int}, (Calls Tryz.prog 21 #[.int .i64 k] w fun e w' => ∃ v, e = .returned v ∧ Below w.heap.size w w' ∧ OpsAt w' v L) → Calls Tryz.prog 21 #[.int .i64 k] w fun e w' => ∃ v, e = .returned v ∧ Below w.heap.size w w' ∧ OpsAny w' v L :=
    fun h => h.mono fun e w' ⟨v, a, b, c⟩ => ⟨v, a, b, .inr c⟩
  rcases h with rfl | rfl | rfl | rfl | rfl | rfl | rfl | rfl | rfl | rfl | rfl | rfl | rfl | rfl
  · exact go (operands_1 w)
  · exact go (operands_2 w)
  · exact go (operands_3 w)
  · exact go (operands_4 w)
  · exact go (operands_5 w)
  · exact go (operands_6 w)
  · exact go (operands_7 w)
  · exact go (operands_8 w)
  · exact go (operands_9 w)
  · exact go (operands_10 w)
  · exact go (operands_11 w)
  · exact go (operands_12 w)
  · exact (operands_13 w).mono fun e w' ⟨a, b⟩ => ⟨_, a, b, .inl ⟨rfl, rfl⟩⟩
  · exact go (operands_14 w)
end Go.Proofs.YthehcplogkgkeaaGreatDoor
set_option maxRecDepth 4000
namespace Go.Proofs.YthehcplogkgkeaaGreatDoor
open Go.ChangeShapes Go.WideShapes Go.ChangeAt Go.RowKit Wd

inductive Kd
  | rd | rs1 | rs2 | csr | num | imm | up
def opd : Kd → Opd
  | .rd => oRd
  | .rs1 => oRs1
  | .rs2 => oRs2
  | .csr => oCsr
  | .num => oNum
  | .imm => oImm
  | .up => oUp
def kdL (f : Nat) : List Kd :=
  match f with
  | 1 => [.rd, .rs1, .rs2]
  | 2 => [.rd, .rs1, .imm]
  | 3 => [.rs2, .rs1, .imm]
  | 4 => [.rs1, .rs2, .imm]
  | 5 => [.rd, .up]
  | 6 => [.rd, .imm]
  | 7 => [.rd, .rs1, .imm]
  | 8 => [.rd, .rs1, .imm]
  | 9 => [.rd, .csr, .rs1]
  | 10 => [.rd, .csr, .num]
  | 11 => [.rd, .rs2, .rs1]
  | 12 => [.rd, .rs1]
  | 14 => [.rs1, .rs2]
  | _ => []
theorem opsL_kd (f : Nat) (h : f ≤ 14) : opsL f = (kdL f).map opd := by
  have : f = 0 ∨ f = 1 ∨ f = 2 ∨ f = 3 ∨ f = 4 ∨ f = 5 ∨ f = 6 ∨ f = 7 ∨ f = 8 ∨ f = 9 ∨ f = 10 ∨ f = 11 ∨ f = 12 ∨ f = 13 ∨ f = 14 := by omega
  rcases this with rfl | rfl | rfl | rfl | rfl | rfl | rfl | rfl | rfl | rfl | rfl | rfl | rfl | rfl | rfl <;> rfl
theorem kdL_len (f : Nat) : (kdL f).length ≤ 3 := by
  unfold kdL
  split <;> decide
def txtK (k : Kd) (rd rs1 rs2 imm csr : Int) : ByteArray :=
  match k with
  | .rd => Rg.bsR (Rg.nameR rd)
  | .rs1 => Rg.bsR (Rg.nameR rs1)
  | .rs2 => Rg.bsR (Rg.nameR rs2)
  | .csr => ⟨(Lib.itoa csr).toArray⟩
  | .num => ⟨(Lib.itoa rs1).toArray⟩
  | .imm => ⟨(Lib.itoa imm).toArray⟩
  | .up => ⟨(Lib.itoa (imm.tdiv 4096)).toArray⟩
/-- What stands behind a name: each with a blank ahead. -/
def lineK (base : ByteArray) (ts : List ByteArray) : ByteArray := ts.foldl (fun acc t => acc ++ (⟨#[32]⟩ ++ t)) base
theorem lineK_succ (base : ByteArray) (ts : List ByteArray) (k : Nat) (h : k < ts.length) : lineK base (ts.take (k + 1)) = lineK base (ts.take k) ++ (⟨#[32]⟩ ++ ts.getD k ⟨#[]⟩) := by
  rw [List.take_add_one, lineK, List.foldl_append]
  simp [lineK, List.getD, h]
/-- What the calls of layer 6 read of the program's variables. -/
structure AsmOk (w : World) : Prop where
  names : Rg.NamesAt w
  vars : FldsAt w
  orders : OrdersAt w
  pow : PowAt w
theorem AsmOk.low {w w' : World} (h : AsmOk w) (hb : Below w.heap.size w w') : AsmOk w' :=
  ⟨h.names.low hb, h.vars.low hb, h.orders.low hb, Lib.tabBelow_of_tabIs h.pow w' hb⟩
structure FitI (rd rs1 rs2 imm csr : Int) : Prop where
  rd : Fit rd
  rs1 : Fit rs1
  rs2 : Fit rs2
  imm : Fit imm
  csr : Fit csr
theorem tdiv_fit {x : Int} (h : Fit x) : Fit (x.tdiv 4096) := by
  unfold Fit at *
  rcases Int.le_total 0 x with h0 | h0
  · rw [Int.tdiv_eq_ediv_of_nonneg h0]; omega
  · have e : x.tdiv 4096 = -((-x) / 4096) := by
      rw [← Int.tdiv_eq_ediv_of_nonneg (by omega), Int.neg_tdiv, Int.neg_neg]
    rw [e]; omega
theorem itoa_small {x : Int} (h : Fit x) : (⟨(Lib.itoa x).toArray⟩ : ByteArray).size ≤ 21 := Lib.itoa_length_le x h.1 h.2
theorem nameR_small (i : Int) : (Rg.bsR (Rg.nameR i)).size ≤ 21 := by
  have l : ∀ k : Fin 32, (Rg.bsR (Rg.nmR k.val)).size ≤ 21 := by decide +kernel
  unfold Rg.nameR
  split
  · exact l ⟨i.toNat, by omega⟩
  · decide
theorem txtK_small (k : Kd) {rd rs1 rs2 imm csr : Int} (h : FitI rd rs1 rs2 imm csr) : (txtK k rd rs1 rs2 imm csr).size ≤ 21 := by
  cases k
  · exact nameR_small rd
  · exact nameR_small rs1
  · exact nameR_small rs2
  · exact itoa_small h.csr
  · exact itoa_small h.rs1
  · exact itoa_small h.imm
  · exact itoa_small (tdiv_fit h.imm)
theorem opd_enters (k : Kd) : Go.Proofs.Enters Tryz.prog (opd k).1 := by
  cases k
  · exact Go.Proofs.enters_of Tryz.func97 (by kernel_rfl) rfl
  · exact Go.Proofs.enters_of Tryz.func97 (by kernel_rfl) rfl
  · exact Go.Proofs.enters_of Tryz.func97 (by kernel_rfl) rfl
  · exact Go.Proofs.enters_of Tryz.func101 (by kernel_rfl) rfl
  · exact Go.Proofs.enters_of Tryz.func101 (by kernel_rfl) rfl
  · exact Go.Proofs.enters_of Tryz.func105 (by kernel_rfl) rfl
  · exact Go.Proofs.enters_of Tryz.func105 (by kernel_rfl) rfl
theorem textK_c (k : Kd) (op rd rs1 rs2 imm csr : Int) (aq rl : Bool) (pa : Nat) (w : World) (ho : AsmOk w) (hf : FitI rd rs1 rs2 imm csr) (hc : w.cell? ⟨pa, 0, none⟩ = some (opd k).2.2) :
    Calls Tryz.prog (opd k).1 #[insA op rd rs1 rs2 imm csr aq rl, .pointer (some ⟨pa, 0, none⟩)] w fun e w' => e = .returned (.string (txtK k rd rs1 rs2 imm csr)) ∧ Below w.heap.size w w' := by
  cases k
  · exact regText_rd op rd rs1 rs2 imm csr aq rl pa w ho.names hc
  · exact regText_rs1 op rd rs1 rs2 imm csr aq rl pa w ho.names hc
  · exact regText_rs2 op rd rs1 rs2 imm csr aq rl pa w ho.names hc
  · exact plainText_csr op rd rs1 rs2 imm csr aq rl pa w ho.pow hf.csr hc
  · exact plainText_rs1 op rd rs1 rs2 imm csr aq rl pa w ho.pow hf.rs1 hc
  · exact immText_1 op rd rs1 rs2 imm csr aq rl pa w ho.pow hf.imm hc
  · exact immText_4096 op rd rs1 rs2 imm csr aq rl pa w ho.pow hf.imm hc
theorem OpsAt.low {W W' : World} {v : Value} {L : List Opd} (h : OpsAt W v L) (hb : Below W.heap.size W W') : OpsAt W' v L := by
  obtain ⟨B, ps, hv, hc⟩ := h
  exact ⟨B, ps, hv, fun j hj => ⟨(hb.cell (p := ⟨B, 2 * j, none⟩) (lt_cell (hc j hj).1)).trans (hc j hj).1, (hb.cell (p := ⟨B, 2 * j + 1, none⟩) (lt_cell (hc j hj).2.1)).trans (hc j hj).2.1, (hb.cell (p := ⟨ps.getD j 0, 0, none⟩) (lt_cell (hc j hj).2.2)).trans (hc j hj).2.2⟩⟩
theorem fmt_le (op : Int) : fmtN op ≤ 14 := by
  have l : ∀ k : Fin 98, (rowAt k.val).2.1 ≤ 14 := by decide +kernel
  unfold fmtN findRow
  split
  · exact l ⟨op.toNat - 1, by omega⟩
  · decide
theorem ordB_size (aq rl : Bool) : (ordB aq rl).size ≤ 5 := by cases aq <;> cases rl <;> decide
theorem lineK_size (base : ByteArray) (ts : List ByteArray) (h : ∀ t ∈ ts, t.size ≤ 21) : (lineK base ts).size ≤ base.size + 22 * ts.length := by
  induction ts generalizing base with
  | nil => simp [lineK]
  | cons t ts ih =>
    have h1 := h t (by simp)
    have h2 := ih (base ++ (⟨#[32]⟩ ++ t)) (fun u hu => h u (by simp [hu]))
    have e : lineK base (t :: ts) = lineK (base ++ (⟨#[32]⟩ ++ t)) ts := rfl
    rw [e]
    have e2 : (base ++ ((⟨#[32]⟩ : ByteArray) ++ t)).size = base.size + (1 + t.size) := by simp [ByteArray.size_append]; rfl
    simp only [List.length_cons]
    omega
/-- The operands' functions in memory, one by one. -/
def OpsEach (W : World) (o : Option Addr) (Ks : List Kd) : Prop :=
  ∃ (B : Nat) (ps : List Nat), ∀ j, j < Ks.length → o = some ⟨B, 0, none⟩ ∧ W.cell? ⟨B, 2 * j, none⟩ = some (capV (opd (Ks.getD j .rd)).1 (ps.getD j 0)) ∧ W.cell? ⟨B, 2 * j + 1, none⟩ = some (capV (opd (Ks.getD j .rd)).2.1 (ps.getD j 0)) ∧ W.cell? ⟨ps.getD j 0, 0, none⟩ = some (opd (Ks.getD j .rd)).2.2
theorem opsEach {W : World} {v : Value} {Ks : List Kd} (h : OpsAny W v (Ks.map opd)) : ∃ o, v = .slice o Ks.length Ks.length ∧ OpsEach W o Ks := by
  rcases h with ⟨h0, rfl⟩ | ⟨B, ps, hv, hc⟩
  · obtain rfl : Ks = [] := by simpa using h0
    exact ⟨none, rfl, 0, [], fun j hj => absurd hj (by simp)⟩
  · refine ⟨some ⟨B, 0, none⟩, by rw [hv]; simp, B, ps, fun j hj => ⟨rfl, ?_⟩⟩
    have := hc j (by simpa using hj)
    have e : (Ks.map opd).getD j (0, 0, .nilFunc) = opd (Ks.getD j .rd) := by simp [List.getD, hj]
    rw [e] at this
    exact this
theorem OpsEach.low {W W' : World} {o : Option Addr} {Ks : List Kd} (h : OpsEach W o Ks) (hb : Below W.heap.size W W') : OpsEach W' o Ks := by
  obtain ⟨B, ps, hc⟩ := h
  exact ⟨B, ps, fun j hj => ⟨(hc j hj).1, (hb.cell (p := ⟨B, 2 * j, none⟩) (lt_cell (hc j hj).2.1)).trans (hc j hj).2.1, (hb.cell (p := ⟨B, 2 * j + 1, none⟩) (lt_cell (hc j hj).2.2.1)).trans (hc j hj).2.2.1, (hb.cell (p := ⟨ps.getD j 0, 0, none⟩) (lt_cell (hc j hj).2.2.2)).trans (hc j hj).2.2.2⟩⟩
def textS (op rd rs1 rs2 imm csr : Int) (aq rl : Bool) : ByteArray := lineK (nameB op ++ ordB aq rl) ((kdL (fmtN op)).map fun k => txtK k rd rs1 rs2 imm csr)
set_option maxHeartbeats 4000000 in
theorem text_no (op rd rs1 rs2 imm csr : Int) (aq rl : Bool) (w : World) (ho : AsmOk w) (hc : checkS op rd rs1 rs2 imm csr aq rl ≠ 0) :
    Calls Tryz.prog 8 #[insA op rd rs1 rs2 imm csr aq rl] w fun e w' => e = .returned (.tuple #[.string ⟨#[]⟩, .int .i64 (checkS op rd rs1 rs2 imm csr aq rl)]) ∧ Below w.heap.size w w' := by
  show Calls Tryz.prog 8 #[.agg #[.int .i64 op, .int .i64 rd, .int .i64 rs1, .int .i64 rs2, .int .i64 imm, .int .i64 csr, .bool aq, .bool rl]] w _
  have HB0 := Lib.hid ((Below.refl w.heap.size w).alloc (Nat.le_refl _) (.cells #[.int .i64 op, .int .i64 rd, .int .i64 rs1, .int .i64 rs2, .int .i64 imm, .int .i64 csr, .bool aq, .bool rl] 24))
  have HO := Lib.hid (ho.low HB0.out)
  obtain ⟨⟨i0, i1, i2, i3, i4, i5, i6, i7⟩⟩ := insAt_new w 24 op rd rs1 rs2 imm csr aq rl
  have HK := Lib.hid (fun w' hv => check_c op rd rs1 rs2 imm csr aq rl w' hv)
  have e1 : (checkS op rd rs1 rs2 imm csr aq rl != 0) = true := by simpa using hc
  generalize checkS op rd rs1 rs2 imm csr aq rl = c at *
  clear hc ho
  go_enter Tryz.func8, Tryz.ntmps8
  go_wp2_with fail
  generalize (w.alloc (.cells #[.int .i64 op, .int .i64 rd, .int .i64 rs1, .int .i64 rs2, .int .i64 imm, .int .i64 csr, .bool aq, .bool rl] 24)) = W at *
  refine (HK.out _ HO.out.vars).mono ?_
  rintro e w1 ⟨rfl, hb⟩
  have HB1 := Lib.hid (HB0.out.trans (hb.mono HB0.out.size))
  clear hb
  go_wp2_with fail
  go_ret2
  exact ⟨rfl, HB1.out⟩
set_option maxHeartbeats 8000000 in
theorem text_yes (op rd rs1 rs2 imm csr : Int) (aq rl : Bool) (w : World) (ho : AsmOk w) (hf : FitI rd rs1 rs2 imm csr) (hc : checkS op rd rs1 rs2 imm csr aq rl = 0) :
    Calls Tryz.prog 8 #[insA op rd rs1 rs2 imm csr aq rl] w fun e w' => e = .returned (.tuple #[.string (textS op rd rs1 rs2 imm csr aq rl), .int .i64 0]) ∧ Below w.heap.size w w' := by
  show Calls Tryz.prog 8 #[.agg #[.int .i64 op, .int .i64 rd, .int .i64 rs1, .int .i64 rs2, .int .i64 imm, .int .i64 csr, .bool aq, .bool rl]] w _
  have hf1 : 1 ≤ fmtN op := by
    unfold checkS at hc
    split at hc
    · exact absurd hc (by decide)
    · omega
  have hf2 := fmt_le op
  have HB0 := Lib.hid ((Below.refl w.heap.size w).alloc (Nat.le_refl _) (.cells #[.int .i64 op, .int .i64 rd, .int .i64 rs1, .int .i64 rs2, .int .i64 imm, .int .i64 csr, .bool aq, .bool rl] 24))
  have HO := Lib.hid (ho.low HB0.out)
  have HI := Lib.hid (insAt_new w 24 op rd rs1 rs2 imm csr aq rl)
  obtain ⟨⟨i0, i1, i2, i3, i4, i5, i6, i7⟩⟩ := HI.out
  have HK := Lib.hid (fun w' hv => hc ▸ check_c op rd rs1 rs2 imm csr aq rl w' hv)
  have HT := Lib.hid (show textS op rd rs1 rs2 imm csr aq rl = lineK (nameB op ++ ordB aq rl) ((kdL (fmtN op)).map fun k => txtK k rd rs1 rs2 imm csr) from rfl)
  clear hc ho
  go_enter Tryz.func8, Tryz.ntmps8
  go_wp2_with fail
  generalize (w.alloc (.cells #[.int .i64 op, .int .i64 rd, .int .i64 rs1, .int .i64 rs2, .int .i64 imm, .int .i64 csr, .bool aq, .bool rl] 24)) = W at *
  refine (HK.out _ HO.out.vars).mono ?_
  rintro e w1 ⟨rfl, hb⟩
  replace HB0 := Lib.hid (HB0.out.trans (hb.mono HB0.out.size))
  replace HO := Lib.hid (HO.out.low hb)
  replace HI := Lib.hid (HI.out.on hb)
  clear hb i0 i1 i2 i3 i4 i5 i6 i7 HK
  obtain ⟨⟨i0, i1, i2, i3, i4, i5, i6, i7⟩⟩ := HI.out
  go_wp2_with fail
  refine (nameText_c op rd rs1 rs2 imm csr aq rl _ HO.out.orders).mono ?_
  rintro e w2 ⟨rfl, hb⟩
  replace HB0 := Lib.hid (HB0.out.trans (hb.mono HB0.out.size))
  replace HO := Lib.hid (HO.out.low hb)
  replace HI := Lib.hid (HI.out.on hb)
  clear hb i0 i1 i2 i3 i4 i5 i6 i7
  obtain ⟨⟨i0, i1, i2, i3, i4, i5, i6, i7⟩⟩ := HI.out
  go_wp2_with fail
  refine (formatOf_c _ _).mono ?_
  rintro e w3 ⟨rfl, hb⟩
  replace HB0 := Lib.hid (HB0.out.trans (hb.mono HB0.out.size))
  replace HO := Lib.hid (HO.out.low hb)
  replace HI := Lib.hid (HI.out.on hb)
  clear hb i0 i1 i2 i3 i4 i5 i6 i7
  go_wp2_with fail
  refine (operands_c _ hf1 hf2 _).mono ?_
  rintro e w4 ⟨v, rfl, hb, hops⟩
  replace HB0 := Lib.hid (HB0.out.trans (hb.mono HB0.out.size))
  replace HO := Lib.hid (HO.out.low hb)
  replace HI := Lib.hid (HI.out.on hb)
  clear hb
  rw [opsL_kd _ hf2] at hops
  have hlen := kdL_len (fmtN op)
  have hbz : (nameB op ++ ordB aq rl).size < 40 := by
    have := nameB_size op
    have := ordB_size aq rl
    rw [ByteArray.size_append]
    omega
  generalize kdL (fmtN op) = Ks at *
  generalize nameB op ++ ordB aq rl = base at *
  obtain ⟨o, rfl, hopsE⟩ := opsEach hops
  have HOP := Lib.hid hopsE
  clear hops hopsE hf1 hf2
  have hz : ∀ k, k ≤ Ks.length → (lineK base ((Ks.map fun k => txtK k rd rs1 rs2 imm csr).take k)).size ≤ 40 + 66 := by
    intro k hk
    have h := lineK_size base ((Ks.map fun k => txtK k rd rs1 rs2 imm csr).take k) (fun t ht => by
      have := List.mem_of_mem_take ht
      simp only [List.mem_map] at this
      obtain ⟨a, _, rfl⟩ := this
      exact txtK_small a hf)
    have h2 : ((Ks.map fun k => txtK k rd rs1 rs2 imm csr).take k).length ≤ 3 := by simp; omega
    omega
  have HZ := Lib.hid hz
  clear hz
  have hn : (Ks.length : Int) ≤ 3 := by omega
  go_wp2_with fail
  go_loopw [5, 20] (fun ln i wr => ∃ k : Nat, k ≤ Ks.length ∧ i = .int .i64 k ∧ ln = .string (lineK base ((Ks.map fun k => txtK k rd rs1 rs2 imm csr).take k)) ∧ Below w4.heap.size w4 wr) (fun _ i _ => Ks.length - (intOf i).toNat)
  case atStart => exact ⟨0, Nat.zero_le _, rfl, rfl, Below.refl _ _⟩
  case round =>
    obtain ⟨k, hk, rfl, rfl, hnx⟩ := hrel
    have HN := Lib.hid hnx
    have HIr := Lib.hid (HI.out.on hnx)
    have HOr := Lib.hid (HO.out.low hnx)
    have HPr := Lib.hid (HOP.out.low hnx)
    clear hnx
    by_cases hlt : k < Ks.length
    · obtain ⟨B, ps, hps⟩ := HPr.out
      obtain ⟨rfl, q0, q1, q2⟩ := hps k hlt
      have hz1 := HZ.out k hk
      have hz2 := HZ.out (k + 1) (by omega)
      have HS := Lib.hid (lineK_succ base (Ks.map fun k => txtK k rd rs1 rs2 imm csr) k (by simpa using hlt))
      have eg : (Ks.map fun k => txtK k rd rs1 rs2 imm csr).getD k ⟨#[]⟩ = txtK (Ks.getD k .rd) rd rs1 rs2 imm csr := by simp [List.getD, hlt]
      rw [eg] at HS
      clear hps eg
      rw [Nat.mul_comm 2 k] at q0 q1
      have hlt2 : (k : Int) < (Ks.length : Int) := by omega
      generalize Ks.getD k .rd = kk at *
      generalize ps.getD k 0 = pp at *
      have HT1 := Lib.hid (opd_enters kk)
      have htz := txtK_small kk hf
      have hsf := store_fn
      have HBn := Lib.hid ((Below.refl wr.heap.size wr).alloc (Nat.le_refl _) (.cells #[capV (opd kk).1 pp, capV (opd kk).2.1 pp] 57))
      have HIn := Lib.hid (HIr.out.on HBn.out)
      have HOn := Lib.hid (HOr.out.low HBn.out)
      have HQ := Lib.hid (old_alloc wr (.cells #[capV (opd kk).1 pp, capV (opd kk).2.1 pp] 57) q2)
      have HNn := Lib.hid (HN.out.trans (HBn.out.mono HN.out.size))
      obtain ⟨⟨i0, i1, i2, i3, i4, i5, i6, i7⟩⟩ := HIn.out
      have HCT := Lib.hid (fun hq => textK_c kk op rd rs1 rs2 imm csr aq rl pp (wr.alloc (.cells #[capV (opd kk).1 pp, capV (opd kk).2.1 pp] 57)) HOn.out hf hq)
      go_wp2_with fail
      rw [HT1.out]
      refine (HCT.out HQ.out).mono ?_
      rintro e w5 ⟨rfl, hb⟩
      have HN5 := Lib.hid (HNn.out.trans (hb.mono HNn.out.size))
      clear hb
      have hsz : ((⟨#[32]⟩ : ByteArray) ++ txtK kk rd rs1 rs2 imm csr).size ≤ 22 := by
        rw [ByteArray.size_append]
        have : (⟨#[32]⟩ : ByteArray).size = 1 := rfl
        omega
      generalize lineK base (List.take k (List.map (fun k => txtK k rd rs1 rs2 imm csr) Ks)) = L0 at *
      generalize txtK kk rd rs1 rs2 imm csr = tt at *
      go_wp2_with fail
      go_roundw
      case rel => exact ⟨k + 1, by omega, by go_num, by rw [HS.out], HN5.out⟩
      case measure => simp [intOf]; omega
    · obtain rfl : k = Ks.length := by omega
      go_wp2_with fail
      go_ret2
      exact ⟨by rw [HT.out, List.take_of_length_le (by simp)]; rfl, HB0.out.trans (HN.out.mono HB0.out.size)⟩
end Go.Proofs.YthehcplogkgkeaaGreatDoor
