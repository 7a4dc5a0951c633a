/-
  The contract of asm.Number (layer 6). Contracts of asm's operands (layer 6), the part that writes: the places and the closures of register, plain and immediate.
-/
import Derived.Test.YthehcplogkgkeaaGreatDoorQn
import Derived.Test.YthehcplogkgkeaaGreatDoorQo
import Derived.Lib.AppendIntMem
import Derived.Lib.AtoiErrMem
import Derived.Test.YthehcplogkgkeaaGreatDoorQm
import Derived.Test.YthehcplogkgkeaaGreatDoorQc
set_option maxRecDepth 4000
namespace Go.Proofs.YthehcplogkgkeaaGreatDoor
open Go.ChangeShapes Go.WideShapes Go.RowKit Num

set_option maxHeartbeats 4000000 in
theorem asmNumber_c (l : List UInt8) (w : World) (tp tq : TypeId) (p q : Value)
    (hv1 : w.var? Tryz.prog "strconv.ErrSyntax" = some #[.iface tp p]) (hv2 : w.var? Tryz.prog "strconv.ErrRange" = some #[.iface tq q])
    (htab : Lib.TabIs Tryz.prog w "internal/strconv.uint64pow10" .u64 Lib.pow10Tab) :
    Calls Tryz.prog 10 #[.string (bs6 l)] w fun e w' => e = .returned (numV (numP l)) ∧ Below w.heap.size w w' := by
  have hs := bs6_size l
  have hdl : (bs6 l).data.toList = l := rfl
  by_cases h : 20 < l.length
  · have e1 : decide ((20 : Int) < ((bs6 l).size : Int)) = true := by simp; omega
    have HV := Lib.hid (show numV (numP l) = .tuple #[.int .i64 0, .bool false] by rw [numP, if_pos h]; rfl)
    clear hs h hdl
    generalize numV (numP l) = v at *
    generalize bs6 l = B at *
    go_enter Tryz.func10, Tryz.ntmps10
    go_wp2_with fail
    go_ret2
    exact ⟨by rw [HV.out]; rfl, Below.refl _ _⟩
  · have e1 : decide ((20 : Int) < ((bs6 l).size : Int)) = false := by simp; omega
    have hsm : (bs6 l).size ≤ 20 := by omega
    cases hp : Lib.parseIntB 64 l with
    | range =>
      have HV := Lib.hid (show numV (numP l) = .tuple #[.int .i64 0, .bool false] by rw [numP, if_neg h, hp]; rfl)
      have K := fun W0 => Tryz.strconv_ParseInt_10_at64_range_var (bs6 l) (by omega) (by rw [hdl]; exact hp) tq q W0
      clear hs h hdl hp
      generalize numV (numP l) = v at *
      generalize bs6 l = B at *
      go_enter Tryz.func10, Tryz.ntmps10
      go_wp2_with fail
      refine (K _ hv2).mono ?_
      rintro e w1 ⟨N, rfl, hN, hcell, hb⟩
      go_wp2_with fail
      go_ret2
      exact ⟨by rw [HV.out]; rfl, hb⟩
    | ok n =>
      have hn := Lib.parseIntB_bounds hp
      have hn0 : -9223372036854775808 ≤ n := by have := hn.1; simp at this; omega
      have hn1 : n ≤ 9223372036854775807 := by have := hn.2; simp at this; omega
      have HP := Lib.hid (show numP l = if Lib.itoa n == l then some n else none by
        rw [numP, if_neg h, hp]
        by_cases h2 : Lib.itoa n = l
        · simp [h2]
        · simp [h2])
      have K := fun W0 => Tryz.strconv_ParseInt_10_at64_ok (bs6 l) (by omega) n (by rw [hdl]; exact hp) W0
      have KF := fun W0 => Tryz.strconv_FormatInt_10 n hn0 hn1 W0
      have p5 : ((⟨(Lib.itoa n).toArray⟩ : ByteArray).toList == (bs6 l).toList) = (Lib.itoa n == l) := bs6_beq _ _
      have HT := Lib.hid (Lib.tabBelow_of_tabIs htab)
      obtain ⟨v, hv⟩ : ∃ v, v = numV (numP l) := ⟨_, rfl⟩
      rw [← hv]
      have HV := Lib.hid hv
      clear hs h hdl hp hn hv
      generalize bs6 l = B at *
      generalize (⟨(Lib.itoa n).toArray⟩ : ByteArray) = D at *
      go_enter Tryz.func10, Tryz.ntmps10
      go_wp2_with fail
      refine (K _).mono ?_
      rintro e w1 ⟨rfl, hw1⟩
      have HB := Lib.hid (show Below w.heap.size w w1 by
        rcases hw1 with rfl | ⟨t, rfl⟩
        · exact Below.refl _ _
        · exact Lib.bytesWorld_below _ _ _)
      clear hw1
      have hT1 := HT.out w1 HB.out
      go_wp2_with fail
      refine (KF _ hT1).mono ?_
      rintro e w2 ⟨rfl, k, os, hw2⟩
      have HB2 := Lib.hid (show Below w.heap.size w w2 by
        rw [hw2]
        exact HB.out.trans (Lib.below_grow _ w1 HB.out.size k os))
      clear hw2
      rcases (show (Lib.itoa n == l) = true ∨ (Lib.itoa n == l) = false by cases (Lib.itoa n == l) <;> simp) with hz | hz
      · rw [hz] at p5 HP
        go_wp2_with fail
        go_ret2
        refine ⟨?_, HB2.out⟩
        rw [HV.out, HP.out]
        rfl
      · rw [hz] at p5 HP
        go_wp2_with fail
        go_ret2
        refine ⟨?_, HB2.out⟩
        rw [HV.out, HP.out]
        rfl
    | _ =>
      have HV := Lib.hid (show numV (numP l) = .tuple #[.int .i64 0, .bool false] by rw [numP, if_neg h, hp]; rfl)
      have K := fun W0 => Tryz.strconv_ParseInt_10_at64_bad (bs6 l) (by omega) (by rw [hdl, hp]; exact fun _ h => by cases h) (by rw [hdl, hp]; exact fun h => by cases h) tp p W0
      clear hs h hdl hp
      generalize numV (numP l) = v at *
      generalize bs6 l = B at *
      go_enter Tryz.func10, Tryz.ntmps10
      go_wp2_with fail
      refine (K _ hv1).mono ?_
      rintro e w1 ⟨N, rfl, hN, hcell, hb⟩
      go_wp2_with fail
      go_ret2
      exact ⟨by rw [HV.out]; rfl, hb⟩
end Go.Proofs.YthehcplogkgkeaaGreatDoor
set_option maxRecDepth 4000
namespace Go.Proofs.YthehcplogkgkeaaGreatDoor
open Go.ChangeShapes Go.WideShapes Go.ChangeAt Go.RowKit Wd

def insA (op rd rs1 rs2 imm csr : Int) (aq rl : Bool) : Value := .agg #[.int .i64 op, .int .i64 rd, .int .i64 rs1, .int .i64 rs2, .int .i64 imm, .int .i64 csr, .bool aq, .bool rl]
def Fit (x : Int) : Prop := -9223372036854775808 ≤ x ∧ x ≤ 9223372036854775807
def itoaV (n : Int) : Value := .string ⟨(Lib.itoa n).toArray⟩
def PowAt (w : World) : Prop := Lib.TabIs Tryz.prog w "internal/strconv.uint64pow10" .u64 Lib.pow10Tab
theorem box8 (W : World) (a b c d e f g h : Value) (t : TypeId) : (W.alloc (.cells #[a, b, c, d, e, f, g, h] t)).cell? ⟨W.heap.size, 1, none⟩ = some b ∧ (W.alloc (.cells #[a, b, c, d, e, f, g, h] t)).cell? ⟨W.heap.size, 2, none⟩ = some c ∧ (W.alloc (.cells #[a, b, c, d, e, f, g, h] t)).cell? ⟨W.heap.size, 3, none⟩ = some d ∧
    (W.alloc (.cells #[a, b, c, d, e, f, g, h] t)).cell? ⟨W.heap.size, 4, none⟩ = some e ∧ (W.alloc (.cells #[a, b, c, d, e, f, g, h] t)).cell? ⟨W.heap.size, 5, none⟩ = some f := by
  refine ⟨?_, ?_, ?_, ?_, ?_⟩ <;> simp [go_sem]
theorem old_alloc (W : World) (o : Obj) {b i : Nat} {v : Value} (h : W.cell? ⟨b, i, none⟩ = some v) : (W.alloc o).cell? ⟨b, i, none⟩ = some v :=
  (((Below.refl _ W).alloc (Nat.le_refl _) o).cell (p := ⟨b, i, none⟩) (lt_cell h)).trans h
theorem place_rd (b : Nat) (w : World) : Calls Tryz.prog 61 #[.pointer (some ⟨b, 0, none⟩)] w fun e w' => e = .returned (.pointer (some ⟨b, 1, none⟩)) ∧ w = w' := by
  go_enter Tryz.func61, Tryz.ntmps61
  go_wp2
  go_ret
  exact ⟨rfl, rfl⟩
theorem place_rs1 (b : Nat) (w : World) : Calls Tryz.prog 59 #[.pointer (some ⟨b, 0, none⟩)] w fun e w' => e = .returned (.pointer (some ⟨b, 2, none⟩)) ∧ w = w' := by
  go_enter Tryz.func59, Tryz.ntmps59
  go_wp2
  go_ret
  exact ⟨rfl, rfl⟩
theorem place_rs2 (b : Nat) (w : World) : Calls Tryz.prog 62 #[.pointer (some ⟨b, 0, none⟩)] w fun e w' => e = .returned (.pointer (some ⟨b, 3, none⟩)) ∧ w = w' := by
  go_enter Tryz.func62, Tryz.ntmps62
  go_wp2
  go_ret
  exact ⟨rfl, rfl⟩
theorem place_csr (b : Nat) (w : World) : Calls Tryz.prog 64 #[.pointer (some ⟨b, 0, none⟩)] w fun e w' => e = .returned (.pointer (some ⟨b, 5, none⟩)) ∧ w = w' := by
  go_enter Tryz.func64, Tryz.ntmps64
  go_wp2
  go_ret
  exact ⟨rfl, rfl⟩
set_option maxHeartbeats 1000000 in
theorem regText_rd (op rd rs1 rs2 imm csr : Int) (aq rl : Bool) (pa : Nat) (w : World) (hn : Rg.NamesAt w) (hc : w.cell? ⟨pa, 0, none⟩ = some (.func (.func 61) #[] #[])) :
    Calls Tryz.prog 97 #[insA op rd rs1 rs2 imm csr aq rl, .pointer (some ⟨pa, 0, none⟩)] w fun e w' => e = .returned (Rg.strR (Rg.nameR rd)) ∧ Below w.heap.size w w' := by
  show Calls Tryz.prog 97 #[.agg #[.int .i64 op, .int .i64 rd, .int .i64 rs1, .int .i64 rs2, .int .i64 imm, .int .i64 csr, .bool aq, .bool rl], .pointer (some ⟨pa, 0, none⟩)] w _
  have hc2 := old_alloc w (.cells #[.int .i64 op, .int .i64 rd, .int .i64 rs1, .int .i64 rs2, .int .i64 imm, .int .i64 csr, .bool aq, .bool rl] 24) hc
  obtain ⟨c1, c2, c3, c4, c5⟩ := box8 w (.int .i64 op) (.int .i64 rd) (.int .i64 rs1) (.int .i64 rs2) (.int .i64 imm) (.int .i64 csr) (.bool aq) (.bool rl) 24
  have HB := Lib.hid ((Below.refl w.heap.size w).alloc (Nat.le_refl _) (.cells #[.int .i64 op, .int .i64 rd, .int .i64 rs1, .int .i64 rs2, .int .i64 imm, .int .i64 csr, .bool aq, .bool rl] 24))
  have HN := Lib.hid (hn.low HB.out)
  clear hc hn
  go_enter Tryz.func97, Tryz.ntmps97
  go_wp2_with fail
  generalize (w.alloc (.cells #[.int .i64 op, .int .i64 rd, .int .i64 rs1, .int .i64 rs2, .int .i64 imm, .int .i64 csr, .bool aq, .bool rl] 24)) = W at *
  refine (place_rd _ _).mono ?_
  rintro e w1 ⟨rfl, rfl⟩
  go_wp2_with fail
  refine (Rg.name_c _ _ HN.out).mono ?_
  rintro e w1 ⟨rfl, rfl⟩
  go_wp2_with fail
  go_ret
  exact ⟨rfl, HB.out⟩
set_option maxHeartbeats 1000000 in
theorem regText_rs1 (op rd rs1 rs2 imm csr : Int) (aq rl : Bool) (pa : Nat) (w : World) (hn : Rg.NamesAt w) (hc : w.cell? ⟨pa, 0, none⟩ = some (.func (.func 59) #[] #[])) :
    Calls Tryz.prog 97 #[insA op rd rs1 rs2 imm csr aq rl, .pointer (some ⟨pa, 0, none⟩)] w fun e w' => e = .returned (Rg.strR (Rg.nameR rs1)) ∧ Below w.heap.size w w' := by
  show Calls Tryz.prog 97 #[.agg #[.int .i64 op, .int .i64 rd, .int .i64 rs1, .int .i64 rs2, .int .i64 imm, .int .i64 csr, .bool aq, .bool rl], .pointer (some ⟨pa, 0, none⟩)] w _
  have hc2 := old_alloc w (.cells #[.int .i64 op, .int .i64 rd, .int .i64 rs1, .int .i64 rs2, .int .i64 imm, .int .i64 csr, .bool aq, .bool rl] 24) hc
  obtain ⟨c1, c2, c3, c4, c5⟩ := box8 w (.int .i64 op) (.int .i64 rd) (.int .i64 rs1) (.int .i64 rs2) (.int .i64 imm) (.int .i64 csr) (.bool aq) (.bool rl) 24
  have HB := Lib.hid ((Below.refl w.heap.size w).alloc (Nat.le_refl _) (.cells #[.int .i64 op, .int .i64 rd, .int .i64 rs1, .int .i64 rs2, .int .i64 imm, .int .i64 csr, .bool aq, .bool rl] 24))
  have HN := Lib.hid (hn.low HB.out)
  clear hc hn
  go_enter Tryz.func97, Tryz.ntmps97
  go_wp2_with fail
  generalize (w.alloc (.cells #[.int .i64 op, .int .i64 rd, .int .i64 rs1, .int .i64 rs2, .int .i64 imm, .int .i64 csr, .bool aq, .bool rl] 24)) = W at *
  refine (place_rs1 _ _).mono ?_
  rintro e w1 ⟨rfl, rfl⟩
  go_wp2_with fail
  refine (Rg.name_c _ _ HN.out).mono ?_
  rintro e w1 ⟨rfl, rfl⟩
  go_wp2_with fail
  go_ret
  exact ⟨rfl, HB.out⟩
set_option maxHeartbeats 1000000 in
theorem regText_rs2 (op rd rs1 rs2 imm csr : Int) (aq rl : Bool) (pa : Nat) (w : World) (hn : Rg.NamesAt w) (hc : w.cell? ⟨pa, 0, none⟩ = some (.func (.func 62) #[] #[])) :
    Calls Tryz.prog 97 #[insA op rd rs1 rs2 imm csr aq rl, .pointer (some ⟨pa, 0, none⟩)] w fun e w' => e = .returned (Rg.strR (Rg.nameR rs2)) ∧ Below w.heap.size w w' := by
  show Calls Tryz.prog 97 #[.agg #[.int .i64 op, .int .i64 rd, .int .i64 rs1, .int .i64 rs2, .int .i64 imm, .int .i64 csr, .bool aq, .bool rl], .pointer (some ⟨pa, 0, none⟩)] w _
  have hc2 := old_alloc w (.cells #[.int .i64 op, .int .i64 rd, .int .i64 rs1, .int .i64 rs2, .int .i64 imm, .int .i64 csr, .bool aq, .bool rl] 24) hc
  obtain ⟨c1, c2, c3, c4, c5⟩ := box8 w (.int .i64 op) (.int .i64 rd) (.int .i64 rs1) (.int .i64 rs2) (.int .i64 imm) (.int .i64 csr) (.bool aq) (.bool rl) 24
  have HB := Lib.hid ((Below.refl w.heap.size w).alloc (Nat.le_refl _) (.cells #[.int .i64 op, .int .i64 rd, .int .i64 rs1, .int .i64 rs2, .int .i64 imm, .int .i64 csr, .bool aq, .bool rl] 24))
  have HN := Lib.hid (hn.low HB.out)
  clear hc hn
  go_enter Tryz.func97, Tryz.ntmps97
  go_wp2_with fail
  generalize (w.alloc (.cells #[.int .i64 op, .int .i64 rd, .int .i64 rs1, .int .i64 rs2, .int .i64 imm, .int .i64 csr, .bool aq, .bool rl] 24)) = W at *
  refine (place_rs2 _ _).mono ?_
  rintro e w1 ⟨rfl, rfl⟩
  go_wp2_with fail
  refine (Rg.name_c _ _ HN.out).mono ?_
  rintro e w1 ⟨rfl, rfl⟩
  go_wp2_with fail
  go_ret
  exact ⟨rfl, HB.out⟩
set_option maxHeartbeats 1000000 in
theorem plainText_csr (op rd rs1 rs2 imm csr : Int) (aq rl : Bool) (pa : Nat) (w : World) (ht : PowAt w) (hf : Fit csr) (hc : w.cell? ⟨pa, 0, none⟩ = some (.func (.func 64) #[] #[])) :
    Calls Tryz.prog 101 #[insA op rd rs1 rs2 imm csr aq rl, .pointer (some ⟨pa, 0, none⟩)] w fun e w' => e = .returned (itoaV csr) ∧ Below w.heap.size w w' := by
  show Calls Tryz.prog 101 #[.agg #[.int .i64 op, .int .i64 rd, .int .i64 rs1, .int .i64 rs2, .int .i64 imm, .int .i64 csr, .bool aq, .bool rl], .pointer (some ⟨pa, 0, none⟩)] w _
  have hc2 := old_alloc w (.cells #[.int .i64 op, .int .i64 rd, .int .i64 rs1, .int .i64 rs2, .int .i64 imm, .int .i64 csr, .bool aq, .bool rl] 24) hc
  obtain ⟨c1, c2, c3, c4, c5⟩ := box8 w (.int .i64 op) (.int .i64 rd) (.int .i64 rs1) (.int .i64 rs2) (.int .i64 imm) (.int .i64 csr) (.bool aq) (.bool rl) 24
  have HB := Lib.hid ((Below.refl w.heap.size w).alloc (Nat.le_refl _) (.cells #[.int .i64 op, .int .i64 rd, .int .i64 rs1, .int .i64 rs2, .int .i64 imm, .int .i64 csr, .bool aq, .bool rl] 24))
  have HT := Lib.hid (Lib.tabBelow_of_tabIs ht)
  have K := fun W0 => Tryz.strconv_Itoa csr hf.1 hf.2 W0
  clear hc ht
  go_enter Tryz.func101, Tryz.ntmps101
  go_wp2_with fail
  generalize (w.alloc (.cells #[.int .i64 op, .int .i64 rd, .int .i64 rs1, .int .i64 rs2, .int .i64 imm, .int .i64 csr, .bool aq, .bool rl] 24)) = W at *
  have hT1 := HT.out W HB.out
  refine (place_csr _ _).mono ?_
  rintro e w1 ⟨rfl, rfl⟩
  go_wp2_with fail
  refine (K _ hT1).mono ?_
  rintro e w2 ⟨rfl, k, os, hw2⟩
  have HB2 := Lib.hid (show Below w.heap.size w w2 by
    rw [hw2]
    exact HB.out.trans (Lib.below_grow _ _ HB.out.size k os))
  clear hw2
  go_wp2_with fail
  go_ret
  exact ⟨rfl, HB2.out⟩
set_option maxHeartbeats 1000000 in
theorem plainText_rs1 (op rd rs1 rs2 imm csr : Int) (aq rl : Bool) (pa : Nat) (w : World) (ht : PowAt w) (hf : Fit rs1) (hc : w.cell? ⟨pa, 0, none⟩ = some (.func (.func 59) #[] #[])) :
    Calls Tryz.prog 101 #[insA op rd rs1 rs2 imm csr aq rl, .pointer (some ⟨pa, 0, none⟩)] w fun e w' => e = .returned (itoaV rs1) ∧ Below w.heap.size w w' := by
  show Calls Tryz.prog 101 #[.agg #[.int .i64 op, .int .i64 rd, .int .i64 rs1, .int .i64 rs2, .int .i64 imm, .int .i64 csr, .bool aq, .bool rl], .pointer (some ⟨pa, 0, none⟩)] w _
  have hc2 := old_alloc w (.cells #[.int .i64 op, .int .i64 rd, .int .i64 rs1, .int .i64 rs2, .int .i64 imm, .int .i64 csr, .bool aq, .bool rl] 24) hc
  obtain ⟨c1, c2, c3, c4, c5⟩ := box8 w (.int .i64 op) (.int .i64 rd) (.int .i64 rs1) (.int .i64 rs2) (.int .i64 imm) (.int .i64 csr) (.bool aq) (.bool rl) 24
  have HB := Lib.hid ((Below.refl w.heap.size w).alloc (Nat.le_refl _) (.cells #[.int .i64 op, .int .i64 rd, .int .i64 rs1, .int .i64 rs2, .int .i64 imm, .int .i64 csr, .bool aq, .bool rl] 24))
  have HT := Lib.hid (Lib.tabBelow_of_tabIs ht)
  have K := fun W0 => Tryz.strconv_Itoa rs1 hf.1 hf.2 W0
  clear hc ht
  go_enter Tryz.func101, Tryz.ntmps101
  go_wp2_with fail
  generalize (w.alloc (.cells #[.int .i64 op, .int .i64 rd, .int .i64 rs1, .int .i64 rs2, .int .i64 imm, .int .i64 csr, .bool aq, .bool rl] 24)) = W at *
  have hT1 := HT.out W HB.out
  refine (place_rs1 _ _).mono ?_
  rintro e w1 ⟨rfl, rfl⟩
  go_wp2_with fail
  refine (K _ hT1).mono ?_
  rintro e w2 ⟨rfl, k, os, hw2⟩
  have HB2 := Lib.hid (show Below w.heap.size w w2 by
    rw [hw2]
    exact HB.out.trans (Lib.below_grow _ _ HB.out.size k os))
  clear hw2
  go_wp2_with fail
  go_ret
  exact ⟨rfl, HB2.out⟩
set_option maxHeartbeats 1000000 in
theorem immText_1 (op rd rs1 rs2 imm csr : Int) (aq rl : Bool) (pa : Nat) (w : World) (ht : PowAt w) (hf : Fit imm) (hc : w.cell? ⟨pa, 0, none⟩ = some (.int .i64 1)) :
    Calls Tryz.prog 105 #[insA op rd rs1 rs2 imm csr aq rl, .pointer (some ⟨pa, 0, none⟩)] w fun e w' => e = .returned (itoaV imm) ∧ Below w.heap.size w w' := by
  show Calls Tryz.prog 105 #[.agg #[.int .i64 op, .int .i64 rd, .int .i64 rs1, .int .i64 rs2, .int .i64 imm, .int .i64 csr, .bool aq, .bool rl], .pointer (some ⟨pa, 0, none⟩)] w _
  have hc2 := old_alloc w (.cells #[.int .i64 op, .int .i64 rd, .int .i64 rs1, .int .i64 rs2, .int .i64 imm, .int .i64 csr, .bool aq, .bool rl] 24) hc
  obtain ⟨c1, c2, c3, c4, c5⟩ := box8 w (.int .i64 op) (.int .i64 rd) (.int .i64 rs1) (.int .i64 rs2) (.int .i64 imm) (.int .i64 csr) (.bool aq) (.bool rl) 24
  have HB := Lib.hid ((Below.refl w.heap.size w).alloc (Nat.le_refl _) (.cells #[.int .i64 op, .int .i64 rd, .int .i64 rs1, .int .i64 rs2, .int .i64 imm, .int .i64 csr, .bool aq, .bool rl] 24))
  have HT := Lib.hid (Lib.tabBelow_of_tabIs ht)
  have hq : wrap64 imm = imm := by
    have h := hf
    unfold Fit at h
    unfold wrap64
    omega
  have K := fun W0 => Tryz.strconv_FormatInt_10 imm (by rw [← hq]; unfold wrap64; omega) (by rw [← hq]; unfold wrap64; omega) W0
  clear hc ht
  go_enter Tryz.func105, Tryz.ntmps105
  go_wp2_with fail
  generalize (w.alloc (.cells #[.int .i64 op, .int .i64 rd, .int .i64 rs1, .int .i64 rs2, .int .i64 imm, .int .i64 csr, .bool aq, .bool rl] 24)) = W at *
  have hT1 := HT.out W HB.out
  refine (K _ hT1).mono ?_
  rintro e w2 ⟨rfl, k, os, hw2⟩
  have HB2 := Lib.hid (show Below w.heap.size w w2 by
    rw [hw2]
    exact HB.out.trans (Lib.below_grow _ _ HB.out.size k os))
  clear hw2
  go_wp2_with fail
  go_ret
  exact ⟨rfl, HB2.out⟩
set_option maxHeartbeats 1000000 in
theorem immText_4096 (op rd rs1 rs2 imm csr : Int) (aq rl : Bool) (pa : Nat) (w : World) (ht : PowAt w) (hf : Fit imm) (hc : w.cell? ⟨pa, 0, none⟩ = some (.int .i64 4096)) :
    Calls Tryz.prog 105 #[insA op rd rs1 rs2 imm csr aq rl, .pointer (some ⟨pa, 0, none⟩)] w fun e w' => e = .returned (itoaV (imm.tdiv 4096)) ∧ Below w.heap.size w w' := by
  show Calls Tryz.prog 105 #[.agg #[.int .i64 op, .int .i64 rd, .int .i64 rs1, .int .i64 rs2, .int .i64 imm, .int .i64 csr, .bool aq, .bool rl], .pointer (some ⟨pa, 0, none⟩)] w _
  have hc2 := old_alloc w (.cells #[.int .i64 op, .int .i64 rd, .int .i64 rs1, .int .i64 rs2, .int .i64 imm, .int .i64 csr, .bool aq, .bool rl] 24) hc
  obtain ⟨c1, c2, c3, c4, c5⟩ := box8 w (.int .i64 op) (.int .i64 rd) (.int .i64 rs1) (.int .i64 rs2) (.int .i64 imm) (.int .i64 csr) (.bool aq) (.bool rl) 24
  have HB := Lib.hid ((Below.refl w.heap.size w).alloc (Nat.le_refl _) (.cells #[.int .i64 op, .int .i64 rd, .int .i64 rs1, .int .i64 rs2, .int .i64 imm, .int .i64 csr, .bool aq, .bool rl] 24))
  have HT := Lib.hid (Lib.tabBelow_of_tabIs ht)
  have hq : wrap64 (imm.tdiv 4096) = imm.tdiv 4096 := by
    have h := hf
    unfold Fit at h
    unfold wrap64
    rcases Int.le_total 0 imm with h0 | h0
    · rw [Int.tdiv_eq_ediv_of_nonneg h0]; omega
    · have e : imm.tdiv 4096 = -((-imm) / 4096) := by
        rw [← Int.tdiv_eq_ediv_of_nonneg (by omega), Int.neg_tdiv, Int.neg_neg]
      rw [e]; omega
  have K := fun W0 => Tryz.strconv_FormatInt_10 (imm.tdiv 4096) (by rw [← hq]; unfold wrap64; omega) (by rw [← hq]; unfold wrap64; omega) W0
  clear hc ht
  go_enter Tryz.func105, Tryz.ntmps105
  go_wp2_with fail
  generalize (w.alloc (.cells #[.int .i64 op, .int .i64 rd, .int .i64 rs1, .int .i64 rs2, .int .i64 imm, .int .i64 csr, .bool aq, .bool rl] 24)) = W at *
  have hT1 := HT.out W HB.out
  refine (K _ hT1).mono ?_
  rintro e w2 ⟨rfl, k, os, hw2⟩
  have HB2 := Lib.hid (show Below w.heap.size w w2 by
    rw [hw2]
    exact HB.out.trans (Lib.below_grow _ _ HB.out.size k os))
  clear hw2
  go_wp2_with fail
  go_ret
  exact ⟨rfl, HB2.out⟩
end Go.Proofs.YthehcplogkgkeaaGreatDoor
