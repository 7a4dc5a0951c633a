/-
  Contracts of asm.must, asm.split (layer 6), their panics told as ends, and of asm.readNumber. Contracts of asm's operands (layer 6), the part that reads: the closures of register, plain and immediate store into the instruction, or panic. Contracts of asm.immediate's closure that reads, and of asm.hasOrder (layer 6). The contract of asm.readName (layer 6). Contracts of the closure that asm.Parse defers (layer 6): behind a panic, and behind a return. What an operand reads into an instruction (layer 6): the closures' contracts as one. The contract of asm.Parse (layer 6), begun. The contract of asm.Parse (layer 6), its name.
-/
import Derived.Test.YthehcplogkgkeaaGreatDoorQr
import Derived.Test.YthehcplogkgkeaaGreatDoorQm
import Derived.IntWalk
import Derived.Deep.RegionHeld3
import Derived.Defers
import Derived.Recover
set_option maxRecDepth 4000
namespace Go.Proofs.YthehcplogkgkeaaGreatDoor
open Go.ChangeShapes Go.WideShapes Go.ChangeAt Go.RowKit Wd Num

/-- A panic with an error's number. -/
abbrev errEnd (e : Int) : Ending := .panicked [{ v := .iface 26 (.int .i64 e), recovered := false }]
theorem must_yes (e : Int) (w : World) : Calls Tryz.prog 34 #[.bool true, .int .i64 e] w fun r w' => r = .returned (.tuple #[]) ∧ w = w' := by
  go_enter Tryz.func34, Tryz.ntmps34
  go_wp2
  go_end0
  exact ⟨rfl, rfl⟩
theorem must_no (e : Int) (w : World) : Calls Tryz.prog 34 #[.bool false, .int .i64 e] w fun r w' => r = errEnd e ∧ w = w' := by
  go_enter Tryz.func34, Tryz.ntmps34
  go_wp2
  exact ⟨rfl, rfl, rfl⟩
theorem must_c (b : Bool) (e : Int) (w : World) : Calls Tryz.prog 34 #[.bool b, .int .i64 e] w fun r w' => r = (if b then .returned (.tuple #[]) else errEnd e) ∧ w = w' := by
  cases b
  · exact must_no e w
  · exact must_yes e w
theorem split_long (l : ByteArray) (w : World) (h : 200 < l.size) (h2 : l.size < 4294967281) : Calls Tryz.prog 32 #[.string l] w fun r w' => r = errEnd 4 ∧ w = w' := by
  have e1 : decide ((l.size : Int) ≤ 200) = false := decide_eq_false (by omega)
  go_enter Tryz.func32, Tryz.ntmps32
  go_wp2_with (go_at_call 34; refine (must_no _ _).mono ?_; rintro e w' ⟨rfl, rfl⟩)
  exact ⟨rfl, rfl, rfl⟩
theorem split_empty (w : World) : Calls Tryz.prog 32 #[.string ⟨#[]⟩] w fun r w' => r = errEnd 5 ∧ w = w' := by
  go_enter Tryz.func32, Tryz.ntmps32
  go_wp2_with fail
  refine (must_yes _ _).mono ?_
  rintro e w' ⟨rfl, rfl⟩
  go_wp2_with fail
  refine (must_no _ _).mono ?_
  rintro e w' ⟨rfl, rfl⟩
  go_wp2_with fail
  exact ⟨rfl, rfl, rfl⟩
/-- A line's words. -/
def wordsB (l : ByteArray) : List ByteArray := Lib.splitB ⟨#[32]⟩ 0 (Lib.countB l ⟨#[32]⟩) l
def wordsObj (l : ByteArray) : Obj := .cells ((wordsB l).map Value.string).toArray 9
theorem words_cell (l : ByteArray) (w : World) (j : Nat) (h : j < (wordsB l).length) : (w.alloc (wordsObj l)).cell? ⟨w.heap.size, j, none⟩ = some (.string ((wordsB l).getD j ByteArray.empty)) := by
  rw [wordsObj, cell_of_row _ w.heap.size j _ 9 (0, 0) (heap_alloc_new w _), List.getElem?_toArray]
  simp [List.getD, h]
set_option maxHeartbeats 2000000 in
theorem split_gen (l : ByteArray) (w : World) (n : Nat) (c : Bool) (o : Obj) (e1 : decide ((l.size : Int) ≤ 200) = true) (e2 : l.toList.isEmpty = false)
    (hs : Calls Tryz.prog 71 #[.string l, .string ⟨#[32]⟩] w fun e w' => e = .returned (.slice (some ⟨w.heap.size, 0, none⟩) n n) ∧ w' = w.alloc o)
    (hc : Calls Tryz.prog 72 #[.slice (some ⟨w.heap.size, 0, none⟩) n n, .string ⟨#[]⟩] (w.alloc o) fun e w' => e = .returned (.bool c) ∧ w' = w.alloc o) :
    Calls Tryz.prog 32 #[.string l] w fun r w' => r = (if c then errEnd 2 else .returned (.slice (some ⟨w.heap.size, 0, none⟩) n n)) ∧ w' = w.alloc o := by
  have HS := Lib.hid hs
  have HC := Lib.hid hc
  clear hs hc
  go_enter Tryz.func32, Tryz.ntmps32
  go_wp2_with fail
  refine (must_yes _ _).mono ?_
  rintro e w' ⟨rfl, rfl⟩
  go_wp2_with fail
  refine (must_yes _ _).mono ?_
  rintro e w' ⟨rfl, rfl⟩
  go_wp2_with fail
  refine HS.out.mono ?_
  rintro e w' ⟨rfl, rfl⟩
  go_wp2_with fail
  refine HC.out.mono ?_
  rintro e w' ⟨rfl, rfl⟩
  cases c
  · go_wp2_with fail
    refine (must_yes _ _).mono ?_
    rintro e w' ⟨rfl, rfl⟩
    go_wp2_with fail
    go_ret
    exact ⟨rfl, rfl⟩
  · go_wp2_with fail
    refine (must_no _ _).mono ?_
    rintro e w' ⟨rfl, rfl⟩
    go_wp2_with fail
    exact ⟨rfl, rfl, rfl⟩
theorem split_some (l : ByteArray) (m : Int) (w : World) (h0 : 0 < l.size) (h : l.size ≤ 200) (hm : w.cell? ⟨7, 0, none⟩ = some (.int .i64 m)) (hn : (wordsB l).length = Lib.countB l ⟨#[32]⟩ + 1) (hn2 : (wordsB l).length ≤ 300) :
    Calls Tryz.prog 32 #[.string l] w fun r w' => r = (if Lib.containsS (wordsB l) ⟨#[]⟩ then errEnd 2 else .returned (.slice (some ⟨w.heap.size, 0, none⟩) (wordsB l).length (wordsB l).length)) ∧ w' = w.alloc (wordsObj l) := by
  refine split_gen l w (wordsB l).length (Lib.containsS (wordsB l) ⟨#[]⟩) (wordsObj l) (decide_eq_true (by omega)) ?_ ?_ ?_
  · rw [ByteArray.toList_eq]
    have h3 : l.data.toList.length = l.size := by rw [Array.length_toList]; rfl
    cases hd : l.data.toList with
    | nil => rw [hd] at h3; simp at h3; omega
    | cons a r => rfl
  · rw [hn]
    exact Tryz.strings_Split l ⟨#[32]⟩ m w (by omega) hm (by decide)
  · have hh := Tryz.slices_Contains_string w.heap.size 0 (wordsB l).length (wordsB l).length (wordsB l) ⟨#[]⟩ (w.alloc (wordsObj l)) (Nat.le_refl _) (by omega) (fun j hj => by rw [Nat.zero_add]; exact words_cell l w j hj)
    rw [List.take_length] at hh
    exact hh
theorem words_len (l : ByteArray) : (wordsB l).length = Lib.countB l ⟨#[32]⟩ + 1 := Lib.splitB_all ⟨#[32]⟩ (by decide) 0 _ l rfl
/-- A number that a word is, held between the bounds. -/
def heldN (n : Int) : Int := max (-1073741824) (min n 1073741824)
set_option maxHeartbeats 1000000 in
theorem readNumber_no (l : List UInt8) (w : World) (tp tq : TypeId) (p q : Value)
    (hv1 : w.var? Tryz.prog "strconv.ErrSyntax" = some #[.iface tp p]) (hv2 : w.var? Tryz.prog "strconv.ErrRange" = some #[.iface tq q]) (ht : PowAt w) (h : Num.numP l = none) :
    Calls Tryz.prog 104 #[.string (bs6 l)] w fun r w' => r = errEnd 2 ∧ Below w.heap.size w w' := by
  have HN := Lib.hid (asmNumber_c l w tp tq p q hv1 hv2 ht)
  have HV := Lib.hid (show numV (Num.numP l) = .tuple #[.int .i64 0, .bool false] by rw [h]; rfl)
  clear hv1 hv2 ht
  go_enter Tryz.func104, Tryz.ntmps104
  go_wp2_with fail
  refine HN.out.mono ?_
  rintro e w1 ⟨rfl, hb⟩
  rw [HV.out]
  have HB := Lib.hid hb
  clear hb
  go_wp2_with fail
  refine (must_no _ _).mono ?_
  rintro e w' ⟨rfl, rfl⟩
  go_wp2_with fail
  exact ⟨rfl, rfl, HB.out⟩
set_option maxHeartbeats 1000000 in
theorem readNumber_yes (l : List UInt8) (n : Int) (w : World) (tp tq : TypeId) (p q : Value)
    (hv1 : w.var? Tryz.prog "strconv.ErrSyntax" = some #[.iface tp p]) (hv2 : w.var? Tryz.prog "strconv.ErrRange" = some #[.iface tq q]) (ht : PowAt w) (h : Num.numP l = some n) :
    Calls Tryz.prog 104 #[.string (bs6 l)] w fun r w' => r = .returned (.int .i64 (heldN n)) ∧ Below w.heap.size w w' := by
  have HN := Lib.hid (asmNumber_c l w tp tq p q hv1 hv2 ht)
  have HV := Lib.hid (show numV (Num.numP l) = .tuple #[.int .i64 n, .bool true] by rw [h]; rfl)
  clear hv1 hv2 ht
  go_enter Tryz.func104, Tryz.ntmps104
  go_wp2_with fail
  refine HN.out.mono ?_
  rintro e w1 ⟨rfl, hb⟩
  rw [HV.out]
  have HB := Lib.hid hb
  clear hb
  go_wp2_with fail
  refine (must_yes _ _).mono ?_
  rintro e w' ⟨rfl, rfl⟩
  go_wp2_with fail
  go_ret
  exact ⟨rfl, HB.out⟩
end Go.Proofs.YthehcplogkgkeaaGreatDoor
set_option maxRecDepth 4000
namespace Go.Proofs.YthehcplogkgkeaaGreatDoor
open Go.ChangeShapes Go.WideShapes Go.ChangeAt Go.RowKit Wd Num

/-- The two error values of strconv and the table of powers, as asm.Number reads them. -/
structure ErrsAt (w : World) : Prop where
  vars : ∃ tp p tq q, w.var? Tryz.prog "strconv.ErrSyntax" = some #[.iface tp p] ∧ w.var? Tryz.prog "strconv.ErrRange" = some #[.iface tq q]
  pow : PowAt w
theorem readNumber_c (l : List UInt8) (w : World) (he : ErrsAt w) : Calls Tryz.prog 104 #[.string (bs6 l)] w fun r w' => r = (match numP l with | some n => .returned (.int .i64 (heldN n)) | none => errEnd 2) ∧ Below w.heap.size w w' := by
  obtain ⟨⟨tp, p, tq, q, h1, h2⟩, ht⟩ := he
  cases h : numP l with
  | none => exact readNumber_no l w tp tq p q h1 h2 ht h
  | some n => exact readNumber_yes l n w tp tq p q h1 h2 ht h
theorem held_fit (n : Int) : -1073741824 ≤ heldN n ∧ heldN n ≤ 1073741824 := by unfold heldN; omega

set_option maxHeartbeats 1000000 in
theorem regRead_rd (s : ByteArray) (b pa k : Nat) (old : Value) (w : World) (hn : Rg.NamesAt w) (hk : Rg.findR s = some k) (hc : w.cell? ⟨pa, 0, none⟩ = some (.func (.func 61) #[] #[]))
    (ho : w.cell? ⟨b, 1, none⟩ = some old) (hz : w.frozen? ⟨b, 1, none⟩ = false) :
    Calls Tryz.prog 99 #[.pointer (some ⟨b, 0, none⟩), .string s, .pointer (some ⟨pa, 0, none⟩)] w fun r w' => r = .returned (.tuple #[]) ∧ w' = w.setCell ⟨b, 1, none⟩ (.int .i64 k) := by
  have HN := Lib.hid hn
  have HV := Lib.hid (show Rg.findV s = .tuple #[.int .i64 k, .bool true] by unfold Rg.findV; rw [hk])
  clear hn
  go_enter Tryz.func99, Tryz.ntmps99
  go_wp2_with fail
  refine (Rg.rfind_c _ _ HN.out).mono ?_
  rintro e w1 ⟨rfl, rfl⟩
  rw [HV.out]
  go_wp2_with fail
  refine (must_yes _ _).mono ?_
  rintro e w1 ⟨rfl, rfl⟩
  go_wp2_with fail
  refine (place_rd _ _).mono ?_
  rintro e w1 ⟨rfl, rfl⟩
  go_wp2_with fail
  go_end0
  exact ⟨rfl, rfl⟩
set_option maxHeartbeats 1000000 in
theorem regRead_rs1 (s : ByteArray) (b pa k : Nat) (old : Value) (w : World) (hn : Rg.NamesAt w) (hk : Rg.findR s = some k) (hc : w.cell? ⟨pa, 0, none⟩ = some (.func (.func 59) #[] #[]))
    (ho : w.cell? ⟨b, 2, none⟩ = some old) (hz : w.frozen? ⟨b, 2, none⟩ = false) :
    Calls Tryz.prog 99 #[.pointer (some ⟨b, 0, none⟩), .string s, .pointer (some ⟨pa, 0, none⟩)] w fun r w' => r = .returned (.tuple #[]) ∧ w' = w.setCell ⟨b, 2, none⟩ (.int .i64 k) := by
  have HN := Lib.hid hn
  have HV := Lib.hid (show Rg.findV s = .tuple #[.int .i64 k, .bool true] by unfold Rg.findV; rw [hk])
  clear hn
  go_enter Tryz.func99, Tryz.ntmps99
  go_wp2_with fail
  refine (Rg.rfind_c _ _ HN.out).mono ?_
  rintro e w1 ⟨rfl, rfl⟩
  rw [HV.out]
  go_wp2_with fail
  refine (must_yes _ _).mono ?_
  rintro e w1 ⟨rfl, rfl⟩
  go_wp2_with fail
  refine (place_rs1 _ _).mono ?_
  rintro e w1 ⟨rfl, rfl⟩
  go_wp2_with fail
  go_end0
  exact ⟨rfl, rfl⟩
set_option maxHeartbeats 1000000 in
theorem regRead_rs2 (s : ByteArray) (b pa k : Nat) (old : Value) (w : World) (hn : Rg.NamesAt w) (hk : Rg.findR s = some k) (hc : w.cell? ⟨pa, 0, none⟩ = some (.func (.func 62) #[] #[]))
    (ho : w.cell? ⟨b, 3, none⟩ = some old) (hz : w.frozen? ⟨b, 3, none⟩ = false) :
    Calls Tryz.prog 99 #[.pointer (some ⟨b, 0, none⟩), .string s, .pointer (some ⟨pa, 0, none⟩)] w fun r w' => r = .returned (.tuple #[]) ∧ w' = w.setCell ⟨b, 3, none⟩ (.int .i64 k) := by
  have HN := Lib.hid hn
  have HV := Lib.hid (show Rg.findV s = .tuple #[.int .i64 k, .bool true] by unfold Rg.findV; rw [hk])
  clear hn
  go_enter Tryz.func99, Tryz.ntmps99
  go_wp2_with fail
  refine (Rg.rfind_c _ _ HN.out).mono ?_
  rintro e w1 ⟨rfl, rfl⟩
  rw [HV.out]
  go_wp2_with fail
  refine (must_yes _ _).mono ?_
  rintro e w1 ⟨rfl, rfl⟩
  go_wp2_with fail
  refine (place_rs2 _ _).mono ?_
  rintro e w1 ⟨rfl, rfl⟩
  go_wp2_with fail
  go_end0
  exact ⟨rfl, rfl⟩
set_option maxHeartbeats 1000000 in
theorem regRead_no (s : ByteArray) (x y : Value) (w : World) (hn : Rg.NamesAt w) (hk : Rg.findR s = none) :
    Calls Tryz.prog 99 #[x, .string s, y] w fun r w' => r = errEnd 9 ∧ w = w' := by
  have HN := Lib.hid hn
  have HV := Lib.hid (show Rg.findV s = .tuple #[.int .i64 0, .bool false] by unfold Rg.findV; rw [hk])
  clear hn
  go_enter Tryz.func99, Tryz.ntmps99
  go_wp2_with fail
  refine (Rg.rfind_c _ _ HN.out).mono ?_
  rintro e w1 ⟨rfl, rfl⟩
  rw [HV.out]
  go_wp2_with fail
  refine (must_no _ _).mono ?_
  rintro e w1 ⟨rfl, rfl⟩
  go_wp2_with fail
  exact ⟨rfl, rfl, rfl⟩
set_option maxHeartbeats 1000000 in
theorem plainRead_csr (l : List UInt8) (b pa : Nat) (n : Int) (old : Value) (w : World) (he : ErrsAt w) (hk : numP l = some n) (hc : w.cell? ⟨pa, 0, none⟩ = some (.func (.func 64) #[] #[]))
    (ho : w.cell? ⟨b, 5, none⟩ = some old) (hz : w.frozen? ⟨b, 5, none⟩ = false) :
    Calls Tryz.prog 103 #[.pointer (some ⟨b, 0, none⟩), .string (bs6 l), .pointer (some ⟨pa, 0, none⟩)] w fun r w' => r = .returned (.tuple #[]) ∧ ∃ w1, Below w.heap.size w w1 ∧ w' = w1.setCell ⟨b, 5, none⟩ (.int .i64 (heldN n)) := by
  have HN := Lib.hid (show Calls Tryz.prog 104 #[.string (bs6 l)] w fun r w' => r = .returned (.int .i64 (heldN n)) ∧ Below w.heap.size w w' by
    have h := readNumber_c l w he
    rw [hk] at h
    exact h)
  have hb := lt_cell ho
  have HH := Lib.hid (held_fit n)
  clear he
  go_enter Tryz.func103, Tryz.ntmps103
  go_wp2_with fail
  refine (place_csr _ _).mono ?_
  rintro e w1 ⟨rfl, rfl⟩
  go_wp2_with fail
  refine HN.out.mono ?_
  rintro e w1 ⟨rfl, hb1⟩
  have HB := Lib.hid hb1
  have ho1 : w1.cell? ⟨b, 5, none⟩ = some old := (hb1.cell (p := ⟨b, 5, none⟩) hb).trans ho
  have hz1 : w1.frozen? ⟨b, 5, none⟩ = false := (hb1.frozen (p := ⟨b, 5, none⟩) hb).trans hz
  clear hb1
  go_wp2_with fail
  go_end0
  exact ⟨rfl, w1, HB.out, rfl⟩
set_option maxHeartbeats 1000000 in
theorem plainRead_csr_no (l : List UInt8) (b pa : Nat) (w : World) (he : ErrsAt w) (hk : numP l = none) (hc : w.cell? ⟨pa, 0, none⟩ = some (.func (.func 64) #[] #[])) :
    Calls Tryz.prog 103 #[.pointer (some ⟨b, 0, none⟩), .string (bs6 l), .pointer (some ⟨pa, 0, none⟩)] w fun r w' => r = errEnd 2 ∧ Below w.heap.size w w' := by
  have HN := Lib.hid (show Calls Tryz.prog 104 #[.string (bs6 l)] w fun r w' => r = errEnd 2 ∧ Below w.heap.size w w' by
    have h := readNumber_c l w he
    rw [hk] at h
    exact h)
  clear he
  go_enter Tryz.func103, Tryz.ntmps103
  go_wp2_with fail
  refine (place_csr _ _).mono ?_
  rintro e w1 ⟨rfl, rfl⟩
  go_wp2_with fail
  refine HN.out.mono ?_
  rintro e w1 ⟨rfl, hb1⟩
  have HB := Lib.hid hb1
  clear hb1
  go_wp2_with fail
  exact ⟨rfl, rfl, HB.out⟩
set_option maxHeartbeats 1000000 in
theorem plainRead_rs1 (l : List UInt8) (b pa : Nat) (n : Int) (old : Value) (w : World) (he : ErrsAt w) (hk : numP l = some n) (hc : w.cell? ⟨pa, 0, none⟩ = some (.func (.func 59) #[] #[]))
    (ho : w.cell? ⟨b, 2, none⟩ = some old) (hz : w.frozen? ⟨b, 2, none⟩ = false) :
    Calls Tryz.prog 103 #[.pointer (some ⟨b, 0, none⟩), .string (bs6 l), .pointer (some ⟨pa, 0, none⟩)] w fun r w' => r = .returned (.tuple #[]) ∧ ∃ w1, Below w.heap.size w w1 ∧ w' = w1.setCell ⟨b, 2, none⟩ (.int .i64 (heldN n)) := by
  have HN := Lib.hid (show Calls Tryz.prog 104 #[.string (bs6 l)] w fun r w' => r = .returned (.int .i64 (heldN n)) ∧ Below w.heap.size w w' by
    have h := readNumber_c l w he
    rw [hk] at h
    exact h)
  have hb := lt_cell ho
  have HH := Lib.hid (held_fit n)
  clear he
  go_enter Tryz.func103, Tryz.ntmps103
  go_wp2_with fail
  refine (place_rs1 _ _).mono ?_
  rintro e w1 ⟨rfl, rfl⟩
  go_wp2_with fail
  refine HN.out.mono ?_
  rintro e w1 ⟨rfl, hb1⟩
  have HB := Lib.hid hb1
  have ho1 : w1.cell? ⟨b, 2, none⟩ = some old := (hb1.cell (p := ⟨b, 2, none⟩) hb).trans ho
  have hz1 : w1.frozen? ⟨b, 2, none⟩ = false := (hb1.frozen (p := ⟨b, 2, none⟩) hb).trans hz
  clear hb1
  go_wp2_with fail
  go_end0
  exact ⟨rfl, w1, HB.out, rfl⟩
set_option maxHeartbeats 1000000 in
theorem plainRead_rs1_no (l : List UInt8) (b pa : Nat) (w : World) (he : ErrsAt w) (hk : numP l = none) (hc : w.cell? ⟨pa, 0, none⟩ = some (.func (.func 59) #[] #[])) :
    Calls Tryz.prog 103 #[.pointer (some ⟨b, 0, none⟩), .string (bs6 l), .pointer (some ⟨pa, 0, none⟩)] w fun r w' => r = errEnd 2 ∧ Below w.heap.size w w' := by
  have HN := Lib.hid (show Calls Tryz.prog 104 #[.string (bs6 l)] w fun r w' => r = errEnd 2 ∧ Below w.heap.size w w' by
    have h := readNumber_c l w he
    rw [hk] at h
    exact h)
  clear he
  go_enter Tryz.func103, Tryz.ntmps103
  go_wp2_with fail
  refine (place_rs1 _ _).mono ?_
  rintro e w1 ⟨rfl, rfl⟩
  go_wp2_with fail
  refine HN.out.mono ?_
  rintro e w1 ⟨rfl, hb1⟩
  have HB := Lib.hid hb1
  clear hb1
  go_wp2_with fail
  exact ⟨rfl, rfl, HB.out⟩
end Go.Proofs.YthehcplogkgkeaaGreatDoor
set_option maxRecDepth 4000
namespace Go.Proofs.YthehcplogkgkeaaGreatDoor
open Go.ChangeShapes Go.WideShapes Go.ChangeAt Go.RowKit Wd Num

theorem wpOp_callP {P : Program} {ops : Array Oper} {Q : Exit → Act → World → Prop} {i : Nat} {o : Oper} {a : Act} {w : World} {K : Act → World → Prop} (f : FuncId) (args : Array Value) (chain : List PanicEntry) (hi : ops[i]? = some o) (hw : Region.wanted o (yielded ops a.tmps) = true)
    (hr : (execOp a.eval o).run P w = .ok (.enter f args) w) (h : Calls P f args w fun e w'' => e = .panicked chain ∧ Q (.panic chain) a w'') : Go.wpOp P ops Q i K a w := by
  unfold Go.wpOp
  simp only [hi, hw, if_true]
  refine .inl ?_
  unfold Oper.wp
  rw [hr]
  simp only [Oper.upon]
  exact h.mono fun e w'' ⟨he, hk⟩ => by subst he; exact hk
theorem hasOrder_c (f : Int) (w : World) : Calls Tryz.prog 75 #[.int .i64 f] w fun e w' => e = .returned (.bool (f == 11 || f == 12)) ∧ w = w' := by
  cases h : (f == 11)
  · go_enter Tryz.func75, Tryz.ntmps75
    go_wp2
    go_ret
    exact ⟨rfl, rfl⟩
  · go_enter Tryz.func75, Tryz.ntmps75
    go_wp2
    go_ret
    exact ⟨rfl, rfl⟩
set_option maxHeartbeats 2000000 in
theorem immRead_1 (l : List UInt8) (b pa : Nat) (n : Int) (old : Value) (w : World) (he : ErrsAt w) (hk : numP l = some n) (hc : w.cell? ⟨pa, 0, none⟩ = some (.int .i64 1))
    (ho : w.cell? ⟨b, 4, none⟩ = some old) (hz : w.frozen? ⟨b, 4, none⟩ = false) :
    Calls Tryz.prog 106 #[.pointer (some ⟨b, 0, none⟩), .string (bs6 l), .pointer (some ⟨pa, 0, none⟩)] w fun r w' => r = .returned (.tuple #[]) ∧ ∃ w1, Below w.heap.size w w1 ∧ w' = w1.setCell ⟨b, 4, none⟩ (.int .i64 (heldN n)) := by
  have he2 : ErrsAt w.drew := ⟨he.vars, Lib.tabBelow_of_tabIs he.pow _ ((Below.refl _ _).drew)⟩
  have HN := Lib.hid (show Calls Tryz.prog 104 #[.string (bs6 l)] w.drew fun r w' => r = .returned (.int .i64 (heldN n)) ∧ Below w.heap.size w.drew w' by
    have h := readNumber_c l w.drew he2
    rw [hk] at h
    exact h)
  have hbo := lt_cell ho
  have hbc := lt_cell hc
  obtain ⟨h0, h1⟩ := held_fit n
  clear he he2
  generalize heldN n = H at *
  have hw : wrap64 (H) = H := by unfold wrap64; omega
  have hc' : w.drew.cell? ⟨pa, 0, none⟩ = some (.int .i64 1) := hc
  have ho' : w.drew.cell? ⟨b, 4, none⟩ = some old := ho
  have hz' : w.drew.frozen? ⟨b, 4, none⟩ = false := hz
  go_enter Tryz.func106, Tryz.ntmps106
  go_wp2_with fail
  go_region_with ((go_at_call 104; refine HN.out.mono ?_; rintro e w1 ⟨rfl, hb1⟩; have HB := Lib.hid (((Below.refl _ w).drew).trans hb1); have hc1 : w1.cell? ⟨pa, 0, none⟩ = some (.int .i64 1) := (hb1.cell (p := ⟨pa, 0, none⟩) hbc).trans hc; have ho1 : w1.cell? ⟨b, 4, none⟩ = some old := (hb1.cell (p := ⟨b, 4, none⟩) hbo).trans ho; have hz1 : w1.frozen? ⟨b, 4, none⟩ = false := (hb1.frozen (p := ⟨b, 4, none⟩) hbo).trans hz; clear hb1))
  all_goals
    go_wp2_with fail
    go_end0
    exact ⟨rfl, w1, HB.out, by rw [IntWalk.i64_left, hw]⟩
set_option maxHeartbeats 2000000 in
theorem immRead_1_no (l : List UInt8) (b pa : Nat) (w : World) (he : ErrsAt w) (hk : numP l = none) (hc : w.cell? ⟨pa, 0, none⟩ = some (.int .i64 1)) :
    Calls Tryz.prog 106 #[.pointer (some ⟨b, 0, none⟩), .string (bs6 l), .pointer (some ⟨pa, 0, none⟩)] w fun r w' => r = errEnd 2 ∧ Below w.heap.size w w' := by
  have he2 : ErrsAt w.drew := ⟨he.vars, Lib.tabBelow_of_tabIs he.pow _ ((Below.refl _ _).drew)⟩
  have HN := Lib.hid (show Calls Tryz.prog 104 #[.string (bs6 l)] w.drew fun r w' => r = errEnd 2 ∧ Below w.heap.size w.drew w' by
    have h := readNumber_c l w.drew he2
    rw [hk] at h
    exact h)
  clear he he2
  have hS0 : w.drew.cell? ⟨pa, 0, none⟩ = some (.int .i64 1) := hc
  go_enter Tryz.func106, Tryz.ntmps106
  go_wp2_with fail
  refine wp_region_held (S := fun W => W.cell? ⟨pa, 0, none⟩ = some (.int .i64 1)) (by kernel_rfl) ?_
  refine takeH (fuel := 7) (i := 0) (.pointer (some ⟨b, 0, none⟩)) ?_ rfl (by kernel_rfl) (by kernel_rfl) (by kernel_rfl) (fun _ _ _ h => h) (by kernel_rfl) (fun W hS => by have c0 := hS; go_simp) hS0 ?_ ?_
  rotate_left 1
  · go_simp
    exact rfl
  refine takeH (fuel := 6) (i := 1) (.string (bs6 l)) ?_ rfl (by kernel_rfl) (by kernel_rfl) (by kernel_rfl) (fun _ _ _ h => h) (by kernel_rfl) (fun W hS => by have c0 := hS; go_simp) hS0 ?_ ?_
  rotate_left 1
  · go_simp
    exact rfl
  refine takeH (fuel := 5) (i := 3) (.int .i64 1) ?_ rfl (by kernel_rfl) (by kernel_rfl) (by kernel_rfl) (fun _ _ _ h => h) (by kernel_rfl) (fun W hS => by have c0 := hS; go_simp) hS0 ?_ ?_
  rotate_left 1
  · go_simp
    exact rfl
  refine wpAnyH_all (fuel := 4) (rs := [2]) (by kernel_rfl) (by decide) ?_
  intro i hi
  simp only [List.mem_cons, List.not_mem_nil, or_false] at hi
  subst hi
  change Go.wpOp _ _ _ _ _ _ w.drew
  refine wpOp_callP 104 #[.string (bs6 l)] [{ v := .iface 26 (.int .i64 2), recovered := false }] rfl (by kernel_rfl) ?_ ?_
  · go_simp
  · refine HN.out.mono ?_
    rintro e w1 ⟨rfl, hb1⟩
    exact ⟨rfl, rfl, rfl, ((Below.refl _ w).drew).trans hb1⟩
set_option maxHeartbeats 2000000 in
theorem immRead_4096 (l : List UInt8) (b pa : Nat) (n : Int) (old : Value) (w : World) (he : ErrsAt w) (hk : numP l = some n) (hc : w.cell? ⟨pa, 0, none⟩ = some (.int .i64 4096))
    (ho : w.cell? ⟨b, 4, none⟩ = some old) (hz : w.frozen? ⟨b, 4, none⟩ = false) :
    Calls Tryz.prog 106 #[.pointer (some ⟨b, 0, none⟩), .string (bs6 l), .pointer (some ⟨pa, 0, none⟩)] w fun r w' => r = .returned (.tuple #[]) ∧ ∃ w1, Below w.heap.size w w1 ∧ w' = w1.setCell ⟨b, 4, none⟩ (.int .i64 (heldN n * 4096)) := by
  have he2 : ErrsAt w.drew := ⟨he.vars, Lib.tabBelow_of_tabIs he.pow _ ((Below.refl _ _).drew)⟩
  have HN := Lib.hid (show Calls Tryz.prog 104 #[.string (bs6 l)] w.drew fun r w' => r = .returned (.int .i64 (heldN n)) ∧ Below w.heap.size w.drew w' by
    have h := readNumber_c l w.drew he2
    rw [hk] at h
    exact h)
  have hbo := lt_cell ho
  have hbc := lt_cell hc
  obtain ⟨h0, h1⟩ := held_fit n
  clear he he2
  generalize heldN n = H at *
  have hw : wrap64 (H * 4096) = H * 4096 := by unfold wrap64; omega
  have hc' : w.drew.cell? ⟨pa, 0, none⟩ = some (.int .i64 4096) := hc
  have ho' : w.drew.cell? ⟨b, 4, none⟩ = some old := ho
  have hz' : w.drew.frozen? ⟨b, 4, none⟩ = false := hz
  go_enter Tryz.func106, Tryz.ntmps106
  go_wp2_with fail
  go_region_with ((go_at_call 104; refine HN.out.mono ?_; rintro e w1 ⟨rfl, hb1⟩; have HB := Lib.hid (((Below.refl _ w).drew).trans hb1); have hc1 : w1.cell? ⟨pa, 0, none⟩ = some (.int .i64 4096) := (hb1.cell (p := ⟨pa, 0, none⟩) hbc).trans hc; have ho1 : w1.cell? ⟨b, 4, none⟩ = some old := (hb1.cell (p := ⟨b, 4, none⟩) hbo).trans ho; have hz1 : w1.frozen? ⟨b, 4, none⟩ = false := (hb1.frozen (p := ⟨b, 4, none⟩) hbo).trans hz; clear hb1))
  all_goals
    go_wp2_with fail
    go_end0
    exact ⟨rfl, w1, HB.out, by rw [IntWalk.i64_left, hw]⟩
set_option maxHeartbeats 2000000 in
theorem immRead_4096_no (l : List UInt8) (b pa : Nat) (w : World) (he : ErrsAt w) (hk : numP l = none) (hc : w.cell? ⟨pa, 0, none⟩ = some (.int .i64 4096)) :
    Calls Tryz.prog 106 #[.pointer (some ⟨b, 0, none⟩), .string (bs6 l), .pointer (some ⟨pa, 0, none⟩)] w fun r w' => r = errEnd 2 ∧ Below w.heap.size w w' := by
  have he2 : ErrsAt w.drew := ⟨he.vars, Lib.tabBelow_of_tabIs he.pow _ ((Below.refl _ _).drew)⟩
  have HN := Lib.hid (show Calls Tryz.prog 104 #[.string (bs6 l)] w.drew fun r w' => r = errEnd 2 ∧ Below w.heap.size w.drew w' by
    have h := readNumber_c l w.drew he2
    rw [hk] at h
    exact h)
  clear he he2
  have hS0 : w.drew.cell? ⟨pa, 0, none⟩ = some (.int .i64 4096) := hc
  go_enter Tryz.func106, Tryz.ntmps106
  go_wp2_with fail
  refine wp_region_held (S := fun W => W.cell? ⟨pa, 0, none⟩ = some (.int .i64 4096)) (by kernel_rfl) ?_
  refine takeH (fuel := 7) (i := 0) (.pointer (some ⟨b, 0, none⟩)) ?_ rfl (by kernel_rfl) (by kernel_rfl) (by kernel_rfl) (fun _ _ _ h => h) (by kernel_rfl) (fun W hS => by have c0 := hS; go_simp) hS0 ?_ ?_
  rotate_left 1
  · go_simp
    exact rfl
  refine takeH (fuel := 6) (i := 1) (.string (bs6 l)) ?_ rfl (by kernel_rfl) (by kernel_rfl) (by kernel_rfl) (fun _ _ _ h => h) (by kernel_rfl) (fun W hS => by have c0 := hS; go_simp) hS0 ?_ ?_
  rotate_left 1
  · go_simp
    exact rfl
  refine takeH (fuel := 5) (i := 3) (.int .i64 4096) ?_ rfl (by kernel_rfl) (by kernel_rfl) (by kernel_rfl) (fun _ _ _ h => h) (by kernel_rfl) (fun W hS => by have c0 := hS; go_simp) hS0 ?_ ?_
  rotate_left 1
  · go_simp
    exact rfl
  refine wpAnyH_all (fuel := 4) (rs := [2]) (by kernel_rfl) (by decide) ?_
  intro i hi
  simp only [List.mem_cons, List.not_mem_nil, or_false] at hi
  subst hi
  change Go.wpOp _ _ _ _ _ _ w.drew
  refine wpOp_callP 104 #[.string (bs6 l)] [{ v := .iface 26 (.int .i64 2), recovered := false }] rfl (by kernel_rfl) ?_ ?_
  · go_simp
  · refine HN.out.mono ?_
    rintro e w1 ⟨rfl, hb1⟩
    exact ⟨rfl, rfl, rfl, ((Below.refl _ w).drew).trans hb1⟩
end Go.Proofs.YthehcplogkgkeaaGreatDoor
set_option maxRecDepth 4000
namespace Go.Proofs.YthehcplogkgkeaaGreatDoor
open Go.ChangeShapes Go.WideShapes Go.ChangeAt Go.RowKit Wd Num

def sufL (k : Nat) : List UInt8 := match k with | 0 => [] | 1 => [46, 97, 113] | 2 => [46, 114, 108] | _ => [46, 97, 113, 114, 108]
def cutN (s : ByteArray) (k : Nat) : Nat := findN ⟨(Lib.trimSuffix s.data.toList (sufL k)).toArray⟩
/-- Does a word name an op with the k-th order? -/
def hitK (s : ByteArray) (k : Nat) : Bool := Lib.hasSuffix s.data.toList (sufL k) && (cutN s k != 0) && (k == 0 || (((fmtN (cutN s k : Nat) : Nat) : Int) == 11 || ((fmtN (cutN s k : Nat) : Nat) : Int) == 12))
def hitE (s : ByteArray) (k : Nat) : Ending := .returned (.agg #[.int .i64 (cutN s k : Nat), .int .i64 0, .int .i64 0, .int .i64 0, .int .i64 0, .int .i64 0, .bool (k == 1 || k == 3), .bool (k == 2 || k == 3)])
def nameE (s : ByteArray) : Ending := if hitK s 0 then hitE s 0 else if hitK s 1 then hitE s 1 else if hitK s 2 then hitE s 2 else if hitK s 3 then hitE s 3 else errEnd 9
theorem info_ins : (Tryz.prog.info? 24).map (·.size) = some 8 := by kernel_rfl
theorem results_cell {P : Program} {fn : Func} {p : Tmp} {ty : TypeId} (h : fn.results = #[.cell p ty]) (tmps : Array Value) (w : World) (g : Nat) (tt : TypeId) (cs : Array Value) (d : TypeDesc)
    (hp : tmps.getD p undef = .pointer (some ⟨g, 0, none⟩)) (hg : w.heap[g]? = some (.cells cs tt (0, 0)))
    (hu : P.underlying ty = some d) (hd : (match d with | .struct _ | .array _ _ => true | _ => false) = true) (hi : (P.info? ty).map (·.size) = some cs.size) :
    (results fn tmps).run P w = .ok (.agg cs) w := by
  have hp' : tmps[p]?.getD undef = .pointer (some ⟨g, 0, none⟩) := by simpa using hp
  simp [results, h, hp', asAddr, run_loadVar_row w g tt ty cs (0, 0) d hg hu hd hi]

set_option maxHeartbeats 8000000 in
theorem readName_c (s : ByteArray) (w : World) (ho : OrdersAt w) (hs : s.size ≤ 1000) : Calls Tryz.prog 33 #[.string s] w fun r w' => r = nameE s ∧ Below w.heap.size w w' := by
  have HB0 := Lib.hid ((Below.refl w.heap.size w).alloc (Nat.le_refl _) (.cells #[.int .i64 0, .int .i64 0, .int .i64 0, .int .i64 0, .int .i64 0, .int .i64 0, .bool false, .bool false] 24))
  have HO := Lib.hid (ho.low HB0.out)
  have HG := Lib.hid (CsAt.new w 24 #[.int .i64 0, .int .i64 0, .int .i64 0, .int .i64 0, .int .i64 0, .int .i64 0, .bool false, .bool false])
  have o0 := HO.out.c0
  have o1 := HO.out.c1
  have o2 := HO.out.c2
  have o3 := HO.out.c3
  have o4 := HO.out.c4
  have o5 := HO.out.c5
  have o6 := HO.out.c6
  have o7 := HO.out.c7
  have o8 := HO.out.c8
  have o9 := HO.out.c9
  have o10 := HO.out.c10
  have o11 := HO.out.c11
  have HNE := Lib.hid (show nameE s = if hitK s 0 then hitE s 0 else if hitK s 1 then hitE s 1 else if hitK s 2 then hitE s 2 else if hitK s 3 then hitE s 3 else errEnd 9 from rfl)
  clear ho
  go_enter Tryz.func33, Tryz.ntmps33
  go_wp2_with fail
  generalize (w.alloc (.cells #[.int .i64 0, .int .i64 0, .int .i64 0, .int .i64 0, .int .i64 0, .int .i64 0, .bool false, .bool false] 24)) = W at *
  clear o0 o1 o2 o3 o4 o5 o6 o7 o8 o9 o10 o11
  go_loopw [10] (fun i wr => ∃ k : Nat, k ≤ 4 ∧ i = .int .i64 k ∧ (∀ j, j < k → hitK s j = false) ∧ Below W.heap.size W wr) (fun i _ => 4 - (intOf i).toNat)
  case atStart => exact ⟨0, by decide, rfl, fun j hj => absurd hj (by omega), Below.refl _ _⟩
  case round =>
    obtain ⟨k, hk, rfl, hno, hnx⟩ := hrel
    have HNO := Lib.hid hno
    have HN := Lib.hid hnx
    have HGr := Lib.hid (HG.out.low hnx)
    clear hno hnx
    have : k = 0 ∨ k = 1 ∨ k = 2 ∨ k = 3 ∨ k = 4 := by omega
    have x0 := ord_ix0
    have x1 := ord_ix1
    have x2 := ord_ix2
    have x3 := ord_ix3
    rcases this with rfl | rfl | rfl | rfl | rfl
    · have HA := Lib.hid ((Below.refl wr.heap.size wr).alloc (Nat.le_refl _) (.cells #[.string ⟨#[]⟩, .bool false, .bool false] 106))
      have HK := Lib.hid (show hitK s 0 = (Lib.hasSuffix s.data.toList (sufL 0) && (cutN s 0 != 0) && (0 == 0 || (((fmtN (cutN s 0 : Nat) : Nat) : Int) == 11 || ((fmtN (cutN s 0 : Nat) : Nat) : Int) == 12))) from rfl)
      have HC := Lib.hid (fun w' => (show Calls Tryz.prog 73 #[.string s, .string ⟨#[]⟩] w' fun e w'' => e = .returned (.tuple #[.string ⟨(Lib.trimSuffix s.data.toList (sufL 0)).toArray⟩, .bool (Lib.hasSuffix s.data.toList (sufL 0))]) ∧ w'' = w' from Tryz.strings_CutSuffix s ⟨#[]⟩ w' (by omega)))
      have HF := Lib.hid (fun w' => (show Calls Tryz.prog 74 #[.string ⟨(Lib.trimSuffix s.data.toList (sufL 0)).toArray⟩] w' fun e w'' => e = .returned (.tuple #[.int .i64 (cutN s 0 : Nat), .bool (cutN s 0 != 0)]) ∧ Below w'.heap.size w' w'' from find_c _ w'))
      generalize Lib.hasSuffix s.data.toList (sufL 0) = E at *
      generalize (⟨(Lib.trimSuffix s.data.toList (sufL 0)).toArray⟩ : ByteArray) = tr at *
      go_wp2_with fail
      refine (HC.out _).mono ?_
      rintro e w1 ⟨rfl, rfl⟩
      have HGa := Lib.hid (HGr.out.low HA.out)
      have HNa := Lib.hid (HN.out.trans (HA.out.mono HN.out.size))
      have c0 : (wr.alloc (.cells #[.string ⟨#[]⟩, .bool false, .bool false] 106)).cell? ⟨wr.heap.size, 0, none⟩ = some (.string ⟨#[]⟩) := by simp [go_sem]
      have c1 : (wr.alloc (.cells #[.string ⟨#[]⟩, .bool false, .bool false] 106)).cell? ⟨wr.heap.size, 1, none⟩ = some (.bool false) := by simp [go_sem]
      have c2 : (wr.alloc (.cells #[.string ⟨#[]⟩, .bool false, .bool false] 106)).cell? ⟨wr.heap.size, 2, none⟩ = some (.bool false) := by simp [go_sem]
      generalize (wr.alloc (.cells #[.string ⟨#[]⟩, .bool false, .bool false] 106)) = wa at *
      go_wp2_with fail
      refine (HF.out _).mono ?_
      rintro e w2 ⟨rfl, hb⟩
      have HG2 := Lib.hid (HGa.out.low hb)
      have HN2 := Lib.hid (HNa.out.trans (hb.mono HNa.out.size))
      have d0 := (hb.cell (p := ⟨wr.heap.size, 0, none⟩) (lt_cell c0)).trans c0
      have d1 := (hb.cell (p := ⟨wr.heap.size, 1, none⟩) (lt_cell c1)).trans c1
      have d2 := (hb.cell (p := ⟨wr.heap.size, 2, none⟩) (lt_cell c2)).trans c2
      clear hb c0 c1 c2
      generalize hF : (cutN s 0 != 0) = Fd at *
      cases E
      · go_wp2_with fail
        go_roundw
        case rel => exact ⟨1, by decide, rfl, fun j hj => (by rcases Nat.lt_succ_iff_lt_or_eq.1 hj with h | h; exact HNO.out j h; subst h; rw [HK.out]; rfl), HN2.out⟩
        case measure => simp [intOf]
      · cases Fd
        · go_wp2_with fail
          go_roundw
          case rel => exact ⟨1, by decide, rfl, fun j hj => (by rcases Nat.lt_succ_iff_lt_or_eq.1 hj with h | h; exact HNO.out j h; subst h; rw [HK.out]; rfl), HN2.out⟩
          case measure => simp [intOf]
        · have HKT := Lib.hid (show hitK s 0 = true by rw [HK.out]; rfl)
          have HH := Lib.hid (show nameE s = hitE s 0 by rw [HNE.out, HKT.out]; rfl)
          go_wp2_with (refine wpList_store_row rfl 24 _ _ rfl w.heap.size _ rfl rfl 24 _ HG2.out info_ins rfl (by simp [Value.oneCell']) ?_)
          refine bodyPost_ret (results_cell Tryz.results33 _ _ w.heap.size 24 _ _ rfl (CsAt.row HG2.out _) Tryz.underlying24 rfl info_ins) rfl ⟨?_, below_setRow (HB0.out.trans (HN2.out.mono HB0.out.size)) (Nat.le_refl _) _⟩
          rw [HH.out]
          rfl
    · have HA := Lib.hid ((Below.refl wr.heap.size wr).alloc (Nat.le_refl _) (.cells #[.string ⟨#[46, 97, 113]⟩, .bool true, .bool false] 106))
      have HK := Lib.hid (show hitK s 1 = (Lib.hasSuffix s.data.toList (sufL 1) && (cutN s 1 != 0) && (1 == 0 || (((fmtN (cutN s 1 : Nat) : Nat) : Int) == 11 || ((fmtN (cutN s 1 : Nat) : Nat) : Int) == 12))) from rfl)
      have HC := Lib.hid (fun w' => (show Calls Tryz.prog 73 #[.string s, .string ⟨#[46, 97, 113]⟩] w' fun e w'' => e = .returned (.tuple #[.string ⟨(Lib.trimSuffix s.data.toList (sufL 1)).toArray⟩, .bool (Lib.hasSuffix s.data.toList (sufL 1))]) ∧ w'' = w' from Tryz.strings_CutSuffix s ⟨#[46, 97, 113]⟩ w' (by omega)))
      have HF := Lib.hid (fun w' => (show Calls Tryz.prog 74 #[.string ⟨(Lib.trimSuffix s.data.toList (sufL 1)).toArray⟩] w' fun e w'' => e = .returned (.tuple #[.int .i64 (cutN s 1 : Nat), .bool (cutN s 1 != 0)]) ∧ Below w'.heap.size w' w'' from find_c _ w'))
      generalize Lib.hasSuffix s.data.toList (sufL 1) = E at *
      generalize (⟨(Lib.trimSuffix s.data.toList (sufL 1)).toArray⟩ : ByteArray) = tr at *
      go_wp2_with fail
      refine (HC.out _).mono ?_
      rintro e w1 ⟨rfl, rfl⟩
      have HGa := Lib.hid (HGr.out.low HA.out)
      have HNa := Lib.hid (HN.out.trans (HA.out.mono HN.out.size))
      have c0 : (wr.alloc (.cells #[.string ⟨#[46, 97, 113]⟩, .bool true, .bool false] 106)).cell? ⟨wr.heap.size, 0, none⟩ = some (.string ⟨#[46, 97, 113]⟩) := by simp [go_sem]
      have c1 : (wr.alloc (.cells #[.string ⟨#[46, 97, 113]⟩, .bool true, .bool false] 106)).cell? ⟨wr.heap.size, 1, none⟩ = some (.bool true) := by simp [go_sem]
      have c2 : (wr.alloc (.cells #[.string ⟨#[46, 97, 113]⟩, .bool true, .bool false] 106)).cell? ⟨wr.heap.size, 2, none⟩ = some (.bool false) := by simp [go_sem]
      generalize (wr.alloc (.cells #[.string ⟨#[46, 97, 113]⟩, .bool true, .bool false] 106)) = wa at *
      go_wp2_with fail
      refine (HF.out _).mono ?_
      rintro e w2 ⟨rfl, hb⟩
      have HG2 := Lib.hid (HGa.out.low hb)
      have HN2 := Lib.hid (HNa.out.trans (hb.mono HNa.out.size))
      have d0 := (hb.cell (p := ⟨wr.heap.size, 0, none⟩) (lt_cell c0)).trans c0
      have d1 := (hb.cell (p := ⟨wr.heap.size, 1, none⟩) (lt_cell c1)).trans c1
      have d2 := (hb.cell (p := ⟨wr.heap.size, 2, none⟩) (lt_cell c2)).trans c2
      clear hb c0 c1 c2
      generalize hF : (cutN s 1 != 0) = Fd at *
      cases E
      · go_wp2_with fail
        go_roundw
        case rel => exact ⟨2, by decide, rfl, fun j hj => (by rcases Nat.lt_succ_iff_lt_or_eq.1 hj with h | h; exact HNO.out j h; subst h; rw [HK.out]; rfl), HN2.out⟩
        case measure => simp [intOf]
      · cases Fd
        · go_wp2_with fail
          go_roundw
          case rel => exact ⟨2, by decide, rfl, fun j hj => (by rcases Nat.lt_succ_iff_lt_or_eq.1 hj with h | h; exact HNO.out j h; subst h; rw [HK.out]; rfl), HN2.out⟩
          case measure => simp [intOf]
        · go_wp2_with fail
          refine (formatOf_c _ _).mono ?_
          rintro e w3 ⟨rfl, hb⟩
          have HG3 := Lib.hid (HG2.out.low hb)
          have HN3 := Lib.hid (HN2.out.trans (hb.mono HN2.out.size))
          have e0 := (hb.cell (p := ⟨wr.heap.size, 0, none⟩) (lt_cell d0)).trans d0
          have e1 := (hb.cell (p := ⟨wr.heap.size, 1, none⟩) (lt_cell d1)).trans d1
          have e2 := (hb.cell (p := ⟨wr.heap.size, 2, none⟩) (lt_cell d2)).trans d2
          clear hb d0 d1 d2
          go_wp2_with fail
          refine (hasOrder_c _ _).mono ?_
          rintro e w4 ⟨rfl, rfl⟩
          generalize (((fmtN (cutN s 1 : Nat) : Nat) : Int) == 11 || ((fmtN (cutN s 1 : Nat) : Nat) : Int) == 12) = H at *
          cases H
          · go_wp2_with fail
            go_roundw
            case rel => exact ⟨2, by decide, rfl, fun j hj => (by rcases Nat.lt_succ_iff_lt_or_eq.1 hj with h | h; exact HNO.out j h; subst h; rw [HK.out]; rfl), HN3.out⟩
            case measure => simp [intOf]
          · have HKT := Lib.hid (show hitK s 1 = true by rw [HK.out]; rfl)
            have p0 := HNO.out 0 (by decide)
            have HH := Lib.hid (show nameE s = hitE s 1 by rw [HNE.out, p0, HKT.out]; rfl)
            go_wp2_with (refine wpList_store_row rfl 24 _ _ rfl w.heap.size _ rfl rfl 24 _ HG3.out info_ins rfl (by simp [Value.oneCell']) ?_)
            refine bodyPost_ret (results_cell Tryz.results33 _ _ w.heap.size 24 _ _ rfl (CsAt.row HG3.out _) Tryz.underlying24 rfl info_ins) rfl ⟨?_, below_setRow (HB0.out.trans (HN3.out.mono HB0.out.size)) (Nat.le_refl _) _⟩
            rw [HH.out]
            rfl
    · have HA := Lib.hid ((Below.refl wr.heap.size wr).alloc (Nat.le_refl _) (.cells #[.string ⟨#[46, 114, 108]⟩, .bool false, .bool true] 106))
      have HK := Lib.hid (show hitK s 2 = (Lib.hasSuffix s.data.toList (sufL 2) && (cutN s 2 != 0) && (2 == 0 || (((fmtN (cutN s 2 : Nat) : Nat) : Int) == 11 || ((fmtN (cutN s 2 : Nat) : Nat) : Int) == 12))) from rfl)
      have HC := Lib.hid (fun w' => (show Calls Tryz.prog 73 #[.string s, .string ⟨#[46, 114, 108]⟩] w' fun e w'' => e = .returned (.tuple #[.string ⟨(Lib.trimSuffix s.data.toList (sufL 2)).toArray⟩, .bool (Lib.hasSuffix s.data.toList (sufL 2))]) ∧ w'' = w' from Tryz.strings_CutSuffix s ⟨#[46, 114, 108]⟩ w' (by omega)))
      have HF := Lib.hid (fun w' => (show Calls Tryz.prog 74 #[.string ⟨(Lib.trimSuffix s.data.toList (sufL 2)).toArray⟩] w' fun e w'' => e = .returned (.tuple #[.int .i64 (cutN s 2 : Nat), .bool (cutN s 2 != 0)]) ∧ Below w'.heap.size w' w'' from find_c _ w'))
      generalize Lib.hasSuffix s.data.toList (sufL 2) = E at *
      generalize (⟨(Lib.trimSuffix s.data.toList (sufL 2)).toArray⟩ : ByteArray) = tr at *
      go_wp2_with fail
      refine (HC.out _).mono ?_
      rintro e w1 ⟨rfl, rfl⟩
      have HGa := Lib.hid (HGr.out.low HA.out)
      have HNa := Lib.hid (HN.out.trans (HA.out.mono HN.out.size))
      have c0 : (wr.alloc (.cells #[.string ⟨#[46, 114, 108]⟩, .bool false, .bool true] 106)).cell? ⟨wr.heap.size, 0, none⟩ = some (.string ⟨#[46, 114, 108]⟩) := by simp [go_sem]
      have c1 : (wr.alloc (.cells #[.string ⟨#[46, 114, 108]⟩, .bool false, .bool true] 106)).cell? ⟨wr.heap.size, 1, none⟩ = some (.bool false) := by simp [go_sem]
      have c2 : (wr.alloc (.cells #[.string ⟨#[46, 114, 108]⟩, .bool false, .bool true] 106)).cell? ⟨wr.heap.size, 2, none⟩ = some (.bool true) := by simp [go_sem]
      generalize (wr.alloc (.cells #[.string ⟨#[46, 114, 108]⟩, .bool false, .bool true] 106)) = wa at *
      go_wp2_with fail
      refine (HF.out _).mono ?_
      rintro e w2 ⟨rfl, hb⟩
      have HG2 := Lib.hid (HGa.out.low hb)
      have HN2 := Lib.hid (HNa.out.trans (hb.mono HNa.out.size))
      have d0 := (hb.cell (p := ⟨wr.heap.size, 0, none⟩) (lt_cell c0)).trans c0
      have d1 := (hb.cell (p := ⟨wr.heap.size, 1, none⟩) (lt_cell c1)).trans c1
      have d2 := (hb.cell (p := ⟨wr.heap.size, 2, none⟩) (lt_cell c2)).trans c2
      clear hb c0 c1 c2
      generalize hF : (cutN s 2 != 0) = Fd at *
      cases E
      · go_wp2_with fail
        go_roundw
        case rel => exact ⟨3, by decide, rfl, fun j hj => (by rcases Nat.lt_succ_iff_lt_or_eq.1 hj with h | h; exact HNO.out j h; subst h; rw [HK.out]; rfl), HN2.out⟩
        case measure => simp [intOf]
      · cases Fd
        · go_wp2_with fail
          go_roundw
          case rel => exact ⟨3, by decide, rfl, fun j hj => (by rcases Nat.lt_succ_iff_lt_or_eq.1 hj with h | h; exact HNO.out j h; subst h; rw [HK.out]; rfl), HN2.out⟩
          case measure => simp [intOf]
        · go_wp2_with fail
          refine (formatOf_c _ _).mono ?_
          rintro e w3 ⟨rfl, hb⟩
          have HG3 := Lib.hid (HG2.out.low hb)
          have HN3 := Lib.hid (HN2.out.trans (hb.mono HN2.out.size))
          have e0 := (hb.cell (p := ⟨wr.heap.size, 0, none⟩) (lt_cell d0)).trans d0
          have e1 := (hb.cell (p := ⟨wr.heap.size, 1, none⟩) (lt_cell d1)).trans d1
          have e2 := (hb.cell (p := ⟨wr.heap.size, 2, none⟩) (lt_cell d2)).trans d2
          clear hb d0 d1 d2
          go_wp2_with fail
          refine (hasOrder_c _ _).mono ?_
          rintro e w4 ⟨rfl, rfl⟩
          generalize (((fmtN (cutN s 2 : Nat) : Nat) : Int) == 11 || ((fmtN (cutN s 2 : Nat) : Nat) : Int) == 12) = H at *
          cases H
          · go_wp2_with fail
            go_roundw
            case rel => exact ⟨3, by decide, rfl, fun j hj => (by rcases Nat.lt_succ_iff_lt_or_eq.1 hj with h | h; exact HNO.out j h; subst h; rw [HK.out]; rfl), HN3.out⟩
            case measure => simp [intOf]
          · have HKT := Lib.hid (show hitK s 2 = true by rw [HK.out]; rfl)
            have p0 := HNO.out 0 (by decide)
            have p1 := HNO.out 1 (by decide)
            have HH := Lib.hid (show nameE s = hitE s 2 by rw [HNE.out, p0, p1, HKT.out]; rfl)
            go_wp2_with (refine wpList_store_row rfl 24 _ _ rfl w.heap.size _ rfl rfl 24 _ HG3.out info_ins rfl (by simp [Value.oneCell']) ?_)
            refine bodyPost_ret (results_cell Tryz.results33 _ _ w.heap.size 24 _ _ rfl (CsAt.row HG3.out _) Tryz.underlying24 rfl info_ins) rfl ⟨?_, below_setRow (HB0.out.trans (HN3.out.mono HB0.out.size)) (Nat.le_refl _) _⟩
            rw [HH.out]
            rfl
    · have HA := Lib.hid ((Below.refl wr.heap.size wr).alloc (Nat.le_refl _) (.cells #[.string ⟨#[46, 97, 113, 114, 108]⟩, .bool true, .bool true] 106))
      have HK := Lib.hid (show hitK s 3 = (Lib.hasSuffix s.data.toList (sufL 3) && (cutN s 3 != 0) && (3 == 0 || (((fmtN (cutN s 3 : Nat) : Nat) : Int) == 11 || ((fmtN (cutN s 3 : Nat) : Nat) : Int) == 12))) from rfl)
      have HC := Lib.hid (fun w' => (show Calls Tryz.prog 73 #[.string s, .string ⟨#[46, 97, 113, 114, 108]⟩] w' fun e w'' => e = .returned (.tuple #[.string ⟨(Lib.trimSuffix s.data.toList (sufL 3)).toArray⟩, .bool (Lib.hasSuffix s.data.toList (sufL 3))]) ∧ w'' = w' from Tryz.strings_CutSuffix s ⟨#[46, 97, 113, 114, 108]⟩ w' (by omega)))
      have HF := Lib.hid (fun w' => (show Calls Tryz.prog 74 #[.string ⟨(Lib.trimSuffix s.data.toList (sufL 3)).toArray⟩] w' fun e w'' => e = .returned (.tuple #[.int .i64 (cutN s 3 : Nat), .bool (cutN s 3 != 0)]) ∧ Below w'.heap.size w' w'' from find_c _ w'))
      generalize Lib.hasSuffix s.data.toList (sufL 3) = E at *
      generalize (⟨(Lib.trimSuffix s.data.toList (sufL 3)).toArray⟩ : ByteArray) = tr at *
      go_wp2_with fail
      refine (HC.out _).mono ?_
      rintro e w1 ⟨rfl, rfl⟩
      have HGa := Lib.hid (HGr.out.low HA.out)
      have HNa := Lib.hid (HN.out.trans (HA.out.mono HN.out.size))
      have c0 : (wr.alloc (.cells #[.string ⟨#[46, 97, 113, 114, 108]⟩, .bool true, .bool true] 106)).cell? ⟨wr.heap.size, 0, none⟩ = some (.string ⟨#[46, 97, 113, 114, 108]⟩) := by simp [go_sem]
      have c1 : (wr.alloc (.cells #[.string ⟨#[46, 97, 113, 114, 108]⟩, .bool true, .bool true] 106)).cell? ⟨wr.heap.size, 1, none⟩ = some (.bool true) := by simp [go_sem]
      have c2 : (wr.alloc (.cells #[.string ⟨#[46, 97, 113, 114, 108]⟩, .bool true, .bool true] 106)).cell? ⟨wr.heap.size, 2, none⟩ = some (.bool true) := by simp [go_sem]
      generalize (wr.alloc (.cells #[.string ⟨#[46, 97, 113, 114, 108]⟩, .bool true, .bool true] 106)) = wa at *
      go_wp2_with fail
      refine (HF.out _).mono ?_
      rintro e w2 ⟨rfl, hb⟩
      have HG2 := Lib.hid (HGa.out.low hb)
      have HN2 := Lib.hid (HNa.out.trans (hb.mono HNa.out.size))
      have d0 := (hb.cell (p := ⟨wr.heap.size, 0, none⟩) (lt_cell c0)).trans c0
      have d1 := (hb.cell (p := ⟨wr.heap.size, 1, none⟩) (lt_cell c1)).trans c1
      have d2 := (hb.cell (p := ⟨wr.heap.size, 2, none⟩) (lt_cell c2)).trans c2
      clear hb c0 c1 c2
      generalize hF : (cutN s 3 != 0) = Fd at *
      cases E
      · go_wp2_with fail
        go_roundw
        case rel => exact ⟨4, by decide, rfl, fun j hj => (by rcases Nat.lt_succ_iff_lt_or_eq.1 hj with h | h; exact HNO.out j h; subst h; rw [HK.out]; rfl), HN2.out⟩
        case measure => simp [intOf]
      · cases Fd
        · go_wp2_with fail
          go_roundw
          case rel => exact ⟨4, by decide, rfl, fun j hj => (by rcases Nat.lt_succ_iff_lt_or_eq.1 hj with h | h; exact HNO.out j h; subst h; rw [HK.out]; rfl), HN2.out⟩
          case measure => simp [intOf]
        · go_wp2_with fail
          refine (formatOf_c _ _).mono ?_
          rintro e w3 ⟨rfl, hb⟩
          have HG3 := Lib.hid (HG2.out.low hb)
          have HN3 := Lib.hid (HN2.out.trans (hb.mono HN2.out.size))
          have e0 := (hb.cell (p := ⟨wr.heap.size, 0, none⟩) (lt_cell d0)).trans d0
          have e1 := (hb.cell (p := ⟨wr.heap.size, 1, none⟩) (lt_cell d1)).trans d1
          have e2 := (hb.cell (p := ⟨wr.heap.size, 2, none⟩) (lt_cell d2)).trans d2
          clear hb d0 d1 d2
          go_wp2_with fail
          refine (hasOrder_c _ _).mono ?_
          rintro e w4 ⟨rfl, rfl⟩
          generalize (((fmtN (cutN s 3 : Nat) : Nat) : Int) == 11 || ((fmtN (cutN s 3 : Nat) : Nat) : Int) == 12) = H at *
          cases H
          · go_wp2_with fail
            go_roundw
            case rel => exact ⟨4, by decide, rfl, fun j hj => (by rcases Nat.lt_succ_iff_lt_or_eq.1 hj with h | h; exact HNO.out j h; subst h; rw [HK.out]; rfl), HN3.out⟩
            case measure => simp [intOf]
          · have HKT := Lib.hid (show hitK s 3 = true by rw [HK.out]; rfl)
            have p0 := HNO.out 0 (by decide)
            have p1 := HNO.out 1 (by decide)
            have p2 := HNO.out 2 (by decide)
            have HH := Lib.hid (show nameE s = hitE s 3 by rw [HNE.out, p0, p1, p2, HKT.out]; rfl)
            go_wp2_with (refine wpList_store_row rfl 24 _ _ rfl w.heap.size _ rfl rfl 24 _ HG3.out info_ins rfl (by simp [Value.oneCell']) ?_)
            refine bodyPost_ret (results_cell Tryz.results33 _ _ w.heap.size 24 _ _ rfl (CsAt.row HG3.out _) Tryz.underlying24 rfl info_ins) rfl ⟨?_, below_setRow (HB0.out.trans (HN3.out.mono HB0.out.size)) (Nat.le_refl _) _⟩
            rw [HH.out]
            rfl
    · have p0 := HNO.out 0 (by decide)
      have p1 := HNO.out 1 (by decide)
      have p2 := HNO.out 2 (by decide)
      have p3 := HNO.out 3 (by decide)
      have HH := Lib.hid (show nameE s = errEnd 9 by rw [HNE.out, p0, p1, p2, p3]; rfl)
      go_wp2_with fail
      exact ⟨rfl, by rw [HH.out], HB0.out.trans (HN.out.mono HB0.out.size)⟩
end Go.Proofs.YthehcplogkgkeaaGreatDoor
set_option maxRecDepth 4000
namespace Go.Proofs.YthehcplogkgkeaaGreatDoor
open Go.ChangeShapes Go.WideShapes Go.ChangeAt Go.RowKit Wd Num

theorem catch_idle (p q : Addr) (w : World) :
    CallsD Tryz.prog 31 #[.pointer (some p), .pointer (some q)] .returning w fun e u' w' => e = .returned (.tuple #[]) ∧ u' = .returning ∧ w' = w := by
  refine callsD_of_wpS Tryz.func31 rfl fun c₀ cs hu => ?_
  apply wpS_seq
  apply wpS_region
  simp [wpOpsS, go_sem, recoverD, hu, Tryz.ntmps31, Exit.thenS]
  refine wpS_of_wp ?_
  change Code.wp _ _ _ { tmps := #[.pointer (some p), .pointer (some q), .nilIface, .nilIface, undef, undef, undef, undef, undef], defers := [] } w
  go_wp2_with fail
  cases c₀
  simp_all [bodyPostS, results, Tryz.results31]
abbrev zeroI : Array Value := #[.int .i64 0, .int .i64 0, .int .i64 0, .int .i64 0, .int .i64 0, .int .i64 0, .bool false, .bool false]
theorem assert_err (t : TypeId) (e : Int) (W : World) : (Instr.typeAssert (.iface 26 (.int .i64 e)) t 26 false).run Tryz.prog W = .ok (.int .i64 e) W := by kernel_rfl
set_option maxHeartbeats 2000000 in
theorem catch_panics (b c : Nat) (e : Int) (older : List PanicEntry) (old : Array Value) (ov : Value) (w : World) (hb : CsAt w b 24 old) (hs : old.size = 8) (hc : w.cell? ⟨c, 0, none⟩ = some ov) (hz : w.frozen? ⟨c, 0, none⟩ = false) (hne : c ≠ b) :
    CallsD Tryz.prog 31 #[.pointer (some ⟨b, 0, none⟩), .pointer (some ⟨c, 0, none⟩)] (.panicking ({ v := .iface 26 (.int .i64 e), recovered := false } :: older)) w fun r u' w' =>
      r = .returned (.tuple #[]) ∧ u' = .panicking ({ v := .iface 26 (.int .i64 e), recovered := true } :: older) ∧ w' = (w.drew.setRow b zeroI).setCell ⟨c, 0, none⟩ (.int .i64 e) := by
  refine callsD_of_wpS Tryz.func31 rfl fun c₀ cs hu => ?_
  apply wpS_seq
  apply wpS_region
  simp [wpOpsS, go_sem, recoverD, hu, Tryz.ntmps31, Exit.thenS]
  refine wpS_of_wp ?_
  change Code.wp _ _ _ { tmps := #[.pointer (some ⟨b, 0, none⟩), .pointer (some ⟨c, 0, none⟩), .iface 26 (.int .i64 e), .iface 26 (.int .i64 e), undef, undef, undef, undef, undef], defers := [] } w
  go_wp2_with fail
  refine wp_region_held (S := fun _ => True) (by kernel_rfl) ?_
  refine takeH (fuel := 4) (i := 0) (.agg zeroI) ?_ rfl (by kernel_rfl) (by kernel_rfl) (by kernel_rfl) (fun _ _ _ h => h) (by kernel_rfl) (fun W hS => by go_simp) trivial ?_ ?_
  rotate_left 1
  · go_simp
    exact rfl
  refine takeH (fuel := 3) (i := 1) (.iface 26 (.int .i64 e)) ?_ rfl (by kernel_rfl) (by kernel_rfl) (by kernel_rfl) (fun _ _ _ h => h) (by kernel_rfl) (fun W hS => by go_simp) trivial ?_ ?_
  rotate_left 1
  · go_simp
    exact rfl
  refine takeH (fuel := 2) (i := 2) (.int .i64 e) ?_ rfl (by kernel_rfl) (by kernel_rfl) (by kernel_rfl) (fun _ _ _ h => h) (by kernel_rfl) (fun W hS => by have ta := fun t => assert_err t e; go_simp) trivial ?_ ?_
  rotate_left 1
  · go_simp
    exact rfl
  refine wpAnyH_all (fuel := 1) (rs := [3]) (by kernel_rfl) (by decide) ?_
  intro i hi
  obtain rfl : i = 3 := by simpa using hi
  change Go.wpOp _ _ _ _ _ _ w.drew
  have hb' : CsAt w.drew b 24 old := hb
  refine wpOp_unitB _ ?_ rfl (by kernel_rfl) (exec_store_row 24 (.tmp 0) (.tmp 6) rfl b zeroI (by kernel_rfl) (by kernel_rfl) 24 old hb' info_ins hs (by kernel_rfl)) ?_ ?_
  rotate_left 1
  · go_simp
    exact rfl
  refine ⟨trivial, ?_⟩
  refine wpAnyH_all (fuel := 0) (rs := [4]) (by kernel_rfl) (by decide) ?_
  intro i hi
  obtain rfl : i = 4 := by simpa using hi
  have hc' : (w.drew.setRow b zeroI).cell? ⟨c, 0, none⟩ = some ov := (cell_setRow_other _ _ _ ⟨c, 0, none⟩ hne).trans hc
  have hz' : (w.drew.setRow b zeroI).frozen? ⟨c, 0, none⟩ = false := by
    rw [← hz]
    simp only [World.frozen?, setRow_other w.drew b c zeroI hne]
    rfl
  generalize hWW : w.drew.setRow b zeroI = WW at *
  refine wpOp_unitB (WW.setCell ⟨c, 0, none⟩ (.int .i64 e)) ?_ rfl (by kernel_rfl) (by go_simp) ?_ ?_
  rotate_left 1
  · go_simp
    exact rfl
  refine ⟨trivial, ?_⟩
  refine wpAnyH_done (by kernel_rfl) ?_ _
  subst hWW
  change bodyPostS Tryz.prog Tryz.f31 c₀ cs _ _ _ _ _
  simp [bodyPostS, results, Tryz.results31]
end Go.Proofs.YthehcplogkgkeaaGreatDoor
set_option maxRecDepth 4000
namespace Go.Proofs.YthehcplogkgkeaaGreatDoor
open Go.ChangeShapes Go.WideShapes Go.ChangeAt Go.RowKit Wd Num

/-- An instruction's fields. -/
structure Fl where
  op : Int
  rd : Int
  rs1 : Int
  rs2 : Int
  imm : Int
  csr : Int
  aq : Bool
  rl : Bool
def flA (x : Fl) : Array Value := #[.int .i64 x.op, .int .i64 x.rd, .int .i64 x.rs1, .int .i64 x.rs2, .int .i64 x.imm, .int .i64 x.csr, .bool x.aq, .bool x.rl]
def stepK (k : Kd) (s : ByteArray) (x : Fl) : Except Int Fl :=
  match k with
  | .rd => match Rg.findR s with | some i => .ok { x with rd := i } | none => .error 9
  | .rs1 => match Rg.findR s with | some i => .ok { x with rs1 := i } | none => .error 9
  | .rs2 => match Rg.findR s with | some i => .ok { x with rs2 := i } | none => .error 9
  | .csr => match numP s.data.toList with | some n => .ok { x with csr := heldN n } | none => .error 2
  | .num => match numP s.data.toList with | some n => .ok { x with rs1 := heldN n } | none => .error 2
  | .imm => match numP s.data.toList with | some n => .ok { x with imm := heldN n } | none => .error 2
  | .up => match numP s.data.toList with | some n => .ok { x with imm := heldN n * 4096 } | none => .error 2
/-- No block but b is changed, beside new ones. -/
def Oth (b : Nat) (W W' : World) : Prop := W.heap.size ≤ W'.heap.size ∧ ∀ j, j < W.heap.size → j ≠ b → W'.heap[j]? = W.heap[j]?
/-- Behind a read: the instruction in block b, and all else as it was. -/
structure ReadTo (b : Nat) (W W' : World) (x : Fl) : Prop where
  ins : CsAt W' b 24 (flA x)
  oth : Oth b W W'
  low : ∀ B, B ≤ b → B ≤ W.heap.size → Below B W W'
theorem readTo_set {b f : Nat} {W W1 : World} {x y : Fl} {v : Value} (h : CsAt W b 24 (flA x)) (hb : Below W.heap.size W W1) (hf : (flA x).setIfInBounds f v = flA y) : ReadTo b W (W1.setCell ⟨b, f, none⟩ v) y := by
  have h1 := h.low hb
  refine ⟨?_, ⟨?_, ?_⟩, ?_⟩
  · rw [← hf]
    exact heap_setCell_same W1 b f _ _ v h1
  · exact Nat.le_trans hb.size (by simp [World.setCell])
  · intro j hj hne
    rw [heap_setCell_other W1 ⟨b, f, none⟩ j v hne]
    exact hb.block j hj
  · intro B hB hW
    exact (hb.mono hW).setCell (p := ⟨b, f, none⟩) hB v
theorem bs6_self (s : ByteArray) : bs6 s.data.toList = s := by
  unfold bs6
  rfl
theorem at_fl {b : Nat} {W : World} {x : Fl} (h : CsAt W b 24 (flA x)) (f : Nat) (v : Value) (hv : (flA x)[f]? = some v) : W.cell? ⟨b, f, none⟩ = some v ∧ W.frozen? ⟨b, f, none⟩ = false :=
  ⟨(h.cell f).trans hv, h.frozen f⟩
theorem readK_c (k : Kd) (s : ByteArray) (x : Fl) (b pa : Nat) (w : World) (hn : Rg.NamesAt w) (he : ErrsAt w) (hc : w.cell? ⟨pa, 0, none⟩ = some (opd k).2.2) (hx : CsAt w b 24 (flA x)) :
    Calls Tryz.prog (opd k).2.1 #[.pointer (some ⟨b, 0, none⟩), .string s, .pointer (some ⟨pa, 0, none⟩)] w fun r w' =>
      match stepK k s x with
      | .ok y => r = .returned (.tuple #[]) ∧ ReadTo b w w' y
      | .error e => r = errEnd e ∧ Below w.heap.size w w' := by
  have e6 := bs6_self s
  cases k
  · cases hk : Rg.findR s with
    | none => simp only [stepK, hk]; exact (regRead_no s _ _ w hn hk).mono fun _ _ ⟨a, c⟩ => ⟨a, c ▸ Below.refl _ _⟩
    | some i => simp only [stepK, hk]; exact (regRead_rd s b pa i _ w hn hk hc (at_fl hx 1 _ rfl).1 (at_fl hx 1 _ rfl).2).mono fun _ _ ⟨a, c⟩ => ⟨a, c ▸ readTo_set hx (Below.refl _ _) rfl⟩
  · cases hk : Rg.findR s with
    | none => simp only [stepK, hk]; exact (regRead_no s _ _ w hn hk).mono fun _ _ ⟨a, c⟩ => ⟨a, c ▸ Below.refl _ _⟩
    | some i => simp only [stepK, hk]; exact (regRead_rs1 s b pa i _ w hn hk hc (at_fl hx 2 _ rfl).1 (at_fl hx 2 _ rfl).2).mono fun _ _ ⟨a, c⟩ => ⟨a, c ▸ readTo_set hx (Below.refl _ _) rfl⟩
  · cases hk : Rg.findR s with
    | none => simp only [stepK, hk]; exact (regRead_no s _ _ w hn hk).mono fun _ _ ⟨a, c⟩ => ⟨a, c ▸ Below.refl _ _⟩
    | some i => simp only [stepK, hk]; exact (regRead_rs2 s b pa i _ w hn hk hc (at_fl hx 3 _ rfl).1 (at_fl hx 3 _ rfl).2).mono fun _ _ ⟨a, c⟩ => ⟨a, c ▸ readTo_set hx (Below.refl _ _) rfl⟩
  · cases hk : numP s.data.toList with
    | none => simp only [stepK, hk]; exact e6 ▸ plainRead_csr_no s.data.toList b pa w he hk hc
    | some n => simp only [stepK, hk]; exact (e6 ▸ plainRead_csr s.data.toList b pa n _ w he hk hc (at_fl hx 5 _ rfl).1 (at_fl hx 5 _ rfl).2).mono fun _ _ ⟨a, w1, c, d⟩ => ⟨a, d ▸ readTo_set hx c rfl⟩
  · cases hk : numP s.data.toList with
    | none => simp only [stepK, hk]; exact e6 ▸ plainRead_rs1_no s.data.toList b pa w he hk hc
    | some n => simp only [stepK, hk]; exact (e6 ▸ plainRead_rs1 s.data.toList b pa n _ w he hk hc (at_fl hx 2 _ rfl).1 (at_fl hx 2 _ rfl).2).mono fun _ _ ⟨a, w1, c, d⟩ => ⟨a, d ▸ readTo_set hx c rfl⟩
  · cases hk : numP s.data.toList with
    | none => simp only [stepK, hk]; exact e6 ▸ immRead_1_no s.data.toList b pa w he hk hc
    | some n => simp only [stepK, hk]; exact (e6 ▸ immRead_1 s.data.toList b pa n _ w he hk hc (at_fl hx 4 _ rfl).1 (at_fl hx 4 _ rfl).2).mono fun _ _ ⟨a, w1, c, d⟩ => ⟨a, d ▸ readTo_set hx c rfl⟩
  · cases hk : numP s.data.toList with
    | none => simp only [stepK, hk]; exact e6 ▸ immRead_4096_no s.data.toList b pa w he hk hc
    | some n => simp only [stepK, hk]; exact (e6 ▸ immRead_4096 s.data.toList b pa n _ w he hk hc (at_fl hx 4 _ rfl).1 (at_fl hx 4 _ rfl).2).mono fun _ _ ⟨a, w1, c, d⟩ => ⟨a, d ▸ readTo_set hx c rfl⟩
end Go.Proofs.YthehcplogkgkeaaGreatDoor
set_option maxRecDepth 4000
namespace Go.Proofs.YthehcplogkgkeaaGreatDoor
open Go.ChangeShapes Go.WideShapes Go.ChangeAt Go.RowKit Wd Num

theorem results_parse (tmps : Array Value) (w : World) (b c : Nat) (cs : Array Value) (n : Int) (h2 : tmps.getD 2 undef = .pointer (some ⟨b, 0, none⟩)) (h3 : tmps.getD 3 undef = .pointer (some ⟨c, 0, none⟩)) (hb : CsAt w b 24 cs) (hs : cs.size = 8) (hc : w.cell? ⟨c, 0, none⟩ = some (.int .i64 n)) :
    (results Tryz.f12 tmps).run Tryz.prog w = .ok (.tuple #[.agg cs, .int .i64 n]) w := by
  have h2' : tmps[2]?.getD undef = .pointer (some ⟨b, 0, none⟩) := by simpa using h2
  have h3' : tmps[3]?.getD undef = .pointer (some ⟨c, 0, none⟩) := by simpa using h3
  have hl := run_loadVar_row w b 24 24 cs (0, 0) _ hb Tryz.underlying24 rfl (hs ▸ info_ins)
  have hl2 : (loadVar 26 ⟨c, 0, none⟩).run Tryz.prog w = .ok (.int .i64 n) w := by simp [go_sem, hc]
  simp [results, Tryz.results12, h2', h3', asAddr, hl, hl2]
theorem parse_exit (e : Int) (tmps : Array Value) (b c B : Nat) (old : Array Value) (ov : Value) (w0 W : World) (h2 : tmps.getD 2 undef = .pointer (some ⟨b, 0, none⟩)) (h3 : tmps.getD 3 undef = .pointer (some ⟨c, 0, none⟩)) (hb : CsAt W b 24 old) (hs : old.size = 8)
    (hc : CsAt W c 26 #[ov]) (hne : c ≠ b) (hB : Below B w0 W) (hBb : B ≤ b) (hBc : B ≤ c) :
    bodyPostD Tryz.prog Tryz.f12 (fun r w' => r = .returned (.tuple #[.agg zeroI, .int .i64 e]) ∧ Below B w0 w') (Exit.panic [{ v := .iface 26 (.int .i64 e), recovered := false }])
      { tmps := tmps, defers := [{ target := Target.fn (Fn.func 31) #[.pointer (some ⟨b, 0, none⟩), .pointer (some ⟨c, 0, none⟩)], args := #[] }] } W := by
  refine leaves_cons (f := 31) (args := #[.pointer (some ⟨b, 0, none⟩), .pointer (some ⟨c, 0, none⟩)]) (by simp) (by simp [go_sem]) ?_
  refine (catch_panics b c e [] old ov W hb hs (hc.cell 0) (hc.frozen 0) hne).mono ?_
  rintro r u' w'' ⟨rfl, rfl, rfl⟩
  have hb1 : CsAt (W.drew.setRow b zeroI) b 24 zeroI := CsAt.row (show CsAt W.drew b 24 old from hb) zeroI
  have hb2 : CsAt ((W.drew.setRow b zeroI).setCell ⟨c, 0, none⟩ (.int .i64 e)) b 24 zeroI := (heap_setCell_other _ ⟨c, 0, none⟩ b _ (fun h => hne h.symm)).trans hb1
  have hc1 : CsAt (W.drew.setRow b zeroI) c 26 #[ov] := CsAt.rowFar (show CsAt W.drew c 26 #[ov] from hc) hne zeroI
  have hc2 : ((W.drew.setRow b zeroI).setCell ⟨c, 0, none⟩ (.int .i64 e)).cell? ⟨c, 0, none⟩ = some (.int .i64 e) := World.cell?_setCell_same' _ _ _ (by rw [hc1.cell 0]; rfl)
  have hr := results_parse tmps _ b c zeroI e h2 h3 hb2 rfl hc2
  have hB2 : Below B w0 ((W.drew.setRow b zeroI).setCell ⟨c, 0, none⟩ (.int .i64 e)) := (below_setRow hB.drew hBb zeroI).setCell (p := ⟨c, 0, none⟩) hBc _
  exact ⟨_, hr, rfl, hB2⟩
theorem two_new (w : World) : CsAt ((w.alloc (.cells zeroI 24)).alloc (.cells #[.int .i64 0] 26)) w.heap.size 24 zeroI ∧ CsAt ((w.alloc (.cells zeroI 24)).alloc (.cells #[.int .i64 0] 26)) (w.heap.size + 1) 26 #[.int .i64 0] ∧ Below w.heap.size w ((w.alloc (.cells zeroI 24)).alloc (.cells #[.int .i64 0] 26)) := by
  refine ⟨(CsAt.new w _ _).alloc _, ?_, ((Below.refl _ _).alloc (Nat.le_refl _) _).alloc (by simp) _⟩
  have h := CsAt.new (w.alloc (.cells zeroI 24)) 26 #[.int .i64 0]
  have e : (w.alloc (.cells zeroI 24)).heap.size = w.heap.size + 1 := by simp
  rw [e] at h
  exact h
set_option maxHeartbeats 2000000 in
theorem parse_long (l : ByteArray) (w : World) (h : 200 < l.size) (h2 : l.size < 4294967281) : Calls Tryz.prog 12 #[.string l] w fun r w' => r = .returned (.tuple #[.agg zeroI, .int .i64 4]) ∧ Below w.heap.size w w' := by
  have hmf : ∀ (fn : Fn) (first cap : Array Value) (w : World), (Instr.makeFunc fn first cap).run Tryz.prog w = .ok (.func fn first cap) w := fun _ _ _ _ => rfl
  go_enter_defers Tryz.func12, Tryz.ntmps12
  go_wp2_with fail
  refine (split_long l _ h h2).mono ?_
  rintro e w1 ⟨rfl, rfl⟩
  go_wp2_with fail
  obtain ⟨n1, n2, n3⟩ := two_new w
  exact parse_exit 4 _ w.heap.size (w.heap.size + 1) w.heap.size zeroI _ w _ rfl rfl n1 rfl n2 (by omega) n3 (Nat.le_refl _) (by omega)
set_option maxHeartbeats 2000000 in
theorem parse_empty (w : World) : Calls Tryz.prog 12 #[.string ⟨#[]⟩] w fun r w' => r = .returned (.tuple #[.agg zeroI, .int .i64 5]) ∧ Below w.heap.size w w' := by
  have hmf : ∀ (fn : Fn) (first cap : Array Value) (w : World), (Instr.makeFunc fn first cap).run Tryz.prog w = .ok (.func fn first cap) w := fun _ _ _ _ => rfl
  go_enter_defers Tryz.func12, Tryz.ntmps12
  go_wp2_with fail
  refine (split_empty _).mono ?_
  rintro e w1 ⟨rfl, rfl⟩
  go_wp2_with fail
  obtain ⟨n1, n2, n3⟩ := two_new w
  exact parse_exit 5 _ w.heap.size (w.heap.size + 1) w.heap.size zeroI _ w _ rfl rfl n1 rfl n2 (by omega) n3 (Nat.le_refl _) (by omega)
/-- What split asks of the world: bytealg.MaxLen is there. -/
def MaxAt (w : World) : Prop := ∃ m, w.cell? ⟨7, 0, none⟩ = some (.int .i64 m)
theorem MaxAt.low {w w' : World} (h : MaxAt w) (hb : Below w.heap.size w w') : MaxAt w' := by
  obtain ⟨m, hm⟩ := h
  exact ⟨m, (hb.cell (p := ⟨7, 0, none⟩) (lt_cell hm)).trans hm⟩
theorem split_gen2 (l : ByteArray) (w : World) (h0 : 0 < l.size) (h : l.size ≤ 200) (hm : MaxAt w) (n : Nat) (hn : (wordsB l).length = n) (hn2 : n ≤ 300) (c : Bool) (hcs : Lib.containsS (wordsB l) ⟨#[]⟩ = c) (o : Obj) (ho : wordsObj l = o) :
    Calls Tryz.prog 32 #[.string l] w fun r w' => r = (if c then errEnd 2 else .returned (.slice (some ⟨w.heap.size, 0, none⟩) n n)) ∧ w' = w.alloc o := by
  obtain ⟨m, hm⟩ := hm
  subst hn hcs ho
  exact split_some l m w h0 h hm (words_len l) hn2
set_option maxHeartbeats 2000000 in
theorem parse_blank (l : ByteArray) (w : World) (h0 : 0 < l.size) (h : l.size ≤ 200) (hm : MaxAt w) (hn2 : (wordsB l).length ≤ 300) (hcs : Lib.containsS (wordsB l) ⟨#[]⟩ = true) :
    Calls Tryz.prog 12 #[.string l] w fun r w' => r = .returned (.tuple #[.agg zeroI, .int .i64 2]) ∧ Below w.heap.size w w' := by
  obtain ⟨n1, n2, n3⟩ := two_new w
  obtain ⟨n, hn⟩ : ∃ n, (wordsB l).length = n := ⟨_, rfl⟩
  obtain ⟨o, ho⟩ : ∃ o, wordsObj l = o := ⟨_, rfl⟩
  have HS := Lib.hid (split_gen2 l _ h0 h (hm.low n3) n hn (hn ▸ hn2) true hcs o ho)
  have HN := Lib.hid (And.intro n1 (And.intro n2 n3))
  clear n1 n2 n3 hm hn2 hcs hn ho
  have hmf : ∀ (fn : Fn) (first cap : Array Value) (w : World), (Instr.makeFunc fn first cap).run Tryz.prog w = .ok (.func fn first cap) w := fun _ _ _ _ => rfl
  go_enter_defers Tryz.func12, Tryz.ntmps12
  go_wp2_with fail
  refine HS.out.mono ?_
  rintro e w1 ⟨rfl, rfl⟩
  simp only [if_true]
  go_wp2_with fail
  exact parse_exit 2 _ w.heap.size (w.heap.size + 1) w.heap.size zeroI _ w _ rfl rfl (HN.out.1.alloc _) rfl (HN.out.2.1.alloc _) (by omega) (HN.out.2.2.alloc HN.out.2.2.size _) (Nat.le_refl _) (by omega)
end Go.Proofs.YthehcplogkgkeaaGreatDoor
set_option maxRecDepth 4000
namespace Go.Proofs.YthehcplogkgkeaaGreatDoor
open Go.ChangeShapes Go.WideShapes Go.ChangeAt Go.RowKit Wd Num

/-- The world of Parse behind split: the results' cells, then the words. -/
def splitW (w : World) (o : Obj) : World := ((w.alloc (.cells zeroI 24)).alloc (.cells #[.int .i64 0] 26)).alloc o
theorem splitW_size (w : World) (o : Obj) : (splitW w o).heap.size = w.heap.size + 3 := by simp [splitW]
structure SplitAt (w : World) (l : ByteArray) (W : World) : Prop where
  ins : CsAt W w.heap.size 24 zeroI
  err : CsAt W (w.heap.size + 1) 26 #[.int .i64 0]
  words : ∀ j, j < (wordsB l).length → W.cell? ⟨w.heap.size + 2, j, none⟩ = some (.string ((wordsB l).getD j ByteArray.empty))
  low : Below w.heap.size w W
theorem splitAt_new (w : World) (l : ByteArray) : SplitAt w l (splitW w (wordsObj l)) := by
  obtain ⟨n1, n2, n3⟩ := two_new w
  refine ⟨n1.alloc _, n2.alloc _, fun j hj => ?_, n3.alloc n3.size _⟩
  have h := words_cell l ((w.alloc (.cells zeroI 24)).alloc (.cells #[.int .i64 0] 26)) j hj
  have e : ((w.alloc (.cells zeroI 24)).alloc (.cells #[.int .i64 0] 26)).heap.size = w.heap.size + 2 := by simp
  rw [e] at h
  exact h
set_option maxHeartbeats 2000000 in
theorem parse_noname (l s0 : ByteArray) (w : World) (h0 : 0 < l.size) (h : l.size ≤ 200) (hm : MaxAt w) (hor : OrdersAt w) (hn1 : 0 < (wordsB l).length) (hn2 : (wordsB l).length ≤ 300) (hcs : Lib.containsS (wordsB l) ⟨#[]⟩ = false)
    (hs0 : (wordsB l).getD 0 ByteArray.empty = s0) (hsz : s0.size ≤ 1000) (hnm : nameE s0 = errEnd 9) :
    Calls Tryz.prog 12 #[.string l] w fun r w' => r = .returned (.tuple #[.agg zeroI, .int .i64 9]) ∧ Below w.heap.size w w' := by
  obtain ⟨-, -, n3⟩ := two_new w
  have HA := Lib.hid (splitAt_new w l)
  have c0 := HA.out.words 0 hn1
  rw [hs0] at c0
  obtain ⟨n, hn⟩ : ∃ n, (wordsB l).length = n := ⟨_, rfl⟩
  rw [hn] at hn1 hn2
  have HS := Lib.hid (split_gen2 l _ h0 h (hm.low n3) n hn hn2 false hcs _ rfl)
  have HR := Lib.hid (fun w' (hb : Below w.heap.size w w') => (show Calls Tryz.prog 33 #[.string s0] w' fun r w'' => r = errEnd 9 ∧ Below w'.heap.size w' w'' by
    have hh := readName_c s0 w' (hor.low hb) hsz
    rw [hnm] at hh
    exact hh))
  clear n3 hm hcs hs0 hor hnm hn
  have hn1' : (0 : Int) < (n : Int) := by omega
  have hmf : ∀ (fn : Fn) (first cap : Array Value) (w : World), (Instr.makeFunc fn first cap).run Tryz.prog w = .ok (.func fn first cap) w := fun _ _ _ _ => rfl
  have HWE := Lib.hid (show ((w.alloc (.cells zeroI 24)).alloc (.cells #[.int .i64 0] 26)).alloc (wordsObj l) = splitW w (wordsObj l) from rfl)
  have HSZ := Lib.hid (show ((w.alloc (.cells zeroI 24)).alloc (.cells #[.int .i64 0] 26)).heap.size = w.heap.size + 2 by simp)
  generalize splitW w (wordsObj l) = W at *
  go_enter_defers Tryz.func12, Tryz.ntmps12
  go_wp2_with fail
  refine HS.out.mono ?_
  rintro e w1 ⟨rfl, rfl⟩
  simp only [Bool.false_eq_true, if_false]
  rw [HWE.out, HSZ.out]
  go_wp2_with fail
  refine (HR.out _ HA.out.low).mono ?_
  rintro e w2 ⟨rfl, hb⟩
  have HB2 := Lib.hid hb
  clear hb
  go_wp2_with fail
  exact parse_exit 9 _ w.heap.size (w.heap.size + 1) w.heap.size zeroI _ w _ rfl rfl (HA.out.ins.low HB2.out) rfl (HA.out.err.low HB2.out) (by omega) (HA.out.low.trans (HB2.out.mono HA.out.low.size)) (Nat.le_refl _) (by omega)
end Go.Proofs.YthehcplogkgkeaaGreatDoor
