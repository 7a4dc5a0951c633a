/-
  Contracts of strings.Builder's copyCheck, WriteString and WriteByte at this seat (layer 6's Listing). Contracts of strconv.FormatUint at base 10 and asm.wordLine (layer 6). Contracts of asm.wordLine and asm.Listing, and of the reference's Listing (layer 6).
-/
import Derived.Test.YthehcplogkgkeaaGreatDoorQo
import Derived.Test.YthehcplogkgkeaaGreatDoorQc
import Derived.Test.YthehcplogkgkeaaGreatDoorQm
import Derived.Shelf.Strings.Builder1
import Derived.Test.YthehcplogkgkeaaGreatDoorQu
import Derived.Test.YthehcplogkgkeaaGreatDoorQi
import Derived.Test.YthehcplogkgkeaaGreatDoorQx
import Derived.Test.YthehcplogkgkeaaGreatDoorSa
import Derived.Lib.AppendIntMem
import Derived.Lib.AtoiErrMem
import Derived.Test.YthehcplogkgkeaaGreatDoorSb
import Derived.Test.YthehcplogkgkeaaGreatDoorQw
import Derived.Test.YthehcplogkgkeaaGreatDoorRb
import Derived.Deep.DeepCutAuto
set_option maxRecDepth 4000
namespace Go.Proofs.YthehcplogkgkeaaGreatDoor
open Go.ChangeShapes Go.WideShapes Go.ChangeAt Go.RowKit

/-- A builder in block b that holds the bytes l. -/
def BldAt (B b : Nat) (l : List UInt8) (w : World) : Prop := Lib.IsBuilder 86 5 B b (Lib.byteCells l) w
theorem bld_size : (Tryz.prog.info? 86).map (·.size) = some 2 := by kernel_rfl
theorem bld_lies : liesAt Tryz.prog Tryz.prog.depth 86 (2 / Tryz.prog.cellsOf 86) 0 86 1 = true := by kernel_rfl
set_option maxHeartbeats 1000000 in
theorem check_fresh (b : Nat) (w : World) (h0 : w.cell? ⟨b, 0, none⟩ = some (.pointer none)) (hsh : w.shape? b = some (86, 2)) (hfz : w.frozen? ⟨b, 0, none⟩ = false) :
    Calls Tryz.prog 81 #[.pointer (some ⟨b, 0, none⟩)] w fun e w' => e = .returned (.tuple #[]) ∧ w' = w.setCell ⟨b, 0, none⟩ (.pointer (some ⟨b, 0, none⟩)) := by
  obtain ⟨j, hj, hjs⟩ := Option.map_eq_some_iff.1 bld_size
  go_enter Tryz.func81, Tryz.ntmps81
  go_wp2
  rw [Lib.run_to_unsafe w ⟨b, 0, none⟩ Tryz.underlying83 Tryz.underlying169 hj (by rw [hjs]; decide) hsh (Nat.zero_lt_succ 1)]
  simp only [Result.andThen]
  rw [Oper.upon_value]
  go_wp2
  rw [run_callFunc_extern Tryz.func122 (by kernel_rfl) (by kernel_rfl) (by kernel_rfl) (e := Extern.AbiNoEscape.same) (by kernel_rfl)]
  rw [Lib.run_noEscape]
  simp only [Result.andThen]
  rw [Oper.upon_value]
  go_wp2
  rw [Lib.run_from_unsafe w ⟨b, 0, none⟩ Tryz.underlying169 Tryz.underlying83 hj hsh bld_lies]
  simp only [Result.andThen]
  rw [Oper.upon_value]
  go_wp2
  go_end0
  exact ⟨rfl, rfl⟩
set_option maxHeartbeats 1000000 in
theorem check_used (b : Nat) (w : World) (h0 : w.cell? ⟨b, 0, none⟩ = some (.pointer (some ⟨b, 0, none⟩))) :
    Calls Tryz.prog 81 #[.pointer (some ⟨b, 0, none⟩)] w fun e w' => e = .returned (.tuple #[]) ∧ w' = w := by
  obtain ⟨j, hj, -⟩ := Option.map_eq_some_iff.1 bld_size
  go_enter Tryz.func81, Tryz.ntmps81
  go_wp2
  rw [Lib.run_neq_ptr_same w _ Tryz.underlying83 hj]
  go_wp2
  go_end0
  exact ⟨rfl, rfl⟩
theorem copyCheck_c (B b : Nat) (bs : List Value) (w : World) (h : Lib.IsBuilder 86 5 B b bs w) :
    Calls Tryz.prog 81 #[.pointer (some ⟨b, 0, none⟩)] w fun e w' => e = .returned (.tuple #[]) ∧ Lib.BuilderAt 86 5 B b (.pointer (some ⟨b, 0, none⟩)) bs w' ∧ Below B w w' := by
  rcases h with h | h
  · refine (check_fresh b w h.cell0 h.shape h.frozen0).mono fun e w' ⟨he, hw⟩ => ?_
    subst he hw
    exact ⟨rfl, h.used _, (Below.refl B w).setCell (p := ⟨b, 0, none⟩) h.1 _⟩
  · refine (check_used b w h.cell0).mono fun e w' ⟨he, hw⟩ => ?_
    subst he hw
    exact ⟨rfl, h, Below.refl B _⟩
theorem info_byte : (Tryz.prog.info? 5).map (fun i => (i.zero, i.size, i.bytes)) = some (some (.int .u8 0), 1, 1) := by kernel_rfl
theorem lt_heap {w : World} {b : Nat} {o : Obj} (h : w.heap[b]? = some o) : b < w.heap.size := by
  rcases Nat.lt_or_ge b w.heap.size with h' | h'
  · exact h'
  · simp [Array.getElem?_eq_none h'] at h
set_option maxHeartbeats 1000000 in
theorem writeS_c (B b : Nat) (bs : List Value) (s : ByteArray) (w : World) (h : Lib.IsBuilder 86 5 B b bs w) (hlen : bs.length + s.size ≤ 1000000) (hBw : B ≤ w.heap.size) :
    Calls Tryz.prog 43 #[.pointer (some ⟨b, 0, none⟩), .string s] w fun e w' => e = .returned (.tuple #[.int .i64 s.size, .nilIface]) ∧ Lib.IsBuilder 86 5 B b (bs ++ Lib.strCells s) w' ∧ Below B w w' := by
  obtain ⟨i0, hi, hz0, hz1, hz2⟩ := info_parts info_byte
  go_enter Tryz.func43, Tryz.ntmps43
  go_wp2_with fail
  refine (copyCheck_c B b bs _ h).mono ?_
  rintro e w1 ⟨rfl, ⟨hB, v, hbk, hown, hne⟩, hb1⟩
  have hsz := hb1.size
  have c0 : w1.cell? ⟨b, 0, none⟩ = some (.pointer (some ⟨b, 0, none⟩)) := by rw [Lib.cell_of_heap hbk]; rfl
  have c1 : w1.cell? ⟨b, 1, none⟩ = some v := by rw [Lib.cell_of_heap hbk]; rfl
  go_wp2_with (at_builtin; refine Lib.wpList_append_own_string _ rfl _ _ 84 9 rfl B 5 i0 Tryz.underlying84 Tryz.underlying9 hi hz0 hz1 hz2 _ _ _ rfl hown s rfl (by unfold maxLen; omega) (by omega) (by omega) ?_)
  intro v' w2 hown' hgrow _
  have hb2 : w2.heap[b]? = some (.cells #[.pointer (some ⟨b, 0, none⟩), v] 86 (0, 0)) := by
    rw [hgrow.block b (lt_heap hbk) (fun e => hne e.symm)]
    exact hbk
  have d0 : w2.cell? ⟨b, 0, none⟩ = some (.pointer (some ⟨b, 0, none⟩)) := by rw [Lib.cell_of_heap hb2]; rfl
  have d1 : w2.cell? ⟨b, 1, none⟩ = some v := by rw [Lib.cell_of_heap hb2]; rfl
  have f1 : w2.frozen? ⟨b, 1, none⟩ = false := Lib.frozen_of_heap hb2 1
  obtain ⟨ao, n', cap, rfl⟩ : ∃ ao n' cap, v' = .slice ao n' cap := by
    rcases hown'.2 with ⟨hv, _⟩ | ⟨g, cap, cur, hv, _⟩
    · exact ⟨_, _, _, hv⟩
    · exact ⟨_, _, _, hv⟩
  go_wp2
  go_ret2
  exact ⟨rfl, .inr (Lib.BuilderAt.put (T := 86) (e := 5) hB hb2 (bs' := bs ++ Lib.strCells s) (by simpa [Lib.strCells_length] using hown') (by decide)),
    (hb1.grown hgrow (by omega) (fun k hk => (hown.lt k hk).1)).setCell (p := ⟨b, 1, none⟩) hB _⟩
theorem one_cell_b (n : Int) : ∀ u ∈ [Value.int .u8 n], u.oneCell' = true := by
  intro u hu; simp at hu; subst hu; rfl
theorem news_b {w : World} {u : Value} {t : TypeId} : ∀ (j : Nat) (u' : Value), [u][j]? = some u' → (w.alloc (.cells #[u] t)).cell? ((⟨w.heap.size, 0, none⟩ : Addr).add j) = some u' := by
  intro j u' hj
  match j, hj with
  | 0, hj => simp at hj; subst hj; simp [Addr.add]
set_option maxHeartbeats 1000000 in
theorem writeB_c (B b : Nat) (bs : List Value) (c : Int) (w : World) (h : Lib.IsBuilder 86 5 B b bs w) (hlen : bs.length ≤ 1000000) (hBw : B ≤ w.heap.size) :
    Calls Tryz.prog 45 #[.pointer (some ⟨b, 0, none⟩), .int .u8 c] w fun e w' => e = .returned .nilIface ∧ Lib.IsBuilder 86 5 B b (bs ++ [.int .u8 c]) w' ∧ Below B w w' := by
  obtain ⟨i0, hi, hz0, hz1, hz2⟩ := info_parts info_byte
  go_enter Tryz.func45, Tryz.ntmps45
  go_wp2_with fail
  refine (copyCheck_c B b bs _ h).mono ?_
  rintro e w1 ⟨rfl, ⟨hB, v, hbk, hown, hne⟩, hb1⟩
  have hsz := hb1.size
  have c0 : w1.cell? ⟨b, 0, none⟩ = some (.pointer (some ⟨b, 0, none⟩)) := by rw [Lib.cell_of_heap hbk]; rfl
  have c1 : w1.cell? ⟨b, 1, none⟩ = some v := by rw [Lib.cell_of_heap hbk]; rfl
  have hlt := lt_heap hbk
  go_wp2_with (at_builtin; refine wpList_append_own _ rfl _ _ 84 rfl B 5 i0 (.int .u8 0) 1 1 Tryz.underlying84 hi hz0 hz1 hz2 rfl (by decide) _ _ _ rfl (hown.alloc _) ⟨w1.heap.size, 0, none⟩ 1 1 [.int .u8 c] rfl rfl news_b (one_cell_b _) (by unfold maxLen; omega) (by omega) (by simp; omega) ?_)
  intro v' w2 hown' hgrow _
  have hb2 : w2.heap[b]? = some (.cells #[.pointer (some ⟨b, 0, none⟩), v] 86 (0, 0)) := by
    rw [hgrow.block b (by simp; omega) (fun e => hne e.symm)]
    rw [((Below.refl w1.heap.size w1).alloc (Nat.le_refl _) _).block b hlt]
    exact hbk
  have d0 : w2.cell? ⟨b, 0, none⟩ = some (.pointer (some ⟨b, 0, none⟩)) := by rw [Lib.cell_of_heap hb2]; rfl
  have d1 : w2.cell? ⟨b, 1, none⟩ = some v := by rw [Lib.cell_of_heap hb2]; rfl
  have f1 : w2.frozen? ⟨b, 1, none⟩ = false := Lib.frozen_of_heap hb2 1
  obtain ⟨ao, n', cap, rfl⟩ : ∃ ao n' cap, v' = .slice ao n' cap := by
    rcases hown'.2 with ⟨hv, _⟩ | ⟨g, cap, cur, hv, _⟩
    · exact ⟨_, _, _, hv⟩
    · exact ⟨_, _, _, hv⟩
  go_wp2
  go_ret
  exact ⟨rfl, .inr (Lib.BuilderAt.put (T := 86) (e := 5) hB hb2 (bs' := bs ++ [.int .u8 c]) (by simpa using hown') (by decide)),
    ((hb1.alloc (by omega) _).grown hgrow (by simp; omega) (fun k hk => (hown.lt k hk).1)).setCell (p := ⟨b, 1, none⟩) hB _⟩
end Go.Proofs.YthehcplogkgkeaaGreatDoor
set_option maxRecDepth 4000
namespace Go.Proofs.YthehcplogkgkeaaGreatDoor
open Go.ChangeShapes Go.WideShapes Go.ChangeAt Go.RowKit Wd Num Go.Sort

set_option maxHeartbeats 1000000 in
theorem iFormatU_c (u : Nat) (h64 : u < 18446744073709551616) (w : World) (htab : PowAt w) :
    Calls Tryz.prog 125 #[.int .u64 u, .int .i64 10] w fun e w' => e = .returned (.string ⟨(Lib.decDigits u).toArray⟩) ∧ Below w.heap.size w w' := by
  have HT := Lib.hid htab
  clear htab
  by_cases hs : u < 100
  · have hs2 : (u : Int) < 100 := by omega
    go_enter Tryz.func125, Tryz.ntmps125
    go_wp2_with fail
    refine (Tryz.internal_strconv_small u hs _).mono ?_
    rintro e w1 ⟨rfl, rfl⟩
    go_wp2_with fail
    go_ret
    exact ⟨rfl, Below.refl _ _⟩
  · have hu1 : 1 ≤ u := by omega
    have hs2 : ¬ (u : Int) < 100 := by omega
    have hnd20 : Lib.nDigits u ≤ 20 := by have := Lib.numDigits_eq u hu1 h64; split at this <;> omega
    have hal : Tryz.prog.arrayLen 161 = 24 := by simp [Program.arrayLen, Tryz.underlying161]
    have HSL := Lib.hid (show ∀ W, (Instr.sliceAt 161 (.pointer (some ⟨w.heap.size, 0, none⟩)) none (some (.int .i64 (Lib.nDigits u : Int))) none).run Tryz.prog W = .ok (.slice (some ⟨w.heap.size, 0, none⟩) (Lib.nDigits u) 24) W from fun W => by
      rw [run_sliceAt_array_h W 161 ⟨w.heap.size, 0, none⟩ (by simp [Program.arrayLen, Program.elem, Tryz.underlying161]) .i64 (Lib.nDigits u : Int) (by omega) (by rw [hal]; omega)]
      go_simp)
    have HH0 := Lib.hid (Lib.holds_zero0 w 161 (Lib.nDigits u) (by omega))
    have hfmt := Tryz.internal_strconv_formatBase10 w.heap.size 0 24 u (Array.replicate (Lib.nDigits u) 0) (w.alloc (.cells Lib.zeros24 161)) HH0.out (by rw [Array.size_replicate]; exact Lib.lt_pow_nDigits u) h64 (by rw [Array.size_replicate]; omega)
    rw [Array.size_replicate] at hfmt
    have HF := Lib.hid hfmt
    have HND := Lib.hid (Tryz.internal_strconv_numDigits u hu1 h64 (w.alloc (.cells Lib.zeros24 161)) (Lib.tabIs_alloc HT.out _))
    clear hal hfmt hs
    go_enter Tryz.func125, Tryz.ntmps125
    go_wp2_with fail
    refine HND.out.mono ?_
    rintro e w1 ⟨rfl, rfl⟩
    have hsl := HSL.out
    go_wp2_with fail
    refine HF.out.mono ?_
    rintro e w2 ⟨rfl, k, v', dk, rfl, hF⟩
    have hcv : (convert 84 9 (.slice (some ⟨w.heap.size, 0, none⟩) (Lib.nDigits u) 24)).run Tryz.prog ((putRow (fun (b : UInt8) => Value.int .u8 (b.toNat : Int)) (w.alloc (.cells Lib.zeros24 161)) w.heap.size 0 dk).drewN k) = .ok (.string ⟨(Lib.decDigits u).toArray⟩) ((putRow (fun (b : UInt8) => Value.int .u8 (b.toNat : Int)) (w.alloc (.cells Lib.zeros24 161)) w.heap.size 0 dk).drewN k) := by
      have h := run_convert_bytes_back (P := Tryz.prog) ((putRow (fun (b : UInt8) => Value.int .u8 (b.toNat : Int)) (w.alloc (.cells Lib.zeros24 161)) w.heap.size 0 dk).drewN k) 84 9 5 ⟨w.heap.size, 0, none⟩ 24 (Lib.decDigits u) Tryz.underlying84 Tryz.underlying5 Tryz.underlying9 (fun j hj => by
        rw [Lib.row_is_numeral hF j hj, Lib.add_plain, World.cell?_drewN]
        exact cell?_putRow (fun (b : UInt8) => Value.int .u8 (b.toNat : Int)) _ w.heap.size 0 _ dk HH0.out (by rw [hF.size, Array.size_replicate]) j (by rw [hF.size]; rw [Lib.decDigits_length] at hj; exact hj))
      rw [Lib.decDigits_length] at h
      exact h
    go_wp2_with fail
    go_ret
    obtain ⟨os, eo⟩ := Lib.fin_at w (.cells Lib.zeros24 161) dk k 0
    refine ⟨rfl, ?_⟩
    rw [eo]
    exact Lib.below_grow _ _ (Nat.le_refl _) k os
theorem formatU_c (u : Nat) (h64 : u < 18446744073709551616) (w : World) (htab : PowAt w) :
    Calls Tryz.prog 83 #[.int .u64 u, .int .i64 10] w fun e w' => e = .returned (.string (bs6 (Lib.decDigits u))) ∧ Below w.heap.size w w' := by
  have HF := Lib.hid (show Calls Tryz.prog 125 #[.int .u64 u, .int .i64 10] w fun e w' => e = .returned (.string (bs6 (Lib.decDigits u))) ∧ Below w.heap.size w w' from iFormatU_c u h64 w htab)
  clear htab
  generalize bs6 (Lib.decDigits u) = S at *
  go_enter Tryz.func83, Tryz.ntmps83
  go_wp2_with fail
  refine HF.out.mono ?_
  rintro e w1 ⟨rfl, hb⟩
  go_wp2_with fail
  go_ret
  exact ⟨rfl, hb⟩
/-- The line of a word in a listing. -/
def lineW (X : Nat) : ByteArray :=
  match decN X with
  | some k => textS (k : Nat) (fieldS (fmtN (k : Nat)) 1 (X : Nat) 7 5) (fieldS (fmtN (k : Nat)) 2 (X : Nat) 15 5) (fieldS (fmtN (k : Nat)) 4 (X : Nat) 20 5) (immD (fmtN (k : Nat) : Nat) (X : Nat)) (fieldS (fmtN (k : Nat)) 8 (X : Nat) 20 12) (fieldS (fmtN (k : Nat)) 16 (X : Nat) 26 1 == 1) (fieldS (fmtN (k : Nat)) 16 (X : Nat) 25 1 == 1)
  | none => ⟨#[119, 111, 114, 100, 32]⟩ ++ bs6 (Lib.decDigits X)
/-- A word's two ways: no instruction; or one, whose line it is. -/
theorem line_cases (X : Nat) (hX : X < 4294967296) : (decV X = .tuple #[.agg zeroI, .bool false] ∧ lineW X = ⟨#[119, 111, 114, 100, 32]⟩ ++ bs6 (Lib.decDigits X)) ∨
    ∃ x : Fl, decV X = .tuple #[.agg (flA x), .bool true] ∧ checkF x = 0 ∧ FitI x.rd x.rs1 x.rs2 x.imm x.csr ∧ encI (fixV x.op) (layD (fmtN x.op : Nat) x.imm) x.rd x.rs1 x.rs2 x.csr x.aq x.rl = (X : Nat) ∧ lineW X = textS x.op x.rd x.rs1 x.rs2 x.imm x.csr x.aq x.rl := by
  unfold decV lineW
  cases h : decN X with
  | none => exact .inl ⟨rfl, rfl⟩
  | some k =>
    have hk := mem_opsTo.1 (List.mem_of_find?_eq_some h)
    have hc := chk_of_dec X k hk.1 hk.2
    have he := enc_of_dec X k hX hk.1 hk.2 (List.find?_some h)
    refine .inr ⟨⟨(k : Nat), fieldS (fmtN (k : Nat)) 1 (X : Nat) 7 5, fieldS (fmtN (k : Nat)) 2 (X : Nat) 15 5, fieldS (fmtN (k : Nat)) 4 (X : Nat) 20 5, immD (fmtN (k : Nat) : Nat) (X : Nat), fieldS (fmtN (k : Nat)) 8 (X : Nat) 20 12, fieldS (fmtN (k : Nat)) 16 (X : Nat) 26 1 == 1, fieldS (fmtN (k : Nat)) 16 (X : Nat) 25 1 == 1⟩, rfl, hc, ?_, he, rfl⟩
    obtain ⟨-, -, h1, h2, h3, h4⟩ := check_in hc
    have h5 := (check_imm hc).1
    constructor <;> (unfold Fit; simp only; omega)
end Go.Proofs.YthehcplogkgkeaaGreatDoor
set_option maxRecDepth 4000
namespace Go.Proofs.YthehcplogkgkeaaGreatDoor
open Go.ChangeShapes Go.WideShapes Go.ChangeAt Go.RowKit Wd Num

/-- What the functions on words ask of memory: all of layer 6's, and the table of the ops' fixed bits. -/
structure MemW (w : World) : Prop where
  m : Mem6 w
  v : VarsAt w
theorem MemW.low {w w' : World} (h : MemW w) (hb : Below w.heap.size w w') : MemW w' := ⟨h.m.low hb, h.v.low hb⟩
theorem dig_small (X : Nat) (hX : X < 4294967296) : (bs6 (Lib.decDigits X)).size ≤ 20 := by
  rw [bs6_size, Lib.decDigits_length]
  exact Lib.nDigits_le20 X (by omega)
theorem text_small {op rd rs1 rs2 imm csr : Int} {aq rl : Bool} (hf : FitI rd rs1 rs2 imm csr) : (textS op rd rs1 rs2 imm csr aq rl).size ≤ 120 := by
  unfold textS
  have h1 := lineK_size (nameB op ++ ordB aq rl) ((kdL (fmtN op)).map fun k => txtK k rd rs1 rs2 imm csr) (fun t ht => by
    simp only [List.mem_map] at ht
    obtain ⟨a, _, rfl⟩ := ht
    exact txtK_small a hf)
  have h2 := kdL_len (fmtN op)
  have h3 := ordB_size aq rl
  have h4 := nameB_size op
  rw [ByteArray.size_append, List.length_map] at h1
  omega
theorem lineW_small (X : Nat) (hX : X < 4294967296) : (lineW X).size ≤ 120 := by
  rcases line_cases X hX with ⟨-, h⟩ | ⟨x, -, -, hf, -, h⟩
  · rw [h, ByteArray.size_append]
    have := dig_small X hX
    have : (⟨#[119, 111, 114, 100, 32]⟩ : ByteArray).size = 5 := rfl
    omega
  · rw [h]
    exact text_small hf
def fl8 (W : World) (b : Nat) (x : Fl) : Prop :=
  W.cell? ⟨b, 0, none⟩ = some (.int .i64 x.op) ∧ W.cell? ⟨b, 1, none⟩ = some (.int .i64 x.rd) ∧ W.cell? ⟨b, 2, none⟩ = some (.int .i64 x.rs1) ∧ W.cell? ⟨b, 3, none⟩ = some (.int .i64 x.rs2) ∧ W.cell? ⟨b, 4, none⟩ = some (.int .i64 x.imm) ∧ W.cell? ⟨b, 5, none⟩ = some (.int .i64 x.csr) ∧ W.cell? ⟨b, 6, none⟩ = some (.bool x.aq) ∧ W.cell? ⟨b, 7, none⟩ = some (.bool x.rl)
theorem fl8_of {W : World} {b : Nat} {x : Fl} (h : CsAt W b 24 (flA x)) : fl8 W b x := ⟨h.cell 0, h.cell 1, h.cell 2, h.cell 3, h.cell 4, h.cell 5, h.cell 6, h.cell 7⟩
set_option maxHeartbeats 2000000 in
theorem wordLine_c (X : Nat) (hX : X < 4294967296) (w : World) (hm : MemW w) : Calls Tryz.prog 44 #[.int .u32 (X : Nat)] w fun e w' => e = .returned (.string (lineW X)) ∧ Below w.heap.size w w' := by
  have HM := Lib.hid hm
  have HD := Lib.hid (decode_c X hX w hm.v)
  have hwr : IntKind.u64.wrap ((X : Nat) : Int) = ((X : Nat) : Int) := IntWalk.u64_in _ (by omega)
  clear hm
  rcases line_cases X hX with ⟨hd, hl⟩ | ⟨x, hd, hc, hf, -, hl⟩
  · rw [hd] at HD
    rw [hl]
    have hds := dig_small X hX
    have HU := Lib.hid (fun W (h : MemW W) => formatU_c X (by omega) W h.m.ok.pow)
    clear hd hl
    generalize bs6 (Lib.decDigits X) = D at *
    go_enter Tryz.func44, Tryz.ntmps44
    go_wp2_with fail
    refine HD.out.mono ?_
    rintro e w1 ⟨rfl, hb⟩
    have HB2 := Lib.hid (below_setRow (hb.alloc hb.size (.cells zeroI 24)) hb.size zeroI)
    clear hb
    go_upto_region 2 with (refine wpList_store_row rfl 24 _ _ rfl w1.heap.size zeroI rfl rfl 24 zeroI (CsAt.new w1 24 zeroI) info_ins rfl (by kernel_rfl) ?_)
    generalize (w1.alloc (.cells zeroI 24)).setRow w1.heap.size zeroI = w2 at *
    go_wp2_with fail
    refine (HU.out _ (HM.out.low HB2.out)).mono ?_
    rintro e w3 ⟨rfl, hb⟩
    have HB3 := Lib.hid (HB2.out.trans (hb.mono HB2.out.size))
    clear hb
    go_wp2_with fail
    go_ret
    exact ⟨rfl, HB3.out⟩
  · rw [hd] at HD
    rw [hl]
    have HT := Lib.hid (fun W (h : MemW W) => (show Calls Tryz.prog 8 #[.agg #[.int .i64 x.op, .int .i64 x.rd, .int .i64 x.rs1, .int .i64 x.rs2, .int .i64 x.imm, .int .i64 x.csr, .bool x.aq, .bool x.rl]] W _ from text_yes x.op x.rd x.rs1 x.rs2 x.imm x.csr x.aq x.rl W h.m.ok hf hc))
    clear hd hl hc hf
    generalize textS x.op x.rd x.rs1 x.rs2 x.imm x.csr x.aq x.rl = T at *
    go_enter Tryz.func44, Tryz.ntmps44
    go_wp2_with fail
    refine HD.out.mono ?_
    rintro e w1 ⟨rfl, hb⟩
    have HB2 := Lib.hid (below_setRow (hb.alloc hb.size (.cells zeroI 24)) hb.size (flA x))
    have HI2 := Lib.hid (CsAt.row (CsAt.new w1 24 zeroI) (flA x))
    clear hb
    go_upto_region 2 with (refine wpList_store_row rfl 24 _ _ rfl w1.heap.size (flA x) rfl rfl 24 zeroI (CsAt.new w1 24 zeroI) info_ins rfl (by kernel_rfl) ?_)
    generalize (w1.alloc (.cells zeroI 24)).setRow w1.heap.size (flA x) = w2 at *
    generalize w1.heap.size = b1 at *
    obtain ⟨i0, i1, i2, i3, i4, i5, i6, i7⟩ := fl8_of HI2.out
    go_wp2_with fail
    refine (HT.out _ (HM.out.low HB2.out)).mono ?_
    rintro e w3 ⟨rfl, hb⟩
    have HB3 := Lib.hid (HB2.out.trans (hb.mono HB2.out.size))
    clear hb i0 i1 i2 i3 i4 i5 i6 i7
    go_wp2_with fail
    go_ret
    exact ⟨rfl, HB3.out⟩
/-- The words of a slice that came in. -/
def WordsAt (W : World) (ao : Option Addr) (l : List Nat) : Prop := ∀ j, j < l.length → ∃ b off, ao = some ⟨b, off, none⟩ ∧ W.cell? ⟨b, off + j, none⟩ = some (.int .u32 ((l.getD j 0 : Nat) : Int))
theorem WordsAt.low {W W' : World} {ao : Option Addr} {l : List Nat} (h : WordsAt W ao l) (hb : Below W.heap.size W W') : WordsAt W' ao l := fun j hj => by
  obtain ⟨b, off, e, hc⟩ := h j hj
  exact ⟨b, off, e, (hb.cell (p := ⟨b, off + j, none⟩) (lt_cell hc)).trans hc⟩
def listL (l : List Nat) : List UInt8 := l.flatMap fun X => (lineW X).data.toList ++ [10]
theorem listL_snoc (l : List Nat) (X : Nat) : listL (l ++ [X]) = listL l ++ ((lineW X).data.toList ++ [10]) := by simp [listL]
theorem take_snoc6 (l : List Nat) (k : Nat) (h : k < l.length) : l.take (k + 1) = l.take k ++ [l.getD k 0] := by
  rw [List.take_succ_eq_append_getElem h]
  simp [List.getD, h]
theorem listL_len : ∀ l : List Nat, (∀ X ∈ l, X < 4294967296) → (listL l).length ≤ 121 * l.length
  | [], _ => by simp [listL]
  | X :: l, h => by
    have h1 := listL_len l (fun Y hY => h Y (by simp [hY]))
    have h2 := lineW_small X (h X (by simp))
    have h3 : (lineW X).data.toList.length = (lineW X).size := rfl
    have h4 : listL (X :: l) = ((lineW X).data.toList ++ [10]) ++ listL l := by simp [listL]
    rw [h4, List.length_append, List.length_append, List.length_cons, h3]
    simp
    omega
theorem isB_low {B b : Nat} {bs : List Value} {w w' : World} (h : Lib.IsBuilder 86 5 B b bs w) (hb : Below w.heap.size w w') : Lib.IsBuilder 86 5 B b bs w' := by
  have key : ∀ p, Lib.BuilderAt 86 5 B b p bs w → Lib.BuilderAt 86 5 B b p bs w' := by
    rintro p ⟨h1, v, h2, h3, h4⟩
    refine ⟨h1, v, (hb.block b (lt_heap h2)).trans h2, ⟨h3.1, ?_⟩, h4⟩
    rcases h3.2 with h5 | ⟨g, cap, cur, e, f1, f2, f3, f4, f5, f6⟩
    · exact .inl h5
    · exact .inr ⟨g, cap, cur, e, f1, (hb.block g (lt_heap f2)).trans f2, f3, f4, f5, f6⟩
  rcases h with h | h
  · exact .inl (key _ h)
  · exact .inr (key _ h)
theorem isB_new (w : World) : Lib.IsBuilder 86 5 w.heap.size w.heap.size (Lib.byteCells []) (w.alloc (.cells #[.pointer none, .slice none 0 0] 86)) := by
  refine .inl ⟨Nat.le_refl _, .slice none 0 0, ?_, World.ownsRow_nil _ _ _ _, by simp [Value.ownBlock]⟩
  show (w.heap.push _)[w.heap.size]? = _
  simp
theorem bytes_line (a : List UInt8) (s : ByteArray) : (Lib.byteCells a ++ Lib.strCells s) ++ [.int .u8 10] = Lib.byteCells (a ++ (s.data.toList ++ [10])) := by
  unfold Lib.byteCells Lib.strCells
  simp
theorem bytes_len (a : List UInt8) : (Lib.byteCells a).length = a.length := by simp [Lib.byteCells]
set_option maxHeartbeats 2000000 in
theorem listing_c (ao : Option Addr) (cap : Nat) (l : List Nat) (hl : l.length ≤ 100) (hw : ∀ X ∈ l, X < 4294967296) (w : World) (hm : MemW w) (hc : WordsAt w ao l) :
    Calls Tryz.prog 16 #[.slice ao l.length cap] w fun e w' => e = .returned (.string (bs6 (listL l))) ∧ Below w.heap.size w w' := by
  have HM := Lib.hid hm
  have HC := Lib.hid hc
  have HW := Lib.hid hw
  have HN := Lib.hid (isB_new w)
  have HB0 := Lib.hid ((Below.refl w.heap.size w).alloc (Nat.le_refl _) (.cells #[.pointer none, .slice none 0 0] 86))
  obtain ⟨n, hn⟩ : ∃ n, l.length = n := ⟨_, rfl⟩
  have HLN := Lib.hid hn
  rw [hn] at hl ⊢
  clear hm hc hw hn
  go_enter Tryz.func16, Tryz.ntmps16
  go_wp2_with fail
  generalize (w.alloc (.cells #[.pointer none, .slice none 0 0] 86)) = W0 at *
  go_loopw [8] (fun i wr => ∃ k : Nat, k ≤ n ∧ i = .int .i64 k ∧ Lib.IsBuilder 86 5 w.heap.size w.heap.size (Lib.byteCells (listL (l.take k))) wr ∧ Below w.heap.size w wr) (fun i _ => n - (intOf i).toNat)
  case atStart => exact ⟨0, Nat.zero_le _, rfl, HN.out, HB0.out⟩
  case round =>
    obtain ⟨k, hk, rfl, hB, hb⟩ := hrel
    have HBl := Lib.hid hB
    have HBr := Lib.hid hb
    clear hB hb
    have hsz := HBr.out.size
    by_cases hlt : k < n
    · obtain ⟨b0, off, rfl, hcc⟩ := (HC.out.low HBr.out) k (by rw [HLN.out]; exact hlt)
      have hlt2 : (k : Int) < (n : Int) := by omega
      have HSN := Lib.hid (take_snoc6 l k (by rw [HLN.out]; exact hlt))
      have hX := HW.out (l.getD k 0) (by simp [List.getD, show k < l.length by rw [HLN.out]; exact hlt])
      have hLZ := listL_len (l.take k) (fun X h => HW.out X (List.mem_of_mem_take h))
      rw [List.length_take] at hLZ
      have hLK := lineW_small _ hX
      have HWL := Lib.hid (fun W (h : MemW W) => wordLine_c (l.getD k 0) hX W h)
      have HBL := Lib.hid (bytes_line (listL (l.take k)) (lineW (l.getD k 0)))
      have HLL := Lib.hid (listL_snoc (l.take k) (l.getD k 0))
      have hbl := bytes_len (listL (l.take k))
      generalize l.getD k 0 = X at *
      generalize lineW X = LX at *
      generalize Lib.byteCells (listL (l.take k)) = bs at *
      have hbz : bs.length + LX.size ≤ 1000000 := by omega
      clear hLZ hbl hX
      go_wp2_with fail
      refine (HWL.out _ (HM.out.low HBr.out)).mono ?_
      rintro e w1 ⟨rfl, hb⟩
      have HB1 := Lib.hid (HBr.out.trans (hb.mono HBr.out.size))
      have HBl1 := Lib.hid (isB_low HBl.out hb)
      clear hb hcc
      go_wp2_with fail
      refine (writeS_c _ _ _ _ _ HBl1.out hbz HB1.out.size).mono ?_
      rintro e w2 ⟨rfl, hB2, hb⟩
      have HB2 := Lib.hid (HB1.out.trans hb)
      have HBl2 := Lib.hid hB2
      clear hb hB2
      go_wp2_with fail
      refine (writeB_c _ _ _ _ _ HBl2.out (by rw [List.length_append, Lib.strCells_length]; omega) HB2.out.size).mono ?_
      rintro e w3 ⟨rfl, hB3, hb⟩
      have HB3 := Lib.hid (HB2.out.trans hb)
      have HBl3 := Lib.hid hB3
      clear hb hB3
      go_wp2_with fail
      go_roundw
      case rel => exact ⟨k + 1, by omega, by go_num, by rw [HSN.out, HLL.out, ← HBL.out]; exact HBl3.out, HB3.out⟩
      case measure => simp [intOf]; omega
    · obtain rfl : k = n := by omega
      have HTK := Lib.hid (show l.take k = l by rw [List.take_of_length_le (by rw [HLN.out]; exact Nat.le_refl _)])
      rw [HTK.out] at HBl
      go_wp2_with fail
      refine (Tryz.Builder_String_any _ _ _ _ HBl.out HBr.out.size).mono ?_
      rintro e w1 ⟨rfl, hb⟩
      go_wp2_with fail
      go_ret
      exact ⟨rfl, HBr.out.trans hb⟩
end Go.Proofs.YthehcplogkgkeaaGreatDoor
