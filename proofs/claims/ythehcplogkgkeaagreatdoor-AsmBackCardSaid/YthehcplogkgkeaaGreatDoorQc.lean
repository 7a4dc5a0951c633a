/-
  Contracts of the reference of layer 3: Find, masked. The contract of the reference's Places (layer 3): where the bits of each format's number stand. The contract of the reference's Imm (layer 3): the number that a word has, by a format. The contract of the reference's Lay (layer 3): the bits that a number makes, by a format. Contracts of insn.among, FormatOf. The contract of insn.FormatOf: an op's format's number. Contracts of insn.parts, signSize, mask: a format's pieces, the size of its sign, the bits that it fixes. The pieces of a number put together, bit by bit; the contracts of the functions that insn.Imm and insn.Lay hand to eachPart. A format's pieces, put together one by one: plain numbers; the contract of insn.eachPart with each function that is handed to it. What insn.Imm and insn.Lay reckon is what the chapter says, bit by bit (plain numbers). Contracts of insn.Imm, insn.Lay. The program's tables insn.values and insn.fields in memory; the contract of insn.Fixed. Contracts of insn.read and of its own function. The contract of insn.Decode: the first op whose fixed bits a word has. What the walks of insn.foreign lean on. Contracts of insn.isField, flag.
-/
import Derived.Test.YthehcplogkgkeaaGreatDoorQb
import Derived.Test.YthehcplogkgkeaaGreatDoorQa
import Derived.Deep.RegionHeld3
import Derived.StillTailTactics
import Derived.IntWalk
import Derived.Deep.RegionHeld
import Derived.Deep.QuietTactic
import Derived.BigQuiet
set_option maxRecDepth 4000
namespace Go.Proofs.YthehcplogkgkeaaGreatDoor
open Go.ChangeShapes Go.WideShapes Go.ChangeAt Go.RowKit Wd

theorem flat4 {α β : Type} (f : α → List β) (hf : ∀ x, (f x).length = 4) (l : List α) (k j : Nat) (hj : j < 4) (a : α) (ha : l[k]? = some a) : (l.flatMap f)[k * 4 + j]? = (f a)[j]? := by
  induction l generalizing k with
  | nil => simp at ha
  | cons x xs ih =>
    cases k with
    | zero =>
      simp at ha
      subst ha
      rw [List.flatMap_cons, List.getElem?_append_left (by rw [hf]; omega)]
      simp
    | succ k =>
      rw [List.flatMap_cons, List.getElem?_append_right (by rw [hf]; omega), hf]
      rw [show (k + 1) * 4 + j - 4 = k * 4 + j by omega]
      exact ih k (by simpa using ha)
def rowAt (k : Nat) : Nat × Nat × Nat × Nat := Tab.rows3.getD k (0, 0, 0, 0)
def findRow (op : Int) : Nat × Nat × Nat × Nat := if 1 ≤ op ∧ op ≤ 98 then rowAt (op.toNat - 1) else (0, 0, 0, 0)
theorem rowAt_op : ∀ k : Fin 98, (rowAt k.val).1 = k.val + 1 ∧ Tab.rows3[k.val]? = some (rowAt k.val) := by decide +kernel
/-- The cells of the table, once they lie in a block. -/
def RowsAt (w : World) (g : Nat) : Prop := ∀ k, k < 98 → w.cell? ⟨g, k * 4, none⟩ = some (.int .i64 ((rowAt k).1 : Nat)) ∧ w.cell? ⟨g, k * 4 + 1, none⟩ = some (strV (Tab.names3.getD (rowAt k).2.1 [])) ∧ w.cell? ⟨g, k * 4 + 2, none⟩ = some (.int .u64 ((rowAt k).2.2.1 : Nat)) ∧ w.cell? ⟨g, k * 4 + 3, none⟩ = some (.int .u64 ((rowAt k).2.2.2 : Nat))
theorem rowsAt_new (w : World) : RowsAt (w.alloc (.cells (Tab.rows3.flatMap rowV).toArray 62)) w.heap.size := by
  intro k hk
  have h := (rowAt_op ⟨k, hk⟩).2
  simp only at h
  have c : ∀ j, j < 4 → (w.alloc (.cells (Tab.rows3.flatMap rowV).toArray 62)).cell? ⟨w.heap.size, k * 4 + j, none⟩ = (rowV (rowAt k))[j]? := by
    intro j hj
    rw [cell_of_row _ w.heap.size (k * 4 + j) (Tab.rows3.flatMap rowV).toArray 62 (0, 0) (heap_alloc_new w _)]
    rw [List.getElem?_toArray]
    exact flat4 rowV (fun x => rfl) Tab.rows3 k j hj (rowAt k) h
  exact ⟨c 0 (by omega), c 1 (by omega), c 2 (by omega), c 3 (by omega)⟩
theorem RowsAt.on {w w' : World} {g : Nat} (h : RowsAt w g) (hb : Below w.heap.size w w') (hg : g < w.heap.size) : RowsAt w' g := by
  intro k hk
  obtain ⟨h0, h1, h2, h3⟩ := h k hk
  exact ⟨(hb.cell (by exact hg)).trans h0, (hb.cell (by exact hg)).trans h1, (hb.cell (by exact hg)).trans h2, (hb.cell (by exact hg)).trans h3⟩
def rowAgg (r : Nat × Nat × Nat × Nat) : Value := .agg #[.int .i64 (r.1 : Nat), strV (Tab.names3.getD r.2.1 []), .int .u64 (r.2.2.1 : Nat), .int .u64 (r.2.2.2 : Nat)]

theorem World.heap_size_alloc' (w : World) (o : Obj) : (w.alloc o).heap.size = w.heap.size + 1 := by simp
theorem zero_row (w : World) (o : Obj) :
    ((w.alloc (.cells #[.int .i64 0, .string ⟨#[]⟩, .int .u64 0, .int .u64 0] 62)).alloc o).cell? ⟨w.heap.size, 0, none⟩ = some (.int .i64 0) ∧ ((w.alloc (.cells #[.int .i64 0, .string ⟨#[]⟩, .int .u64 0, .int .u64 0] 62)).alloc o).cell? ⟨w.heap.size, 1, none⟩ = some (.string ⟨#[]⟩) ∧
    ((w.alloc (.cells #[.int .i64 0, .string ⟨#[]⟩, .int .u64 0, .int .u64 0] 62)).alloc o).cell? ⟨w.heap.size, 2, none⟩ = some (.int .u64 0) ∧ ((w.alloc (.cells #[.int .i64 0, .string ⟨#[]⟩, .int .u64 0, .int .u64 0] 62)).alloc o).cell? ⟨w.heap.size, 3, none⟩ = some (.int .u64 0) ∧
    ((w.alloc (.cells #[.int .i64 0, .string ⟨#[]⟩, .int .u64 0, .int .u64 0] 62)).alloc o).frozen? ⟨w.heap.size, 0, none⟩ = false ∧ ((w.alloc (.cells #[.int .i64 0, .string ⟨#[]⟩, .int .u64 0, .int .u64 0] 62)).alloc o).frozen? ⟨w.heap.size, 1, none⟩ = false ∧
    ((w.alloc (.cells #[.int .i64 0, .string ⟨#[]⟩, .int .u64 0, .int .u64 0] 62)).alloc o).frozen? ⟨w.heap.size, 2, none⟩ = false ∧ ((w.alloc (.cells #[.int .i64 0, .string ⟨#[]⟩, .int .u64 0, .int .u64 0] 62)).alloc o).frozen? ⟨w.heap.size, 3, none⟩ = false := by
  refine ⟨?_, ?_, ?_, ?_, ?_, ?_, ?_, ?_⟩ <;> simp [go_sem, World.cell?_alloc_past, World.frozen?_alloc_past]

set_option maxHeartbeats 2000000 in
set_option maxRecDepth 100000 in
theorem refFind_c (op : Int) (w : World) : Calls Tryz.prog 26 #[.int .i64 op] w fun e w' => e = .returned (rowAgg (findRow op)) ∧ Below w.heap.size w w' := by
  go_enter Tryz.func26, Tryz.ntmps26
  go_wp2_with fail
  refine (refRows_c _).mono ?_
  rintro e w1 ⟨rfl, rfl⟩
  have hr := rowsAt_new (w.alloc (.cells #[.int .i64 0, .string ⟨#[]⟩, .int .u64 0, .int .u64 0] 62))
  have hB : Below w.heap.size w ((w.alloc (.cells #[.int .i64 0, .string ⟨#[]⟩, .int .u64 0, .int .u64 0] 62)).alloc (.cells (Tab.rows3.flatMap rowV).toArray 62)) := ((Below.refl _ _).alloc (Nat.le_refl _) _).alloc (by simp) _
  have hz := zero_row w (.cells (Tab.rows3.flatMap rowV).toArray 62)
  simp only [World.heap_size_alloc'] at hr
  generalize ((w.alloc (.cells #[.int .i64 0, .string ⟨#[]⟩, .int .u64 0, .int .u64 0] 62)).alloc (.cells (Tab.rows3.flatMap rowV).toArray 62)) = W2 at *
  have HR := Lib.hid hr
  have HB := Lib.hid hB
  have HZ := Lib.hid hz
  clear hr hB hz
  go_wp2_with fail
  go_loop [4] (fun i => ∃ k : Nat, k ≤ 98 ∧ i = .int .i64 k ∧ (1 ≤ op → op ≤ 98 → (k : Int) ≤ op - 1)) (fun i => 98 - (intOf i).toNat)
  case atStart => exact ⟨0, by omega, rfl, fun _ _ => by omega⟩
  case round =>
    obtain ⟨k, hk, rfl, hle⟩ := hrel
    have HLE := Lib.hid hle
    clear hle
    by_cases hlt : k < 98
    · obtain ⟨c0, c1, c2, c3⟩ := HR.out k hlt
      have hop := (rowAt_op ⟨k, hlt⟩).1
      simp only at hop
      rw [hop] at c0
      have hki : (((k + 1 : Nat)) : Int) = (k : Int) + 1 := by omega
      rw [hki] at c0
      clear hop hki
      by_cases heq : op = (k : Int) + 1
      · have HF := Lib.hid (show findRow op = rowAt k from by unfold findRow; rw [if_pos (by omega), heq]; congr 1)
        have hfo := (rowAt_op ⟨k, hlt⟩).1
        have HFO := Lib.hid hfo
        have t1 : (((k : Int) + 1) == op) = true := by rw [heq]; simp
        have HEQ := Lib.hid heq
        clear heq hfo
        generalize rowAt k = r at *
        obtain ⟨z0, z1, z2, z3, y0, y1, y2, y3⟩ := HZ.out
        go_wp2_with fail
        refine bodyPost_ret (v := rowAgg r) (by simp [results, Tryz.results26, go_sem, rowAgg, HFO.out, z0, z1, z2, z3]) rfl ⟨by rw [HF.out], ?_⟩
        exact (((HB.out.setCell (by exact Nat.le_refl _) _).setCell (by exact Nat.le_refl _) _).setCell (by exact Nat.le_refl _) _).setCell (by exact Nat.le_refl _) _
      · have t1 : (((k : Int) + 1) == op) = false := by simp; omega
        have HN := Lib.hid heq
        clear heq
        go_wp2_with fail
        go_round
        case rel => exact ⟨k + 1, by omega, by go_num, fun h1 h2 => by have := HLE.out h1 h2; have := HN.out; omega⟩
        case measure => simp [intOf]; omega
    · obtain rfl : k = 98 := by omega
      have HF := Lib.hid (show findRow op = (0, 0, 0, 0) from by unfold findRow; rw [if_neg (fun h => by have := HLE.out h.1 h.2; omega)])
      obtain ⟨z0, z1, z2, z3, y0, y1, y2, y3⟩ := HZ.out
      go_wp2_with fail
      refine bodyPost_ret (v := rowAgg (0, 0, 0, 0)) (by simp [results, Tryz.results26, go_sem, rowAgg, z0, z1, z2, z3, Tab.names3, bsOf]) rfl ⟨by rw [HF.out], ?_⟩
      exact (((HB.out.setCell (by exact Nat.le_refl _) _).setCell (by exact Nat.le_refl _) _).setCell (by exact Nat.le_refl _) _).setCell (by exact Nat.le_refl _) _
end Go.Proofs.YthehcplogkgkeaaGreatDoor
set_option maxRecDepth 4000
namespace Go.Proofs.YthehcplogkgkeaaGreatDoor
open Go.ChangeShapes Go.WideShapes Go.ChangeAt Go.RowKit Wd

def placesOf (f : Nat) : List Int := match f with
  | 2 => [20, 21, 22, 23, 24, 25, 26, 27, 28, 29, 30, 31]
  | 3 => [7, 8, 9, 10, 11, 25, 26, 27, 28, 29, 30, 31]
  | 4 => [-1, 8, 9, 10, 11, 25, 26, 27, 28, 29, 30, 7, 31]
  | 5 => [-1, -1, -1, -1, -1, -1, -1, -1, -1, -1, -1, -1, 12, 13, 14, 15, 16, 17, 18, 19, 20, 21, 22, 23, 24, 25, 26, 27, 28, 29, 30, 31]
  | 6 => [-1, 21, 22, 23, 24, 25, 26, 27, 28, 29, 30, 20, 12, 13, 14, 15, 16, 17, 18, 19, 31]
  | 7 => [20, 21, 22, 23, 24, 25]
  | 8 => [20, 21, 22, 23, 24]
  | _ => []
def signedOf (f : Nat) : Bool := match f with
  | 2 | 3 | 4 | 5 | 6 => true
  | _ => false
def il (l : List Int) (k : Nat) : List Value := (l.take k).map (Value.int .i64)
theorem il_succ (l : List Int) (k : Nat) (x : Int) (h : l[k]? = some x) : il l (k + 1) = il l k ++ [.int .i64 x] := by
  unfold il
  rw [List.take_add_one, h]
  simp
theorem info_int : (Tryz.prog.info? 3).map (fun i => (i.zero, i.size, i.bytes)) = some (some (.int .i64 0), 1, 8) := by kernel_rfl
theorem rel_il {base k : Nat} {w wr w1 : World} {v v' : Value} {l : List Int} {o : Obj} {x : Int} (hb : base ≤ wr.heap.size) (hx : l[k]? = some x)
    (hown : wr.ownsRow base 3 1 v k (il l k)) (hown' : w1.ownsRow base 3 1 v' (k + 1) (il l k ++ [.int .i64 x])) (hgrow : (wr.alloc o).grownBy w1 v.ownBlock) (hnx : Below base w wr) :
    w1.ownsRow base 3 1 v' (k + 1) (il l (k + 1)) ∧ Below base w w1 := by
  refine ⟨by rw [il_succ l k x hx]; exact hown', (hnx.alloc hb o).grown hgrow (by simp; omega) (fun j hj => (hown.lt j hj).1)⟩
theorem one_cell_i (n : Int) : ∀ u ∈ [Value.int .i64 n], u.oneCell' = true := by
  intro u hu; simp at hu; subst hu; rfl
/-- What Places leaves: a slice of its own with the places, and whether the number has a sign. -/
def PlPost (w : World) (l : List Int) (s : Bool) (e : Ending) (w' : World) : Prop :=
  ∃ v, e = .returned (.tuple #[v, .bool s]) ∧ w'.ownsRow w.heap.size 3 1 v l.length (l.map (Value.int .i64)) ∧ Below w.heap.size w w'
theorem il_all (l : List Int) : il l l.length = l.map (Value.int .i64) := by unfold il; rw [List.take_length]
theorem bel1 (w : World) (o : Obj) : Below w.heap.size w (w.alloc o) := (Below.refl _ _).alloc (Nat.le_refl _) _

theorem pl2 : ∀ k : Nat, k < 12 → (placesOf 2)[k]? = some (20 + (k : Int)) := fun k hk => (by decide +kernel : ∀ k : Fin 12, (placesOf 2)[k.val]? = some (20 + (k.val : Int))) ⟨k, hk⟩
theorem pl3a : ∀ k : Nat, k < 5 → (placesOf 3)[k]? = some (7 + (k : Int)) := fun k hk => (by decide +kernel : ∀ k : Fin 5, (placesOf 3)[k.val]? = some (7 + (k.val : Int))) ⟨k, hk⟩
theorem pl3b : ∀ k : Nat, k < 7 → (placesOf 3)[5 + k]? = some (25 + (k : Int)) := fun k hk => (by decide +kernel : ∀ k : Fin 7, (placesOf 3)[5 + k.val]? = some (25 + (k.val : Int))) ⟨k, hk⟩
theorem pl5a : ∀ k : Nat, k < 12 → (placesOf 5)[k]? = some (-1) := fun k hk => (by decide +kernel : ∀ k : Fin 12, (placesOf 5)[k.val]? = some (-1)) ⟨k, hk⟩
theorem pl5b : ∀ k : Nat, k < 20 → (placesOf 5)[12 + k]? = some (12 + (k : Int)) := fun k hk => (by decide +kernel : ∀ k : Fin 20, (placesOf 5)[12 + k.val]? = some (12 + (k.val : Int))) ⟨k, hk⟩

set_option maxHeartbeats 2000000 in
theorem refPlaces_0 (w : World) : Calls Tryz.prog 84 #[.string ⟨#[]⟩] w (PlPost w (placesOf 0) (signedOf 0)) := by
  go_enter Tryz.func84, Tryz.ntmps84
  go_wp2
  go_ret2
  exact ⟨_, rfl, World.ownsRow_nil _ _ _ _, Below.refl _ _⟩
set_option maxHeartbeats 2000000 in
theorem refPlaces_1 (w : World) : Calls Tryz.prog 84 #[.string ⟨#[82]⟩] w (PlPost w (placesOf 1) (signedOf 1)) := by
  go_enter Tryz.func84, Tryz.ntmps84
  go_wp2
  go_ret2
  exact ⟨_, rfl, World.ownsRow_nil _ _ _ _, Below.refl _ _⟩
set_option maxHeartbeats 2000000 in
theorem refPlaces_2 (w : World) : Calls Tryz.prog 84 #[.string ⟨#[73]⟩] w (PlPost w (placesOf 2) (signedOf 2)) := by
  obtain ⟨i0, hi, hz0, hz1, hz2⟩ := info_parts info_int
  obtain ⟨L, hL⟩ : ∃ L, L = placesOf 2 := ⟨_, rfl⟩
  have HLN := Lib.hid (show L.length = 12 from by rw [hL]; rfl)
  have HL := Lib.hid hL
  clear hL
  go_enter Tryz.func84, Tryz.ntmps84
  go_wp2
  go_loopw [4, 5] (fun v i wr => ∃ k : Nat, k ≤ 12 ∧ i = .int .i64 (k : Int) ∧ wr.ownsRow w.heap.size 3 1 v (k) (il L (k)) ∧ Below w.heap.size w wr) (fun _ i _ => (12 - intOf i).toNat)
  case atStart => exact ⟨0, by omega, rfl, World.ownsRow_nil _ _ _ _, Below.refl _ _⟩
  case round =>
    obtain ⟨k, hk, rfl, hown, hnx⟩ := hrel
    have hsz := hnx.size
    have HO := Lib.hid hown
    clear hown
    by_cases hlt : k < 12
    · have HX := Lib.hid (show L[k]? = some (20 + (k : Int)) from by rw [HL.out]; exact pl2 k hlt)
      go_wp2_with (at_builtin; refine wpList_append_own _ rfl _ _ 132 rfl w.heap.size 3 i0 (.int .i64 0) 1 8 Tryz.underlying132 hi hz0 hz1 hz2 rfl (by decide) _ _ _ rfl (HO.out.alloc _) ⟨wr.heap.size, 0, none⟩ 1 1 [.int .i64 (20 + (k : Int))] rfl rfl news_one (one_cell_i _) (by unfold maxLen; omega) (by omega) (by simp; omega) ?_; intro v' w1 hown' hgrow _)
      have R := rel_il hsz HX.out HO.out hown' hgrow hnx
      go_roundw
      case rel => exact ⟨k + 1, by omega, by go_num, by exact R.1, R.2⟩
      case measure => simp [intOf]; omega
    · obtain rfl : k = 12 := by omega
      go_wp2
      go_ret2
      exact ⟨_, rfl, by rw [← HL.out, ← il_all, HLN.out]; exact HO.out, hnx⟩
set_option maxHeartbeats 2000000 in
theorem refPlaces_3 (w : World) : Calls Tryz.prog 84 #[.string ⟨#[83]⟩] w (PlPost w (placesOf 3) (signedOf 3)) := by
  obtain ⟨i0, hi, hz0, hz1, hz2⟩ := info_parts info_int
  obtain ⟨L, hL⟩ : ∃ L, L = placesOf 3 := ⟨_, rfl⟩
  have HLN := Lib.hid (show L.length = 12 from by rw [hL]; rfl)
  have HL := Lib.hid hL
  clear hL
  go_enter Tryz.func84, Tryz.ntmps84
  go_wp2
  go_loopw [4, 6] (fun v i wr => ∃ k : Nat, k ≤ 5 ∧ i = .int .i64 (k : Int) ∧ wr.ownsRow w.heap.size 3 1 v (k) (il L (k)) ∧ Below w.heap.size w wr) (fun _ i _ => (5 - intOf i).toNat)
  case atStart => exact ⟨0, by omega, rfl, World.ownsRow_nil _ _ _ _, Below.refl _ _⟩
  case round =>
    obtain ⟨k, hk, rfl, hown, hnx⟩ := hrel
    have hsz := hnx.size
    have HO := Lib.hid hown
    clear hown
    by_cases hlt : k < 5
    · have HX := Lib.hid (show L[k]? = some (7 + (k : Int)) from by rw [HL.out]; exact pl3a k hlt)
      go_wp2_with (at_builtin; refine wpList_append_own _ rfl _ _ 132 rfl w.heap.size 3 i0 (.int .i64 0) 1 8 Tryz.underlying132 hi hz0 hz1 hz2 rfl (by decide) _ _ _ rfl (HO.out.alloc _) ⟨wr.heap.size, 0, none⟩ 1 1 [.int .i64 (7 + (k : Int))] rfl rfl news_one (one_cell_i _) (by unfold maxLen; omega) (by omega) (by simp; omega) ?_; intro v' w1 hown' hgrow _)
      have R := rel_il hsz HX.out HO.out hown' hgrow hnx
      go_roundw
      case rel => exact ⟨k + 1, by omega, by go_num, by exact R.1, R.2⟩
      case measure => simp [intOf]; omega
    · obtain rfl : k = 5 := by omega
      rw [show ((5 : Nat) : Int) = (5 : Int) from rfl]
      have HN := Lib.hid hnx
      clear hnx
      go_wp2
      go_loopw [4, 7] (fun v i wr => ∃ k : Nat, k ≤ 7 ∧ i = .int .i64 (k : Int) ∧ wr.ownsRow w.heap.size 3 1 v (5 + k) (il L (5 + k)) ∧ Below w.heap.size w wr) (fun _ i _ => (7 - intOf i).toNat)
      case atStart => exact ⟨0, by omega, rfl, HO.out, HN.out⟩
      case round =>
        obtain ⟨k, hk, rfl, hown, hnx⟩ := hrel
        have hsz := hnx.size
        have HO := Lib.hid hown
        clear hown
        by_cases hlt : k < 7
        · have HX := Lib.hid (show L[5 + k]? = some (25 + (k : Int)) from by rw [HL.out]; exact pl3b k hlt)
          go_wp2_with (at_builtin; refine wpList_append_own _ rfl _ _ 132 rfl w.heap.size 3 i0 (.int .i64 0) 1 8 Tryz.underlying132 hi hz0 hz1 hz2 rfl (by decide) _ _ _ rfl (HO.out.alloc _) ⟨wr.heap.size, 0, none⟩ 1 1 [.int .i64 (25 + (k : Int))] rfl rfl news_one (one_cell_i _) (by unfold maxLen; omega) (by omega) (by simp; omega) ?_; intro v' w1 hown' hgrow _)
          have R := rel_il hsz HX.out HO.out hown' hgrow hnx
          go_roundw
          case rel => exact ⟨k + 1, by omega, by go_num, by rw [show 5 + (k + 1) = 5 + k + 1 by omega]; exact R.1, R.2⟩
          case measure => simp [intOf]; omega
        · obtain rfl : k = 7 := by omega
          go_wp2
          go_ret2
          exact ⟨_, rfl, by rw [← HL.out, ← il_all, HLN.out]; exact HO.out, hnx⟩
set_option maxHeartbeats 2000000 in
theorem refPlaces_4 (w : World) : Calls Tryz.prog 84 #[.string ⟨#[66]⟩] w (PlPost w (placesOf 4) (signedOf 4)) := by
  go_enter Tryz.func84, Tryz.ntmps84
  go_wp2
  go_ret2
  exact ⟨_, rfl, World.ownsRow_lit w #[.int .i64 (-1), .int .i64 (8), .int .i64 (9), .int .i64 (10), .int .i64 (11), .int .i64 (25), .int .i64 (26), .int .i64 (27), .int .i64 (28), .int .i64 (29), .int .i64 (30), .int .i64 (7), .int .i64 (31)] 13 (Nat.le_refl _) (by decide) (by decide), bel1 w _⟩
set_option maxHeartbeats 2000000 in
theorem refPlaces_5 (w : World) : Calls Tryz.prog 84 #[.string ⟨#[85]⟩] w (PlPost w (placesOf 5) (signedOf 5)) := by
  obtain ⟨i0, hi, hz0, hz1, hz2⟩ := info_parts info_int
  obtain ⟨L, hL⟩ : ∃ L, L = placesOf 5 := ⟨_, rfl⟩
  have HLN := Lib.hid (show L.length = 32 from by rw [hL]; rfl)
  have HL := Lib.hid hL
  clear hL
  go_enter Tryz.func84, Tryz.ntmps84
  go_wp2
  go_loopw [4, 8] (fun v i wr => ∃ k : Nat, k ≤ 12 ∧ i = .int .i64 (k : Int) ∧ wr.ownsRow w.heap.size 3 1 v (k) (il L (k)) ∧ Below w.heap.size w wr) (fun _ i _ => (12 - intOf i).toNat)
  case atStart => exact ⟨0, by omega, rfl, World.ownsRow_nil _ _ _ _, Below.refl _ _⟩
  case round =>
    obtain ⟨k, hk, rfl, hown, hnx⟩ := hrel
    have hsz := hnx.size
    have HO := Lib.hid hown
    clear hown
    by_cases hlt : k < 12
    · have HX := Lib.hid (show L[k]? = some (-1) from by rw [HL.out]; exact pl5a k hlt)
      go_wp2_with (at_builtin; refine wpList_append_own _ rfl _ _ 132 rfl w.heap.size 3 i0 (.int .i64 0) 1 8 Tryz.underlying132 hi hz0 hz1 hz2 rfl (by decide) _ _ _ rfl (HO.out.alloc _) ⟨wr.heap.size, 0, none⟩ 1 1 [.int .i64 (-1)] rfl rfl news_one (one_cell_i _) (by unfold maxLen; omega) (by omega) (by simp; omega) ?_; intro v' w1 hown' hgrow _)
      have R := rel_il hsz HX.out HO.out hown' hgrow hnx
      go_roundw
      case rel => exact ⟨k + 1, by omega, by go_num, by exact R.1, R.2⟩
      case measure => simp [intOf]; omega
    · obtain rfl : k = 12 := by omega
      rw [show ((12 : Nat) : Int) = (12 : Int) from rfl]
      have HN := Lib.hid hnx
      clear hnx
      go_wp2
      go_loopw [4, 9] (fun v i wr => ∃ k : Nat, k ≤ 20 ∧ i = .int .i64 (12 + (k : Int)) ∧ wr.ownsRow w.heap.size 3 1 v (12 + k) (il L (12 + k)) ∧ Below w.heap.size w wr) (fun _ i _ => (32 - intOf i).toNat)
      case atStart => exact ⟨0, by omega, rfl, HO.out, HN.out⟩
      case round =>
        obtain ⟨k, hk, rfl, hown, hnx⟩ := hrel
        have hsz := hnx.size
        have HO := Lib.hid hown
        clear hown
        by_cases hlt : k < 20
        · have HX := Lib.hid (show L[12 + k]? = some (12 + (k : Int)) from by rw [HL.out]; exact pl5b k hlt)
          go_wp2_with (at_builtin; refine wpList_append_own _ rfl _ _ 132 rfl w.heap.size 3 i0 (.int .i64 0) 1 8 Tryz.underlying132 hi hz0 hz1 hz2 rfl (by decide) _ _ _ rfl (HO.out.alloc _) ⟨wr.heap.size, 0, none⟩ 1 1 [.int .i64 (12 + (k : Int))] rfl rfl news_one (one_cell_i _) (by unfold maxLen; omega) (by omega) (by simp; omega) ?_; intro v' w1 hown' hgrow _)
          have R := rel_il hsz HX.out HO.out hown' hgrow hnx
          go_roundw
          case rel => exact ⟨k + 1, by omega, congrArg (Value.int .i64) (by omega), by rw [show 12 + (k + 1) = 12 + k + 1 by omega]; exact R.1, R.2⟩
          case measure => simp [intOf]; omega
        · obtain rfl : k = 20 := by omega
          go_wp2
          go_ret2
          exact ⟨_, rfl, by rw [← HL.out, ← il_all, HLN.out]; exact HO.out, hnx⟩
set_option maxHeartbeats 2000000 in
theorem refPlaces_6 (w : World) : Calls Tryz.prog 84 #[.string ⟨#[74]⟩] w (PlPost w (placesOf 6) (signedOf 6)) := by
  go_enter Tryz.func84, Tryz.ntmps84
  go_wp2
  go_ret2
  exact ⟨_, rfl, World.ownsRow_lit w #[.int .i64 (-1), .int .i64 (21), .int .i64 (22), .int .i64 (23), .int .i64 (24), .int .i64 (25), .int .i64 (26), .int .i64 (27), .int .i64 (28), .int .i64 (29), .int .i64 (30), .int .i64 (20), .int .i64 (12), .int .i64 (13), .int .i64 (14), .int .i64 (15), .int .i64 (16), .int .i64 (17), .int .i64 (18), .int .i64 (19), .int .i64 (31)] 21 (Nat.le_refl _) (by decide) (by decide), bel1 w _⟩
set_option maxHeartbeats 2000000 in
theorem refPlaces_7 (w : World) : Calls Tryz.prog 84 #[.string ⟨#[83, 104, 105, 102, 116]⟩] w (PlPost w (placesOf 7) (signedOf 7)) := by
  go_enter Tryz.func84, Tryz.ntmps84
  go_wp2
  go_ret2
  exact ⟨_, rfl, World.ownsRow_lit w #[.int .i64 (20), .int .i64 (21), .int .i64 (22), .int .i64 (23), .int .i64 (24), .int .i64 (25)] 6 (Nat.le_refl _) (by decide) (by decide), bel1 w _⟩
set_option maxHeartbeats 2000000 in
theorem refPlaces_8 (w : World) : Calls Tryz.prog 84 #[.string ⟨#[83, 104, 105, 102, 116, 87]⟩] w (PlPost w (placesOf 8) (signedOf 8)) := by
  go_enter Tryz.func84, Tryz.ntmps84
  go_wp2
  go_ret2
  exact ⟨_, rfl, World.ownsRow_lit w #[.int .i64 (20), .int .i64 (21), .int .i64 (22), .int .i64 (23), .int .i64 (24)] 5 (Nat.le_refl _) (by decide) (by decide), bel1 w _⟩
set_option maxHeartbeats 2000000 in
theorem refPlaces_9 (w : World) : Calls Tryz.prog 84 #[.string ⟨#[67, 115, 114]⟩] w (PlPost w (placesOf 9) (signedOf 9)) := by
  go_enter Tryz.func84, Tryz.ntmps84
  go_wp2
  go_ret2
  exact ⟨_, rfl, World.ownsRow_nil _ _ _ _, Below.refl _ _⟩
set_option maxHeartbeats 2000000 in
theorem refPlaces_10 (w : World) : Calls Tryz.prog 84 #[.string ⟨#[67, 115, 114, 73]⟩] w (PlPost w (placesOf 10) (signedOf 10)) := by
  go_enter Tryz.func84, Tryz.ntmps84
  go_wp2
  go_ret2
  exact ⟨_, rfl, World.ownsRow_nil _ _ _ _, Below.refl _ _⟩
set_option maxHeartbeats 2000000 in
theorem refPlaces_11 (w : World) : Calls Tryz.prog 84 #[.string ⟨#[65]⟩] w (PlPost w (placesOf 11) (signedOf 11)) := by
  go_enter Tryz.func84, Tryz.ntmps84
  go_wp2
  go_ret2
  exact ⟨_, rfl, World.ownsRow_nil _ _ _ _, Below.refl _ _⟩
set_option maxHeartbeats 2000000 in
theorem refPlaces_12 (w : World) : Calls Tryz.prog 84 #[.string ⟨#[76, 114]⟩] w (PlPost w (placesOf 12) (signedOf 12)) := by
  go_enter Tryz.func84, Tryz.ntmps84
  go_wp2
  go_ret2
  exact ⟨_, rfl, World.ownsRow_nil _ _ _ _, Below.refl _ _⟩
set_option maxHeartbeats 2000000 in
theorem refPlaces_13 (w : World) : Calls Tryz.prog 84 #[.string ⟨#[66, 97, 114, 101]⟩] w (PlPost w (placesOf 13) (signedOf 13)) := by
  go_enter Tryz.func84, Tryz.ntmps84
  go_wp2
  go_ret2
  exact ⟨_, rfl, World.ownsRow_nil _ _ _ _, Below.refl _ _⟩
set_option maxHeartbeats 2000000 in
theorem refPlaces_14 (w : World) : Calls Tryz.prog 84 #[.string ⟨#[83, 102, 101, 110, 99, 101]⟩] w (PlPost w (placesOf 14) (signedOf 14)) := by
  go_enter Tryz.func84, Tryz.ntmps84
  go_wp2
  go_ret2
  exact ⟨_, rfl, World.ownsRow_nil _ _ _ _, Below.refl _ _⟩
theorem refPlaces_c (f : Nat) (hf : f < 15) (w : World) : Calls Tryz.prog 84 #[strV (Tab.names3.getD f [])] w (PlPost w (placesOf f) (signedOf f)) := by
  match f, hf with
  | 0, _ => exact refPlaces_0 w
  | 1, _ => exact refPlaces_1 w
  | 2, _ => exact refPlaces_2 w
  | 3, _ => exact refPlaces_3 w
  | 4, _ => exact refPlaces_4 w
  | 5, _ => exact refPlaces_5 w
  | 6, _ => exact refPlaces_6 w
  | 7, _ => exact refPlaces_7 w
  | 8, _ => exact refPlaces_8 w
  | 9, _ => exact refPlaces_9 w
  | 10, _ => exact refPlaces_10 w
  | 11, _ => exact refPlaces_11 w
  | 12, _ => exact refPlaces_12 w
  | 13, _ => exact refPlaces_13 w
  | 14, _ => exact refPlaces_14 w
end Go.Proofs.YthehcplogkgkeaaGreatDoor
set_option maxRecDepth 4000
namespace Go.Proofs.YthehcplogkgkeaaGreatDoor
open Go.ChangeShapes Go.WideShapes Go.ChangeAt Go.RowKit Wd

theorem places_len : ∀ f : Fin 15, (placesOf f.val).length ≤ 32 := by decide +kernel
theorem places_range : ∀ f : Fin 15, ∀ x ∈ placesOf f.val, -1 ≤ x ∧ x ≤ 31 := by decide +kernel
theorem places_none : ∀ f : Fin 15, (placesOf f.val).length = 0 → signedOf f.val = false := by decide +kernel
def pbit (f : Nat) (x : Int) (j : Nat) : Bool := tbI x ((placesOf f).getD j (-1))
def immN (f : Nat) (x : Int) : Int := ((sumTo (pbit f x) (placesOf f).length : Nat) : Int)
def immS (f : Nat) (x : Int) : Int := wrap64 (if signedOf f then signS (immN f x) (placesOf f).length else immN f x)
theorem immN_range (f : Nat) (hf : f < 15) (x : Int) : 0 ≤ immN f x ∧ immN f x < 18446744073709551616 := by
  have h := places_len ⟨f, hf⟩
  simp only at h
  have a := sumTo_lt (pbit f x) (placesOf f).length
  have b : 2 ^ (placesOf f).length ≤ 2 ^ 32 := Nat.pow_le_pow_right (by decide) h
  unfold immN
  omega
set_option maxHeartbeats 400000 in
theorem of_0 (ao : Option Addr) (cap : Nat) (w : World) : Calls Tryz.prog 85 #[.slice ao 0 cap] w fun e w' => e = .returned (.int .u64 0) ∧ w = w' := by
  go_enter Tryz.func85, Tryz.ntmps85
  go_wp2
  go_loop [3, 4] (fun t i => i = .int .i64 (-1) ∧ t = .int .u64 0) (fun _ _ => 0)
  case atStart => exact ⟨rfl, rfl⟩
  case round =>
    obtain ⟨rfl, rfl⟩ := hrel
    go_wp2
    go_ret
    exact ⟨rfl, rfl⟩

set_option maxHeartbeats 4000000 in
theorem refImm_c (f : Nat) (hf : f < 15) (x : Int) (w : World) (hx0 : 0 ≤ x) (hx : x < 18446744073709551616) :
    Calls Tryz.prog 50 #[strV (Tab.names3.getD f []), .int .u64 x] w fun e w' => e = .returned (.int .i64 (immS f x)) ∧ Below w.heap.size w w' := by
  obtain ⟨i0, hi, hz0, hz1, hz2⟩ := info_parts info_u64
  have hpl := places_len ⟨f, hf⟩
  simp only at hpl
  obtain ⟨n, hn⟩ : ∃ n, (placesOf f).length = n := ⟨_, rfl⟩
  rw [hn] at hpl
  have HN := Lib.hid hn
  have HIM := Lib.hid (show immS f x = wrap64 (if signedOf f then signS (immN f x) n else immN f x) from by unfold immS; rw [hn])
  have HIN := Lib.hid (show immN f x = ((sumTo (pbit f x) n : Nat) : Int) from by unfold immN; rw [hn])
  obtain ⟨r0, r1⟩ := immN_range f hf x
  clear hn
  generalize hnm : Tab.names3.getD f [] = nm
  have HNM := Lib.hid hnm
  clear hnm
  go_enter Tryz.func50, Tryz.ntmps50
  go_wp2_with fail
  rw [← HNM.out]
  refine (refPlaces_c f hf _).mono ?_
  rintro e w1 ⟨v, rfl, hown, hB⟩
  rw [HN.out] at hown
  by_cases hn0 : n = 0
  · have hs : signedOf f = false := places_none ⟨f, hf⟩ (by simp only; rw [HN.out]; exact hn0)
    have HZ := Lib.hid (show (0 : Int) = immS f x from by rw [HIM.out, hs, HIN.out, hn0]; simp [sumTo, wrap64])
    obtain ⟨ao, cp, rfl⟩ : ∃ ao cp, v = .slice ao 0 cp := by
      rcases hown.2 with ⟨h1, _⟩ | ⟨g, cap, cur, h1, _⟩
      · exact ⟨_, _, h1⟩
      · exact ⟨_, _, by rw [h1, hn0]⟩
    rw [hs]
    have HB := Lib.hid hB
    clear hown hB hn0 hpl HN HIM HIN hs
    go_wp2_with fail
    go_loop [7, 8] (fun v i => i = .int .i64 0 ∧ v = .slice none 0 0) (fun _ _ => 0)
    case atStart => exact ⟨rfl, rfl⟩
    case round =>
      obtain ⟨rfl, rfl⟩ := hrel
      go_wp2_with fail
      refine (of_0 _ _ _).mono ?_
      rintro e w' ⟨rfl, rfl⟩
      go_wp2_with fail
      go_ret
      exact ⟨ret_u HZ.out, HB.out⟩
  · obtain ⟨g, cap, cur, rfl, hb, hg, hcap, hmax, hcs, htake⟩ := hown.2.resolve_left (fun h => by omega)
    have hglt : g < w1.heap.size := (Array.getElem?_eq_some_iff.1 hg).1
    have HC := Lib.hid (show ∀ j, j < n → w1.cell? ⟨g, j, none⟩ = some (.int .i64 ((placesOf f).getD j (-1))) from fun j hj => by
      rw [hown.cellAt j (by omega)]
      have hj' : j < (placesOf f).length := by rw [HN.out]; exact hj
      simp [List.getD, hj'])
    have HB := Lib.hid hB
    clear hown hb hg hcs htake hmax hB
    go_wp2_with fail
    go_loopw [7, 8] (fun v i wr => ∃ k : Nat, k ≤ n ∧ i = .int .i64 k ∧ wr.ownsRow w1.heap.size 41 1 v k (bl (pbit f x) k) ∧ Below w1.heap.size w1 wr) (fun _ i _ => n - (intOf i).toNat)
    case atStart => exact ⟨0, Nat.zero_le _, rfl, World.ownsRow_nil _ _ _ _, Below.refl _ _⟩
    case round =>
      obtain ⟨k, hk, rfl, hown, hnx⟩ := hrel
      have hsz := hnx.size
      have HO := Lib.hid hown
      clear hown
      by_cases hlt : k < n
      · have hc := (hnx.cell (p := ⟨g, k, none⟩) hglt).trans (HC.out k hlt)
        have hb : tbI x ((placesOf f).getD k (-1)) = pbit f x k := rfl
        have HBB := Lib.hid hb
        clear hb
        generalize (placesOf f).getD k (-1) = pk at *
        go_wp2_with (first
          | (go_at_call 53; refine (bit_c _ _ _ hx0 hx).mono ?_; rintro e w' ⟨rfl, rfl⟩)
          | (at_builtin; refine wpList_append_own _ rfl _ _ 38 rfl w1.heap.size 41 i0 (.int .u64 0) 1 8 Tryz.underlying38 hi hz0 hz1 hz2 rfl (by decide) _ _ _ rfl (HO.out.alloc _) ⟨wr.heap.size, 0, none⟩ 1 1 [.int .u64 (bi (tbI x pk))] rfl rfl news_one (one_cell _) (by unfold maxLen; omega) (by omega) (by simp; omega) ?_; intro v' w2 hown' hgrow _))
        have R := rel_app hsz HBB.out HO.out hown' hgrow hnx
        go_roundw
        case rel => exact ⟨k + 1, by omega, by go_num, R.1, R.2⟩
        case measure => simp [intOf]; omega
      · obtain rfl : n = k := by omega
        have HB2 := Lib.hid (HB.out.trans (hnx.mono HB.out.size))
        cases hs : signedOf f
        · go_wp2_with fail
          refine (of_c (pbit f x) n _ w1.heap.size _ (by omega) (by omega) HO.out).mono ?_
          rintro e w' ⟨rfl, rfl⟩
          rw [← HIN.out]
          go_wp2_with fail
          go_ret
          exact ⟨ret_u (by rw [HIM.out, hs]; rfl), HB2.out⟩
        · go_wp2_with fail
          refine (of_c (pbit f x) n _ w1.heap.size _ (by omega) (by omega) HO.out).mono ?_
          rintro e w' ⟨rfl, rfl⟩
          rw [← HIN.out]
          go_wp2_with fail
          refine (refSign_c _ _ _ r0 r1 (by omega)).mono ?_
          rintro e w3 ⟨rfl, hb3⟩
          go_wp2_with fail
          go_ret
          exact ⟨ret_u (by rw [HIM.out, hs]; rfl), HB2.out.trans (hb3.mono HB2.out.size)⟩
end Go.Proofs.YthehcplogkgkeaaGreatDoor
set_option maxRecDepth 4000
namespace Go.Proofs.YthehcplogkgkeaaGreatDoor
open Go.ChangeShapes Go.WideShapes Go.ChangeAt Go.RowKit Wd

def layW (f : Nat) (x : Int) : Nat → Int
  | 0 => 0
  | k + 1 => if 0 ≤ (placesOf f).getD k (-1) then putS (layW f x k) ((placesOf f).getD k (-1)) 1 (bi (tbI x k)) else layW f x k
def layS (f : Nat) (n : Int) : Int := layW f (IntKind.u64.wrap n) (placesOf f).length
theorem layW_range (f : Nat) (x : Int) (k : Nat) : 0 ≤ layW f x k ∧ layW f x k < 18446744073709551616 := by
  induction k with
  | zero => exact ⟨by unfold layW; omega, by unfold layW; omega⟩
  | succ k ih =>
    unfold layW
    split
    · exact putS_range _ _ _ _
    · exact ih
theorem layS_range (f : Nat) (n : Int) : 0 ≤ layS f n ∧ layS f n < 18446744073709551616 := layW_range _ _ _
theorem getD_range (f : Nat) (hf : f < 15) (k : Nat) : -1 ≤ (placesOf f).getD k (-1) ∧ (placesOf f).getD k (-1) ≤ 31 := by
  by_cases h : k < (placesOf f).length
  · have := places_range ⟨f, hf⟩ ((placesOf f)[k]) (List.getElem_mem h)
    simp [List.getD, h]
    exact this
  · simp [List.getD, h]

set_option maxHeartbeats 4000000 in
theorem refLay_c (f : Nat) (hf : f < 15) (x : Int) (w : World) :
    Calls Tryz.prog 67 #[strV (Tab.names3.getD f []), .int .i64 x] w fun e w' => e = .returned (.int .u64 (layS f x)) ∧ Below w.heap.size w w' := by
  have hpl := places_len ⟨f, hf⟩
  simp only at hpl
  obtain ⟨n, hn⟩ : ∃ n, (placesOf f).length = n := ⟨_, rfl⟩
  rw [hn] at hpl
  have HN := Lib.hid hn
  have HL := Lib.hid (show layS f x = layW f (IntKind.u64.wrap x) n from by unfold layS; rw [hn])
  clear hn
  obtain ⟨r0, r1⟩ := wrap_range x
  generalize hnm : Tab.names3.getD f [] = nm
  have HNM := Lib.hid hnm
  clear hnm
  go_enter Tryz.func67, Tryz.ntmps67
  go_wp2_with fail
  rw [← HNM.out]
  refine (refPlaces_c f hf _).mono ?_
  rintro e w1 ⟨v, rfl, hown, hB⟩
  rw [HN.out] at hown
  by_cases hn0 : n = 0
  · have HZ := Lib.hid (show (0 : Int) = layS f x from by rw [HL.out, hn0]; rfl)
    obtain ⟨ao, cp, rfl⟩ : ∃ ao cp, v = .slice ao 0 cp := by
      rcases hown.2 with ⟨h1, _⟩ | ⟨g, cap, cur, h1, _⟩
      · exact ⟨_, _, h1⟩
      · exact ⟨_, _, by rw [h1, hn0]⟩
    have HB := Lib.hid hB
    clear hown hB hn0 hpl HN HL
    go_wp2_with fail
    go_loop [7, 8] (fun v i => i = .int .i64 0 ∧ v = .int .u64 0) (fun _ _ => 0)
    case atStart => exact ⟨rfl, rfl⟩
    case round =>
      obtain ⟨rfl, rfl⟩ := hrel
      go_wp2_with fail
      go_ret
      exact ⟨ret_u HZ.out, HB.out⟩
  · obtain ⟨g, cap, cur, rfl, hb, hg, hcap, hmax, hcs, htake⟩ := hown.2.resolve_left (fun h => by omega)
    have hglt : g < w1.heap.size := (Array.getElem?_eq_some_iff.1 hg).1
    have HC := Lib.hid (show ∀ j, j < n → w1.cell? ⟨g, j, none⟩ = some (.int .i64 ((placesOf f).getD j (-1))) from fun j hj => by
      rw [hown.cellAt j (by omega)]
      have hj' : j < (placesOf f).length := by rw [HN.out]; exact hj
      simp [List.getD, hj'])
    have HB := Lib.hid hB
    clear hown hb hg hcs htake hmax hB
    go_wp2_with fail
    go_loopw [7, 8] (fun v i wr => ∃ k : Nat, k ≤ n ∧ i = .int .i64 k ∧ v = .int .u64 (layW f (IntKind.u64.wrap x) k) ∧ Below w1.heap.size w1 wr) (fun _ i _ => n - (intOf i).toNat)
    case atStart => exact ⟨0, Nat.zero_le _, rfl, rfl, Below.refl _ _⟩
    case round =>
      obtain ⟨k, hk, rfl, rfl, hnx⟩ := hrel
      have hsz := hnx.size
      obtain ⟨l0, l1⟩ := layW_range f (IntKind.u64.wrap x) k
      by_cases hlt : k < n
      · have h1 := (hnx.cell (p := ⟨g, k, none⟩) hglt).trans (HC.out k hlt)
        have HS := Lib.hid (show layW f (IntKind.u64.wrap x) (k + 1) = if 0 ≤ (placesOf f).getD k (-1) then putS (layW f (IntKind.u64.wrap x) k) ((placesOf f).getD k (-1)) 1 (bi (tbI (IntKind.u64.wrap x) k)) else layW f (IntKind.u64.wrap x) k from rfl)
        obtain ⟨p0, p1⟩ := getD_range f hf k
        generalize (placesOf f).getD k (-1) = pk at *
        generalize layW f (IntKind.u64.wrap x) k = lw at *
        obtain ⟨b0, b1⟩ := bi_range (tbI (IntKind.u64.wrap x) k)
        have g0 : decide ((k : Int) < n) = true := decide_eq_true (by omega)
        by_cases hp : 0 ≤ pk
        · have g1 : decide (0 ≤ pk) = true := decide_eq_true hp
          go_wp2_with fail
          clear g0 g1
          go_region_held3 (fun w' => w'.cell? ⟨g, k, none⟩ = some (.int .i64 pk)) (first | exact h1 | exact k1)
            (first
              | (go_at_call 53; refine (bit_c _ _ _ r0 r1).mono ?_; rintro e w' ⟨rfl, rfl⟩)
              | (go_at_call 107; refine (refPut_c lw pk 1 _ _ l0 l1 (by omega) (by omega) b0 (by omega)).mono ?_; rintro e w2 ⟨rfl, hb2⟩; have k1 := (hb2.cell (p := ⟨g, k, none⟩) (Nat.lt_of_lt_of_le hglt hsz)).trans h1))
          clear h1
          go_wp2_with fail
          go_roundw
          case rel => exact ⟨k + 1, by omega, by go_num, by rw [HS.out, if_pos hp], hnx.drew.trans (hb2.mono hsz)⟩
          case measure => simp [intOf]; omega
        · have g1 : decide (0 ≤ pk) = false := decide_eq_false hp
          go_wp2_with fail
          clear g0 g1
          go_roundw
          case rel => exact ⟨k + 1, by omega, by go_num, by rw [HS.out, if_neg hp], hnx⟩
          case measure => simp [intOf]; omega
      · obtain rfl : n = k := by omega
        have HB2 := Lib.hid (HB.out.trans (hnx.mono HB.out.size))
        go_wp2_with fail
        go_ret
        exact ⟨ret_u (by rw [HL.out]), HB2.out⟩
end Go.Proofs.YthehcplogkgkeaaGreatDoor
set_option maxRecDepth 4000
namespace Go.Proofs.YthehcplogkgkeaaGreatDoor
open Go.ChangeShapes Go.WideShapes Go.ChangeAt Go.RowKit Wd

def btw (op a b : Int) : Bool := decide (a ≤ op) && decide (op ≤ b)
theorem btw_iff {op a b : Int} : btw op a b = true ↔ a ≤ op ∧ op ≤ b := by simp [btw]
theorem btw_no {op a b : Int} (h : ¬ (a ≤ op ∧ op ≤ b)) : btw op a b = false := by
  cases hb : btw op a b
  · rfl
  · exact absurd (btw_iff.1 hb) h
def anyS (op : Int) (L : List (Int × Int)) : Bool := L.any fun s => btw op s.1 s.2
theorem any_snoc (op : Int) (L : List (Int × Int)) (k : Nat) (s : Int × Int) (h : L[k]? = some s) : anyS op (L.take (k + 1)) = (anyS op (L.take k) || btw op s.1 s.2) := by
  have e : L.take (k + 1) = L.take k ++ [s] := by rw [List.take_add_one, h]; rfl
  unfold anyS
  rw [e, List.any_append]
  simp
theorem any_of_take {op : Int} {L : List (Int × Int)} {k : Nat} (h : anyS op (L.take k) = true) : anyS op L = true := by
  unfold anyS at *
  rw [List.any_eq_true] at *
  obtain ⟨x, hx, hp⟩ := h
  exact ⟨x, List.mem_of_mem_take hx, hp⟩
def SpansAt (w : World) (g : Nat) (L : List (Int × Int)) : Prop := ∀ k s, L[k]? = some s → w.cell? ⟨g, k * 2, none⟩ = some (.int .i64 s.1) ∧ w.cell? ⟨g, k * 2 + 1, none⟩ = some (.int .i64 s.2)
set_option maxHeartbeats 2000000 in
theorem among_c (op : Int) (L : List (Int × Int)) (g : Nat) (w : World) (hg : g < w.heap.size) (hlen : L.length ≤ 10) (hc : SpansAt w g L) :
    Calls Tryz.prog 66 #[.int .i64 op, .slice (some ⟨g, 0, none⟩) L.length L.length] w fun e w' => e = .returned (.bool (anyS op L)) ∧ Below w.heap.size w w' := by
  have HC := Lib.hid hc
  clear hc
  obtain ⟨n, hn⟩ : ∃ n, L.length = n := ⟨_, rfl⟩
  rw [hn] at hlen
  have HN := Lib.hid hn
  rw [hn]
  generalize hr : anyS op L = r
  have HR := Lib.hid hr
  clear hr hn
  go_enter Tryz.func66, Tryz.ntmps66
  go_wp2_with fail
  go_loopw [9] (fun i wr => ∃ k : Nat, k ≤ n ∧ i = .int .i64 k ∧ Below w.heap.size w wr ∧ anyS op (L.take k) = false) (fun i _ => n - (intOf i).toNat)
  case atStart => exact ⟨0, Nat.zero_le _, rfl, Below.refl _ _, rfl⟩
  case round =>
    obtain ⟨k, hk, rfl, hb, ha⟩ := hrel
    have HB := Lib.hid hb
    have HA := Lib.hid ha
    have hsz := hb.size
    clear hb ha
    by_cases hlt : k < n
    · obtain ⟨s, hs⟩ : ∃ s, L[k]? = some s := ⟨L[k]'(by rw [HN.out]; exact hlt), List.getElem?_eq_getElem _⟩
      have HK := Lib.hid (any_snoc op L k s hs)
      obtain ⟨c0, c1⟩ := HC.out k s hs
      have d0 := (HB.out.cell (p := ⟨g, k * 2, none⟩) hg).trans c0
      have d1 := (HB.out.cell (p := ⟨g, k * 2 + 1, none⟩) hg).trans c1
      clear c0 c1 hs
      obtain ⟨a, b⟩ := s
      simp only at d0 d1 HK
      by_cases h1 : a ≤ op
      · have e1 : decide (a ≤ op) = true := by simpa using h1
        by_cases h2 : op ≤ b
        · have e2 : decide (op ≤ b) = true := by simpa using h2
          have HT := Lib.hid (show anyS op L = true from any_of_take (k := k + 1) (by rw [HK.out, HA.out, btw_iff.2 ⟨h1, h2⟩]; rfl))
          clear h1 h2
          go_wp2_with fail
          go_ret
          exact ⟨ret_b (by rw [← HR.out, HT.out]), HB.out.alloc hsz _⟩
        · have e2 : decide (op ≤ b) = false := by simpa using h2
          have HT := Lib.hid (show anyS op (L.take (k + 1)) = false by rw [HK.out, HA.out, btw_no (by omega)]; rfl)
          clear h1 h2
          go_wp2_with fail
          go_roundw
          case rel => exact ⟨k + 1, by omega, by go_num, HB.out.alloc hsz _, HT.out⟩
          case measure => simp [intOf]; omega
      · have e1 : decide (a ≤ op) = false := by simpa using h1
        have HT := Lib.hid (show anyS op (L.take (k + 1)) = false by rw [HK.out, HA.out, btw_no (by omega)]; rfl)
        clear h1
        go_wp2_with fail
        go_roundw
        case rel => exact ⟨k + 1, by omega, by go_num, HB.out.alloc hsz _, HT.out⟩
        case measure => simp [intOf]; omega
    · obtain rfl : n = k := by omega
      go_wp2_with fail
      go_ret
      exact ⟨ret_b (by rw [← HR.out, ← HA.out, List.take_of_length_le (by rw [HN.out]; exact Nat.le_refl _)]), HB.out⟩
end Go.Proofs.YthehcplogkgkeaaGreatDoor
set_option maxRecDepth 4000
namespace Go.Proofs.YthehcplogkgkeaaGreatDoor
open Go.ChangeShapes Go.WideShapes Go.ChangeAt Go.RowKit Wd

theorem flatN {α β : Type} (f : α → List β) (n : Nat) (hf : ∀ x, (f x).length = n) (l : List α) (k j : Nat) (hj : j < n) (a : α) (ha : l[k]? = some a) : (l.flatMap f)[k * n + j]? = (f a)[j]? := by
  induction l generalizing k with
  | nil => simp at ha
  | cons x xs ih =>
    cases k with
    | zero =>
      simp at ha
      subst ha
      rw [List.flatMap_cons, List.getElem?_append_left (by rw [hf]; omega)]
      simp
    | succ k =>
      have e : (k + 1) * n = k * n + n := Nat.succ_mul k n
      rw [List.flatMap_cons, List.getElem?_append_right (by rw [hf]; omega), hf]
      rw [show (k + 1) * n + j - n = k * n + j by omega]
      exact ih k (by simpa using ha)
theorem spans_new (W : World) (t : TypeId) (L : List (Int × Int)) : SpansAt (W.alloc (.cells (L.flatMap fun s => [Value.int .i64 s.1, Value.int .i64 s.2]).toArray t)) W.heap.size L := by
  intro k s hk
  have c : ∀ j, j < 2 → (W.alloc (.cells (L.flatMap fun s => [Value.int .i64 s.1, Value.int .i64 s.2]).toArray t)).cell? ⟨W.heap.size, k * 2 + j, none⟩ = [Value.int .i64 s.1, Value.int .i64 s.2][j]? := by
    intro j hj
    rw [cell_of_row _ W.heap.size (k * 2 + j) (L.flatMap fun s => [Value.int .i64 s.1, Value.int .i64 s.2]).toArray t (0, 0) (heap_alloc_new W _)]
    rw [List.getElem?_toArray]
    exact flatN _ 2 (fun x => rfl) L k j hj s hk
  exact ⟨c 0 (by omega), c 1 (by omega)⟩
def fmtN (op : Int) : Nat := (findRow op).2.1
def fmtI (op : Int) : Int := if anyS op [(31, 40), (45, 49), (54, 66)] then 1 else if anyS op [(4, 4), (11, 17), (22, 27), (41, 41), (50, 51)] then 2 else if anyS op [(18, 21)] then 3 else if anyS op [(5, 10)] then 4 else if anyS op [(1, 2)] then 5 else if anyS op [(3, 3)] then 6 else if anyS op [(28, 30)] then 7 else if anyS op [(42, 44)] then 8 else if anyS op [(89, 91)] then 9 else if anyS op [(92, 94)] then 10 else if anyS op [(68, 77), (79, 88)] then 11 else if anyS op [(67, 67), (78, 78)] then 12 else if anyS op [(52, 53), (95, 97)] then 13 else if anyS op [(98, 98)] then 14 else 0
theorem fmt_tab (op : Int) : ((fmtN op : Nat) : Int) = fmtI op := by
  by_cases h : 1 ≤ op ∧ op ≤ 98
  · have l : ∀ k : Fin 99, 1 ≤ k.val → ((fmtN (k.val : Nat) : Nat) : Int) = fmtI (k.val : Nat) := by decide +kernel
    have := l ⟨op.toNat, by omega⟩ (by simp only; omega)
    simp only at this
    rw [show ((op.toNat : Nat) : Int) = op by omega] at this
    exact this
  · unfold fmtN findRow fmtI
    rw [if_neg h]
    have n : ∀ L : List (Int × Int), (∀ s ∈ L, 1 ≤ s.1 ∧ s.2 ≤ 98) → anyS op L = false := fun L hL => by
      unfold anyS
      rw [List.any_eq_false]
      intro s hs
      have := hL s hs
      rw [btw_no (by omega)]
      exact Bool.false_ne_true
    rw [n [(31, 40), (45, 49), (54, 66)] (by decide), n [(4, 4), (11, 17), (22, 27), (41, 41), (50, 51)] (by decide), n [(18, 21)] (by decide), n [(5, 10)] (by decide), n [(1, 2)] (by decide), n [(3, 3)] (by decide), n [(28, 30)] (by decide), n [(42, 44)] (by decide), n [(89, 91)] (by decide), n [(92, 94)] (by decide), n [(68, 77), (79, 88)] (by decide), n [(67, 67), (78, 78)] (by decide), n [(52, 53), (95, 97)] (by decide), n [(98, 98)] (by decide)]
    rfl
theorem fmtN_lt (op : Int) : fmtN op < 15 := by
  unfold fmtN findRow
  split
  · rename_i h
    have l : ∀ k : Fin 98, (rowAt k.val).2.1 < 15 := by decide +kernel
    exact l ⟨op.toNat - 1, by omega⟩
  · decide
set_option maxHeartbeats 4000000 in
set_option maxRecDepth 100000 in
theorem formatOf_c (op : Int) (w : World) : Calls Tryz.prog 22 #[.int .i64 op] w fun e w' => e = .returned (.int .i64 (fmtN op : Nat)) ∧ Below w.heap.size w w' := by
  rw [fmt_tab]
  generalize hc : fmtI op = c
  have HC := Lib.hid hc
  have HB := Lib.hid (Below.refl w.heap.size w)
  clear hc
  go_enter Tryz.func22, Tryz.ntmps22
  go_wp2_with fail
  refine (among_c op [(31, 40), (45, 49), (54, 66)] _ _ (by simp) (by decide) (spans_new _ _ [(31, 40), (45, 49), (54, 66)])).mono ?_
  rintro e w1 ⟨rfl, hb⟩
  have HB := Lib.hid (HB.out.trans ((((Below.refl _ _).alloc (Nat.le_refl _) _).trans (hb.mono (by simp))).mono HB.out.size))
  clear hb
  rcases Bool.eq_false_or_eq_true (anyS op [(31, 40), (45, 49), (54, 66)]) with h1 | h1
  · have HX := Lib.hid (show (1 : Int) = fmtI op by unfold fmtI; simp only [h1, if_true])
    rw [h1]
    go_wp2_with fail
    go_ret
    exact ⟨ret_u (by rw [← HC.out]; exact HX.out), HB.out⟩
  rw [h1]
  go_wp2_with fail
  refine (among_c op [(4, 4), (11, 17), (22, 27), (41, 41), (50, 51)] _ _ (by simp) (by decide) (spans_new _ _ [(4, 4), (11, 17), (22, 27), (41, 41), (50, 51)])).mono ?_
  rintro e w2 ⟨rfl, hb⟩
  have HB := Lib.hid (HB.out.trans ((((Below.refl _ _).alloc (Nat.le_refl _) _).trans (hb.mono (by simp))).mono HB.out.size))
  clear hb
  rcases Bool.eq_false_or_eq_true (anyS op [(4, 4), (11, 17), (22, 27), (41, 41), (50, 51)]) with h2 | h2
  · have HX := Lib.hid (show (2 : Int) = fmtI op by unfold fmtI; simp only [h1, h2, if_true, if_false, Bool.false_eq_true])
    rw [h2]
    go_wp2_with fail
    go_ret
    exact ⟨ret_u (by rw [← HC.out]; exact HX.out), HB.out⟩
  rw [h2]
  go_wp2_with fail
  refine (among_c op [(18, 21)] _ _ (by simp) (by decide) (spans_new _ _ [(18, 21)])).mono ?_
  rintro e w3 ⟨rfl, hb⟩
  have HB := Lib.hid (HB.out.trans ((((Below.refl _ _).alloc (Nat.le_refl _) _).trans (hb.mono (by simp))).mono HB.out.size))
  clear hb
  rcases Bool.eq_false_or_eq_true (anyS op [(18, 21)]) with h3 | h3
  · have HX := Lib.hid (show (3 : Int) = fmtI op by unfold fmtI; simp only [h1, h2, h3, if_true, if_false, Bool.false_eq_true])
    rw [h3]
    go_wp2_with fail
    go_ret
    exact ⟨ret_u (by rw [← HC.out]; exact HX.out), HB.out⟩
  rw [h3]
  go_wp2_with fail
  refine (among_c op [(5, 10)] _ _ (by simp) (by decide) (spans_new _ _ [(5, 10)])).mono ?_
  rintro e w4 ⟨rfl, hb⟩
  have HB := Lib.hid (HB.out.trans ((((Below.refl _ _).alloc (Nat.le_refl _) _).trans (hb.mono (by simp))).mono HB.out.size))
  clear hb
  rcases Bool.eq_false_or_eq_true (anyS op [(5, 10)]) with h4 | h4
  · have HX := Lib.hid (show (4 : Int) = fmtI op by unfold fmtI; simp only [h1, h2, h3, h4, if_true, if_false, Bool.false_eq_true])
    rw [h4]
    go_wp2_with fail
    go_ret
    exact ⟨ret_u (by rw [← HC.out]; exact HX.out), HB.out⟩
  rw [h4]
  go_wp2_with fail
  refine (among_c op [(1, 2)] _ _ (by simp) (by decide) (spans_new _ _ [(1, 2)])).mono ?_
  rintro e w5 ⟨rfl, hb⟩
  have HB := Lib.hid (HB.out.trans ((((Below.refl _ _).alloc (Nat.le_refl _) _).trans (hb.mono (by simp))).mono HB.out.size))
  clear hb
  rcases Bool.eq_false_or_eq_true (anyS op [(1, 2)]) with h5 | h5
  · have HX := Lib.hid (show (5 : Int) = fmtI op by unfold fmtI; simp only [h1, h2, h3, h4, h5, if_true, if_false, Bool.false_eq_true])
    rw [h5]
    go_wp2_with fail
    go_ret
    exact ⟨ret_u (by rw [← HC.out]; exact HX.out), HB.out⟩
  rw [h5]
  go_wp2_with fail
  refine (among_c op [(3, 3)] _ _ (by simp) (by decide) (spans_new _ _ [(3, 3)])).mono ?_
  rintro e w6 ⟨rfl, hb⟩
  have HB := Lib.hid (HB.out.trans ((((Below.refl _ _).alloc (Nat.le_refl _) _).trans (hb.mono (by simp))).mono HB.out.size))
  clear hb
  rcases Bool.eq_false_or_eq_true (anyS op [(3, 3)]) with h6 | h6
  · have HX := Lib.hid (show (6 : Int) = fmtI op by unfold fmtI; simp only [h1, h2, h3, h4, h5, h6, if_true, if_false, Bool.false_eq_true])
    rw [h6]
    go_wp2_with fail
    go_ret
    exact ⟨ret_u (by rw [← HC.out]; exact HX.out), HB.out⟩
  rw [h6]
  go_wp2_with fail
  refine (among_c op [(28, 30)] _ _ (by simp) (by decide) (spans_new _ _ [(28, 30)])).mono ?_
  rintro e w7 ⟨rfl, hb⟩
  have HB := Lib.hid (HB.out.trans ((((Below.refl _ _).alloc (Nat.le_refl _) _).trans (hb.mono (by simp))).mono HB.out.size))
  clear hb
  rcases Bool.eq_false_or_eq_true (anyS op [(28, 30)]) with h7 | h7
  · have HX := Lib.hid (show (7 : Int) = fmtI op by unfold fmtI; simp only [h1, h2, h3, h4, h5, h6, h7, if_true, if_false, Bool.false_eq_true])
    rw [h7]
    go_wp2_with fail
    go_ret
    exact ⟨ret_u (by rw [← HC.out]; exact HX.out), HB.out⟩
  rw [h7]
  go_wp2_with fail
  refine (among_c op [(42, 44)] _ _ (by simp) (by decide) (spans_new _ _ [(42, 44)])).mono ?_
  rintro e w8 ⟨rfl, hb⟩
  have HB := Lib.hid (HB.out.trans ((((Below.refl _ _).alloc (Nat.le_refl _) _).trans (hb.mono (by simp))).mono HB.out.size))
  clear hb
  rcases Bool.eq_false_or_eq_true (anyS op [(42, 44)]) with h8 | h8
  · have HX := Lib.hid (show (8 : Int) = fmtI op by unfold fmtI; simp only [h1, h2, h3, h4, h5, h6, h7, h8, if_true, if_false, Bool.false_eq_true])
    rw [h8]
    go_wp2_with fail
    go_ret
    exact ⟨ret_u (by rw [← HC.out]; exact HX.out), HB.out⟩
  rw [h8]
  go_wp2_with fail
  refine (among_c op [(89, 91)] _ _ (by simp) (by decide) (spans_new _ _ [(89, 91)])).mono ?_
  rintro e w9 ⟨rfl, hb⟩
  have HB := Lib.hid (HB.out.trans ((((Below.refl _ _).alloc (Nat.le_refl _) _).trans (hb.mono (by simp))).mono HB.out.size))
  clear hb
  rcases Bool.eq_false_or_eq_true (anyS op [(89, 91)]) with h9 | h9
  · have HX := Lib.hid (show (9 : Int) = fmtI op by unfold fmtI; simp only [h1, h2, h3, h4, h5, h6, h7, h8, h9, if_true, if_false, Bool.false_eq_true])
    rw [h9]
    go_wp2_with fail
    go_ret
    exact ⟨ret_u (by rw [← HC.out]; exact HX.out), HB.out⟩
  rw [h9]
  go_wp2_with fail
  refine (among_c op [(92, 94)] _ _ (by simp) (by decide) (spans_new _ _ [(92, 94)])).mono ?_
  rintro e w10 ⟨rfl, hb⟩
  have HB := Lib.hid (HB.out.trans ((((Below.refl _ _).alloc (Nat.le_refl _) _).trans (hb.mono (by simp))).mono HB.out.size))
  clear hb
  rcases Bool.eq_false_or_eq_true (anyS op [(92, 94)]) with h10 | h10
  · have HX := Lib.hid (show (10 : Int) = fmtI op by unfold fmtI; simp only [h1, h2, h3, h4, h5, h6, h7, h8, h9, h10, if_true, if_false, Bool.false_eq_true])
    rw [h10]
    go_wp2_with fail
    go_ret
    exact ⟨ret_u (by rw [← HC.out]; exact HX.out), HB.out⟩
  rw [h10]
  go_wp2_with fail
  refine (among_c op [(68, 77), (79, 88)] _ _ (by simp) (by decide) (spans_new _ _ [(68, 77), (79, 88)])).mono ?_
  rintro e w11 ⟨rfl, hb⟩
  have HB := Lib.hid (HB.out.trans ((((Below.refl _ _).alloc (Nat.le_refl _) _).trans (hb.mono (by simp))).mono HB.out.size))
  clear hb
  rcases Bool.eq_false_or_eq_true (anyS op [(68, 77), (79, 88)]) with h11 | h11
  · have HX := Lib.hid (show (11 : Int) = fmtI op by unfold fmtI; simp only [h1, h2, h3, h4, h5, h6, h7, h8, h9, h10, h11, if_true, if_false, Bool.false_eq_true])
    rw [h11]
    go_wp2_with fail
    go_ret
    exact ⟨ret_u (by rw [← HC.out]; exact HX.out), HB.out⟩
  rw [h11]
  go_wp2_with fail
  refine (among_c op [(67, 67), (78, 78)] _ _ (by simp) (by decide) (spans_new _ _ [(67, 67), (78, 78)])).mono ?_
  rintro e w12 ⟨rfl, hb⟩
  have HB := Lib.hid (HB.out.trans ((((Below.refl _ _).alloc (Nat.le_refl _) _).trans (hb.mono (by simp))).mono HB.out.size))
  clear hb
  rcases Bool.eq_false_or_eq_true (anyS op [(67, 67), (78, 78)]) with h12 | h12
  · have HX := Lib.hid (show (12 : Int) = fmtI op by unfold fmtI; simp only [h1, h2, h3, h4, h5, h6, h7, h8, h9, h10, h11, h12, if_true, if_false, Bool.false_eq_true])
    rw [h12]
    go_wp2_with fail
    go_ret
    exact ⟨ret_u (by rw [← HC.out]; exact HX.out), HB.out⟩
  rw [h12]
  go_wp2_with fail
  refine (among_c op [(52, 53), (95, 97)] _ _ (by simp) (by decide) (spans_new _ _ [(52, 53), (95, 97)])).mono ?_
  rintro e w13 ⟨rfl, hb⟩
  have HB := Lib.hid (HB.out.trans ((((Below.refl _ _).alloc (Nat.le_refl _) _).trans (hb.mono (by simp))).mono HB.out.size))
  clear hb
  rcases Bool.eq_false_or_eq_true (anyS op [(52, 53), (95, 97)]) with h13 | h13
  · have HX := Lib.hid (show (13 : Int) = fmtI op by unfold fmtI; simp only [h1, h2, h3, h4, h5, h6, h7, h8, h9, h10, h11, h12, h13, if_true, if_false, Bool.false_eq_true])
    rw [h13]
    go_wp2_with fail
    go_ret
    exact ⟨ret_u (by rw [← HC.out]; exact HX.out), HB.out⟩
  rw [h13]
  go_wp2_with fail
  refine (among_c op [(98, 98)] _ _ (by simp) (by decide) (spans_new _ _ [(98, 98)])).mono ?_
  rintro e w14 ⟨rfl, hb⟩
  have HB := Lib.hid (HB.out.trans ((((Below.refl _ _).alloc (Nat.le_refl _) _).trans (hb.mono (by simp))).mono HB.out.size))
  clear hb
  rcases Bool.eq_false_or_eq_true (anyS op [(98, 98)]) with h14 | h14
  · have HX := Lib.hid (show (14 : Int) = fmtI op by unfold fmtI; simp only [h1, h2, h3, h4, h5, h6, h7, h8, h9, h10, h11, h12, h13, h14, if_true, if_false, Bool.false_eq_true])
    rw [h14]
    go_wp2_with fail
    go_ret
    exact ⟨ret_u (by rw [← HC.out]; exact HX.out), HB.out⟩
  rw [h14]
  have HX := Lib.hid (show (0 : Int) = fmtI op by unfold fmtI; simp only [h1, h2, h3, h4, h5, h6, h7, h8, h9, h10, h11, h12, h13, h14, if_false, Bool.false_eq_true])
  go_wp2_with fail
  go_ret
  exact ⟨ret_u (by rw [← HC.out]; exact HX.out), HB.out⟩
end Go.Proofs.YthehcplogkgkeaaGreatDoor
set_option maxRecDepth 4000
namespace Go.Proofs.YthehcplogkgkeaaGreatDoor
open Go.ChangeShapes Go.WideShapes Go.ChangeAt Go.RowKit Wd

abbrev Part := Int × Int × Int
def partV (p : Part) : List Value := [.int .i64 p.1, .int .i64 p.2.1, .int .i64 p.2.2]
def partsL (f : Int) : List Part := if f = 2 then [(20, 12, 0)] else if f = 3 then [(25, 7, 5), (7, 5, 0)] else if f = 4 then [(31, 1, 12), (7, 1, 11), (25, 6, 5), (8, 4, 1)] else if f = 5 then [(12, 20, 12)] else if f = 6 then [(31, 1, 20), (12, 8, 12), (20, 1, 11), (21, 10, 1)] else if f = 7 then [(20, 6, 0)] else if f = 8 then [(20, 5, 0)] else []
def PartsAt (w : World) (g : Nat) (L : List Part) : Prop := ∀ k p, L[k]? = some p → w.cell? ⟨g, k * 3, none⟩ = some (.int .i64 p.1) ∧ w.cell? ⟨g, k * 3 + 1, none⟩ = some (.int .i64 p.2.1) ∧ w.cell? ⟨g, k * 3 + 2, none⟩ = some (.int .i64 p.2.2)
theorem parts_new (W : World) (t : TypeId) (L : List Part) : PartsAt (W.alloc (.cells (L.flatMap partV).toArray t)) W.heap.size L := by
  intro k s hk
  have c : ∀ j, j < 3 → (W.alloc (.cells (L.flatMap partV).toArray t)).cell? ⟨W.heap.size, k * 3 + j, none⟩ = (partV s)[j]? := by
    intro j hj
    rw [cell_of_row _ W.heap.size (k * 3 + j) (L.flatMap partV).toArray t (0, 0) (heap_alloc_new W _)]
    rw [List.getElem?_toArray]
    exact flatN partV 3 (fun x => rfl) L k j hj s hk
  exact ⟨c 0 (by omega), c 1 (by omega), c 2 (by omega)⟩
/-- What parts hands back: a slice that reads so, in a block of its own. -/
def PtPost (w : World) (L : List Part) (e : Ending) (w' : World) : Prop :=
  (L = [] ∧ e = .returned (.slice none 0 0) ∧ w' = w) ∨ (L ≠ [] ∧ e = .returned (.slice (some ⟨w.heap.size, 0, none⟩) L.length L.length) ∧ PartsAt w' w.heap.size L ∧ Below w.heap.size w w' ∧ w.heap.size < w'.heap.size)
theorem pt_yes (w : World) (t : TypeId) (L : List Part) (h : L ≠ []) : PtPost w L (.returned (.slice (some ⟨w.heap.size, 0, none⟩) L.length L.length)) (w.alloc (.cells (L.flatMap partV).toArray t)) :=
  .inr ⟨h, rfl, parts_new w t L, (Below.refl _ _).alloc (Nat.le_refl _) _, by simp⟩
set_option maxHeartbeats 1000000 in
theorem parts_2 (w : World) : Calls Tryz.prog 89 #[.int .i64 2] w (PtPost w [(20, 12, 0)]) := by
  go_enter Tryz.func89, Tryz.ntmps89
  go_wp2_with fail
  go_ret
  exact pt_yes w 144 [(20, 12, 0)] (by simp)
set_option maxHeartbeats 1000000 in
theorem parts_3 (w : World) : Calls Tryz.prog 89 #[.int .i64 3] w (PtPost w [(25, 7, 5), (7, 5, 0)]) := by
  go_enter Tryz.func89, Tryz.ntmps89
  go_wp2_with fail
  go_ret
  exact pt_yes w 144 [(25, 7, 5), (7, 5, 0)] (by simp)
set_option maxHeartbeats 1000000 in
theorem parts_4 (w : World) : Calls Tryz.prog 89 #[.int .i64 4] w (PtPost w [(31, 1, 12), (7, 1, 11), (25, 6, 5), (8, 4, 1)]) := by
  go_enter Tryz.func89, Tryz.ntmps89
  go_wp2_with fail
  go_ret
  exact pt_yes w 144 [(31, 1, 12), (7, 1, 11), (25, 6, 5), (8, 4, 1)] (by simp)
set_option maxHeartbeats 1000000 in
theorem parts_5 (w : World) : Calls Tryz.prog 89 #[.int .i64 5] w (PtPost w [(12, 20, 12)]) := by
  go_enter Tryz.func89, Tryz.ntmps89
  go_wp2_with fail
  go_ret
  exact pt_yes w 144 [(12, 20, 12)] (by simp)
set_option maxHeartbeats 1000000 in
theorem parts_6 (w : World) : Calls Tryz.prog 89 #[.int .i64 6] w (PtPost w [(31, 1, 20), (12, 8, 12), (20, 1, 11), (21, 10, 1)]) := by
  go_enter Tryz.func89, Tryz.ntmps89
  go_wp2_with fail
  go_ret
  exact pt_yes w 144 [(31, 1, 20), (12, 8, 12), (20, 1, 11), (21, 10, 1)] (by simp)
set_option maxHeartbeats 1000000 in
theorem parts_7 (w : World) : Calls Tryz.prog 89 #[.int .i64 7] w (PtPost w [(20, 6, 0)]) := by
  go_enter Tryz.func89, Tryz.ntmps89
  go_wp2_with fail
  go_ret
  exact pt_yes w 144 [(20, 6, 0)] (by simp)
set_option maxHeartbeats 1000000 in
theorem parts_8 (w : World) : Calls Tryz.prog 89 #[.int .i64 8] w (PtPost w [(20, 5, 0)]) := by
  go_enter Tryz.func89, Tryz.ntmps89
  go_wp2_with fail
  go_ret
  exact pt_yes w 144 [(20, 5, 0)] (by simp)
set_option maxHeartbeats 1000000 in
theorem parts_no (f : Int) (w : World) (h2 : (f == 2) = false) (h3 : (f == 3) = false) (h4 : (f == 4) = false) (h5 : (f == 5) = false) (h6 : (f == 6) = false) (h7 : (f == 7) = false) (h8 : (f == 8) = false) : Calls Tryz.prog 89 #[.int .i64 f] w (PtPost w []) := by
  go_enter Tryz.func89, Tryz.ntmps89
  go_wp2_with fail
  go_ret
  exact .inl ⟨rfl, rfl, rfl⟩
theorem parts_c (f : Int) (w : World) : Calls Tryz.prog 89 #[.int .i64 f] w (PtPost w (partsL f)) := by
  unfold partsL
  by_cases e2 : f = 2
  · rw [if_pos e2, e2]; exact parts_2 w
  rw [if_neg e2]
  by_cases e3 : f = 3
  · rw [if_pos e3, e3]; exact parts_3 w
  rw [if_neg e3]
  by_cases e4 : f = 4
  · rw [if_pos e4, e4]; exact parts_4 w
  rw [if_neg e4]
  by_cases e5 : f = 5
  · rw [if_pos e5, e5]; exact parts_5 w
  rw [if_neg e5]
  by_cases e6 : f = 6
  · rw [if_pos e6, e6]; exact parts_6 w
  rw [if_neg e6]
  by_cases e7 : f = 7
  · rw [if_pos e7, e7]; exact parts_7 w
  rw [if_neg e7]
  by_cases e8 : f = 8
  · rw [if_pos e8, e8]; exact parts_8 w
  rw [if_neg e8]
  exact parts_no f w (by simpa using e2) (by simpa using e3) (by simpa using e4) (by simpa using e5) (by simpa using e6) (by simpa using e7) (by simpa using e8)
def sizeOfSign (f : Int) : Int := if f = 2 then 12 else if f = 3 then 12 else if f = 4 then 13 else if f = 5 then 32 else if f = 6 then 21 else 64
set_option maxHeartbeats 1000000 in
theorem signSize_c (f : Int) (w : World) : Calls Tryz.prog 94 #[.int .i64 f] w fun e w' => e = .returned (.int .i64 (sizeOfSign f)) ∧ w = w' := by
  generalize hc : sizeOfSign f = c
  have HC := Lib.hid hc
  clear hc
  go_enter Tryz.func94, Tryz.ntmps94
  go_wp2_with fail
  all_goals
    first
    | (exfalso; simp_all; done)
    | (go_ret; exact ⟨ret_u (by rw [← HC.out]; simp_all [sizeOfSign]), rfl⟩)
def maskF (f : Int) : Int := if f = 5 then 127 else if f = 6 then 127 else if f = 1 then 4261441663 else if f = 8 then 4261441663 else if f = 7 then 4227887231 else if f = 11 then 4160778367 else if f = 12 then 4193284223 else if f = 14 then 4261445631 else if f = 13 then 4294967295 else 28799
set_option maxHeartbeats 1000000 in
theorem imask_c (f : Int) (w : World) : Calls Tryz.prog 148 #[.int .i64 f] w fun e w' => e = .returned (.int .u32 (maskF f)) ∧ w = w' := by
  generalize hc : maskF f = c
  have HC := Lib.hid hc
  clear hc
  go_enter Tryz.func148, Tryz.ntmps148
  go_wp2_with fail
  all_goals
    first
    | (exfalso; simp_all; done)
    | (go_ret; exact ⟨ret_u (by rw [← HC.out]; simp_all [maskF]), rfl⟩)
end Go.Proofs.YthehcplogkgkeaaGreatDoor
set_option maxRecDepth 4000
namespace Go.Proofs.YthehcplogkgkeaaGreatDoor
open Go.ChangeShapes Go.WideShapes Go.ChangeAt Go.RowKit Wd

/-- A part here: from bit .1 of the source, .2.1 bits, to bit .2.2. -/
def accB (x : Int) (L : List Part) (j : Nat) : Bool := L.any fun p => decide (p.2.2 ≤ (j : Int) ∧ (j : Int) < p.2.2 + p.2.1) && tb x (p.1 + j - p.2.2).toNat
def accW (x : Int) (L : List Part) : Int := word (accB x L)
theorem accW_range (x : Int) (L : List Part) : 0 ≤ accW x L ∧ accW x L < 18446744073709551616 := ⟨word_nonneg _, word_lt _⟩
theorem drew_eq (w : World) : ({ heap := w.heap, tape := w.tape, drawn := w.drawn + 1, os := w.os, output := w.output } : World) = w.drew := rfl
theorem Calls.turn {P : Program} {f : FuncId} {args : Array Value} {w : World} {v : Value} (h : Calls P f args w fun e w' => e = .returned v ∧ w = w') : Calls P f args w fun e w' => e = .returned v ∧ w' = w :=
  h.mono fun _ _ ⟨a, b⟩ => ⟨a, b.symm⟩
theorem part_box (W : World) (a b c : Value) (t : TypeId) : (W.alloc (.cells #[a, b, c] t)).drew.cell? ⟨W.heap.size, 0, none⟩ = some a ∧ (W.alloc (.cells #[a, b, c] t)).drew.cell? ⟨W.heap.size, 1, none⟩ = some b ∧ (W.alloc (.cells #[a, b, c] t)).drew.cell? ⟨W.heap.size, 2, none⟩ = some c := by
  refine ⟨?_, ?_, ?_⟩ <;> simp [go_sem]
theorem lt_cell {W : World} {b o : Nat} {v : Value} (h : W.cell? ⟨b, o, none⟩ = some v) : b < W.heap.size := World.block_lt_of_cell? W _ h
theorem old_cell (W : World) (o : Obj) {b i : Nat} {v : Value} (h : W.cell? ⟨b, i, none⟩ = some v) : (W.alloc o).drew.cell? ⟨b, i, none⟩ = some v ∧ (W.alloc o).drew.frozen? ⟨b, i, none⟩ = W.frozen? ⟨b, i, none⟩ := by
  have hb : Below W.heap.size W (W.alloc o).drew := ((Below.refl _ W).alloc (Nat.le_refl _) o).drew
  exact ⟨(hb.cell (p := ⟨b, i, none⟩) (lt_cell h)).trans h, hb.frozen (p := ⟨b, i, none⟩) (lt_cell h)⟩
set_option maxHeartbeats 2000000 in
theorem imm1_c (src size dst n x : Int) (pn pw : Nat) (W : World) (hn : W.cell? ⟨pn, 0, none⟩ = some (.int .u64 n)) (fn : W.frozen? ⟨pn, 0, none⟩ = false) (hw : W.cell? ⟨pw, 0, none⟩ = some (.int .u32 x))
    (hx0 : 0 ≤ x) (hx : x < 4294967296) (h0 : 0 ≤ src) (h1 : src < 64) (h2 : 0 ≤ dst) (h3 : dst < 64) :
    Calls Tryz.prog 91 #[.agg #[.int .i64 src, .int .i64 size, .int .i64 dst], .pointer (some ⟨pn, 0, none⟩), .pointer (some ⟨pw, 0, none⟩)] W fun e W' =>
      e = .returned (.tuple #[]) ∧ W' = ((W.alloc (.cells #[.int .i64 src, .int .i64 size, .int .i64 dst] 144)).drew).setCell ⟨pn, 0, none⟩ (.int .u64 (bits .or .u64 n (IntKind.u64.wrap (cutS x src size * 2 ^ dst.toNat)))) := by
  go_enter Tryz.func91, Tryz.ntmps91
  go_wp2_with fail
  refine wp_region_still_tail 12 (by kernel_rfl) (by kernel_rfl) ?_
  simp only [List.take_succ_cons, List.take_zero, List.drop_succ_cons, List.drop_zero]
  simp only [drew_eq]
  obtain ⟨b0, b1, b2⟩ := part_box W (.int .i64 src) (.int .i64 size) (.int .i64 dst) 144
  obtain ⟨c0, f0⟩ := old_cell W (.cells #[.int .i64 src, .int .i64 size, .int .i64 dst] 144) hn
  obtain ⟨c1, _⟩ := old_cell W (.cells #[.int .i64 src, .int .i64 size, .int .i64 dst] 144) hw
  rw [fn] at f0
  have HCU := Lib.hid (fun w' => Calls.turn (cut_c x src size w' hx0 (by omega) (by omega) (by omega)))
  have hwx : IntKind.u64.wrap x = x := IntWalk.u64_in _ (by omega)
  generalize hW2 : (W.alloc (.cells #[.int .i64 src, .int .i64 size, .int .i64 dst] 144)).drew = W2 at *
  have HW2 := Lib.hid hW2
  clear hn fn hw hW2
  iterate 7 still_step
  still_call (HCU.out _)
  iterate 4 still_step
  refine wpStill_nil ?_
  go_wp2_with fail
  go_end0
  exact ⟨rfl, by rw [HW2.out]⟩
set_option maxHeartbeats 2000000 in
theorem lay1_c (src size dst n x : Int) (pn pw : Nat) (W : World) (hn : W.cell? ⟨pn, 0, none⟩ = some (.int .u64 n)) (fn : W.frozen? ⟨pn, 0, none⟩ = false) (hw : W.cell? ⟨pw, 0, none⟩ = some (.int .i64 x))
    (h0 : 0 ≤ src) (h1 : src < 64) (h2 : 0 ≤ dst) (h3 : dst < 64) :
    Calls Tryz.prog 95 #[.agg #[.int .i64 dst, .int .i64 size, .int .i64 src], .pointer (some ⟨pn, 0, none⟩), .pointer (some ⟨pw, 0, none⟩)] W fun e W' =>
      e = .returned (.tuple #[]) ∧ W' = ((W.alloc (.cells #[.int .i64 dst, .int .i64 size, .int .i64 src] 144)).drew).setCell ⟨pn, 0, none⟩ (.int .u64 (bits .or .u64 n (IntKind.u64.wrap (cutS (IntKind.u64.wrap x) src size * 2 ^ dst.toNat)))) := by
  go_enter Tryz.func95, Tryz.ntmps95
  go_wp2_with fail
  refine wp_region_still_tail 12 (by kernel_rfl) (by kernel_rfl) ?_
  simp only [List.take_succ_cons, List.take_zero, List.drop_succ_cons, List.drop_zero]
  simp only [drew_eq]
  obtain ⟨b0, b1, b2⟩ := part_box W (.int .i64 dst) (.int .i64 size) (.int .i64 src) 144
  obtain ⟨c0, f0⟩ := old_cell W (.cells #[.int .i64 dst, .int .i64 size, .int .i64 src] 144) hn
  obtain ⟨c1, _⟩ := old_cell W (.cells #[.int .i64 dst, .int .i64 size, .int .i64 src] 144) hw
  rw [fn] at f0
  have HCU := Lib.hid (fun w' => Calls.turn (cut_c (IntKind.u64.wrap x) src size w' (wrap_range x).1 (wrap_range x).2 (by omega) (by omega)))
  generalize hW2 : (W.alloc (.cells #[.int .i64 dst, .int .i64 size, .int .i64 src] 144)).drew = W2 at *
  have HW2 := Lib.hid hW2
  clear hn fn hw hW2
  iterate 7 still_step
  still_call (HCU.out _)
  iterate 4 still_step
  refine wpStill_nil ?_
  go_wp2_with fail
  go_end0
  exact ⟨rfl, by rw [HW2.out]⟩
end Go.Proofs.YthehcplogkgkeaaGreatDoor
set_option maxRecDepth 4000
namespace Go.Proofs.YthehcplogkgkeaaGreatDoor
open Go.ChangeShapes Go.WideShapes Go.ChangeAt Go.RowKit Wd

def swapP (p : Part) : Part := (p.2.2, p.2.1, p.1)
theorem acc_step (x : Int) (L : List Part) (p : Part) (hd : 0 ≤ p.2.2) (hs : 0 ≤ p.1) : bits .or .u64 (accW x L) (IntKind.u64.wrap (cutS x p.1 p.2.1 * 2 ^ p.2.2.toNat)) = accW x (L ++ [p]) := by
  obtain ⟨a0, a1⟩ := accW_range x L
  obtain ⟨c0, c1⟩ := cutS_range x p.1 p.2.1
  obtain ⟨r0, r1⟩ := wrap_range (cutS x p.1 p.2.1 * 2 ^ p.2.2.toNat)
  obtain ⟨o0, o1⟩ := or_range a0 a1 r0 r1
  refine eq_word o0 o1 fun i hi => ?_
  rw [tb_or a0 a1 r0 r1, tb_wrap (mul_nonneg' c0 _), tb_mul c0]
  have e : tb (accW x L) i = accB x L i := by
    unfold accW; rw [tb_word]; simp [hi]
  rw [e]
  unfold accB
  rw [List.any_append]
  congr 1
  simp only [List.any_cons, List.any_nil, Bool.or_false, hi, decide_true, Bool.true_and]
  by_cases h : p.2.2.toNat ≤ i
  · have e1 : decide (p.2.2.toNat ≤ i) = true := by simpa using h
    rw [e1, Bool.true_and]
    unfold cutS
    rw [tb_word]
    have e2 : decide (i - p.2.2.toNat < 64) = true := by simp; omega
    rw [e2, Bool.true_and]
    have e3 : (p.1 + ((i - p.2.2.toNat : Nat) : Int)).toNat = (p.1 + (i : Int) - p.2.2).toNat := by omega
    rw [e3]
    have e4 : decide (((i - p.2.2.toNat : Nat) : Int) < p.2.1 ∧ 0 ≤ p.1 + ((i - p.2.2.toNat : Nat) : Int)) = decide (p.2.2 ≤ (i : Int) ∧ (i : Int) < p.2.2 + p.2.1) := by
      apply decide_eq_decide.2
      constructor
      · rintro ⟨q1, q2⟩; omega
      · rintro ⟨q1, q2⟩; omega
    rw [e4]
  · have e1 : decide (p.2.2.toNat ≤ i) = false := by simpa using h
    have e2 : decide (p.2.2 ≤ (i : Int) ∧ (i : Int) < p.2.2 + p.2.1) = false := by simp; omega
    rw [e1, e2, Bool.false_and, Bool.false_and]
theorem acc_nil (x : Int) : accW x [] = 0 := by
  symm
  exact eq_word (by decide) (by decide) fun i _ => by simp [tb_zero, accB]
theorem take_snoc {α : Type} (L : List α) (k : Nat) (p : α) (h : L[k]? = some p) : L.take (k + 1) = L.take k ++ [p] := by
  rw [List.take_add_one, h]; rfl
theorem parts_ok (f : Int) : (partsL f).length ≤ 4 ∧ ∀ p ∈ partsL f, (0 ≤ p.1 ∧ p.1 < 32) ∧ (1 ≤ p.2.1 ∧ p.2.1 ≤ 20) ∧ 0 ≤ p.2.2 ∧ p.2.2 < 32 := by
  unfold partsL
  by_cases e2 : f = 2; · rw [if_pos e2]; decide
  rw [if_neg e2]
  by_cases e3 : f = 3; · rw [if_pos e3]; decide
  rw [if_neg e3]
  by_cases e4 : f = 4; · rw [if_pos e4]; decide
  rw [if_neg e4]
  by_cases e5 : f = 5; · rw [if_pos e5]; decide
  rw [if_neg e5]
  by_cases e6 : f = 6; · rw [if_pos e6]; decide
  rw [if_neg e6]
  by_cases e7 : f = 7; · rw [if_pos e7]; decide
  rw [if_neg e7]
  by_cases e8 : f = 8; · rw [if_pos e8]; decide
  rw [if_neg e8]
  decide
/-- A step of the function that was handed in: its own block, and one cell that is set. -/
theorem one_step {W : World} {pn : Nat} {o o2 : Obj} {v : Value} (b i : Nat) (u : Value) (hne : pn ≠ b) (h : W.cell? ⟨b, i, none⟩ = some u) : (((W.alloc o).alloc o2).drew.setCell ⟨pn, 0, none⟩ v).cell? ⟨b, i, none⟩ = some u := by
  rw [World.cell?_setCell_far _ _ _ _ hne]
  have hb : Below W.heap.size W ((W.alloc o).alloc o2).drew := (((Below.refl _ W).alloc (Nat.le_refl _) o).alloc (by simp) o2).drew
  exact (hb.cell (p := ⟨b, i, none⟩) (lt_cell h)).trans h
theorem one_set {W : World} {pn : Nat} {o o2 : Obj} {u v : Value} (h : W.cell? ⟨pn, 0, none⟩ = some u) (hf : W.frozen? ⟨pn, 0, none⟩ = false) :
    (((W.alloc o).alloc o2).drew.setCell ⟨pn, 0, none⟩ v).cell? ⟨pn, 0, none⟩ = some v ∧ (((W.alloc o).alloc o2).drew.setCell ⟨pn, 0, none⟩ v).frozen? ⟨pn, 0, none⟩ = false := by
  have hb : Below W.heap.size W ((W.alloc o).alloc o2).drew := (((Below.refl _ W).alloc (Nat.le_refl _) o).alloc (by simp) o2).drew
  refine ⟨World.cell?_setCell_same' _ _ _ (by rw [hb.cell (p := ⟨pn, 0, none⟩) (lt_cell h), h]; rfl), ?_⟩
  rw [World.frozen?_setCell, hb.frozen (p := ⟨pn, 0, none⟩) (lt_cell h)]
  exact hf
theorem old_box {W : World} (o : Obj) {pn : Nat} {u : Value} (h : W.cell? ⟨pn, 0, none⟩ = some u ∧ W.frozen? ⟨pn, 0, none⟩ = false) : (W.alloc o).cell? ⟨pn, 0, none⟩ = some u ∧ (W.alloc o).frozen? ⟨pn, 0, none⟩ = false := by
  have hb : Below W.heap.size W (W.alloc o) := (Below.refl _ W).alloc (Nat.le_refl _) o
  exact ⟨(hb.cell (p := ⟨pn, 0, none⟩) (lt_cell h.1)).trans h.1, (hb.frozen (p := ⟨pn, 0, none⟩) (lt_cell h.1)).trans h.2⟩
theorem old_box' {W : World} (o : Obj) {pn : Nat} {u : Value} (h : W.cell? ⟨pn, 0, none⟩ = some u) : (W.alloc o).cell? ⟨pn, 0, none⟩ = some u ∧ True := by
  have hb : Below W.heap.size W (W.alloc o) := (Below.refl _ W).alloc (Nat.le_refl _) o
  exact ⟨(hb.cell (p := ⟨pn, 0, none⟩) (lt_cell h)).trans h, trivial⟩
theorem one_below {W0 W : World} {B pn : Nat} {o o2 : Obj} {v : Value} (h : Below B W0 W) (hB : B ≤ W.heap.size) (hpn : B ≤ pn) : Below B W0 (((W.alloc o).alloc o2).drew.setCell ⟨pn, 0, none⟩ v) :=
  ((((h.alloc hB o).alloc (by simp; omega) o2).drew).setCell (p := ⟨pn, 0, none⟩) hpn v)
/-- What eachPart leaves: the cell with all pieces, and nothing else below B turned. -/
def EachPost (B pn : Nat) (W : World) (n : Int) (e : Ending) (W' : World) : Prop :=
  e = .returned (.tuple #[]) ∧ (W'.cell? ⟨pn, 0, none⟩ = some (.int .u64 n) ∧ W'.frozen? ⟨pn, 0, none⟩ = false) ∧ Below B W W'

set_option maxHeartbeats 4000000 in
theorem each_imm (f x : Int) (B pn pw : Nat) (W : World) (hn : W.cell? ⟨pn, 0, none⟩ = some (.int .u64 0)) (fn : W.frozen? ⟨pn, 0, none⟩ = false) (hw : W.cell? ⟨pw, 0, none⟩ = some (.int .u32 x)) (hnw : pn ≠ pw)
    (hx0 : 0 ≤ x) (hx : x < 4294967296) (hB : B ≤ W.heap.size) (hpn : B ≤ pn) :
    Calls Tryz.prog 90 #[.int .i64 f, .func (.func 91) #[] #[.pointer (some ⟨pn, 0, none⟩), .pointer (some ⟨pw, 0, none⟩)]] W (EachPost B pn W (accW x (partsL f))) := by
  obtain ⟨hlen, hok⟩ := parts_ok f
  have HOK := Lib.hid hok
  clear hok
  have hpl := lt_cell hn
  have hwl := lt_cell hw
  go_enter Tryz.func90, Tryz.ntmps90
  go_wp2_with fail
  refine (parts_c f _).mono ?_
  intro e w1 hp
  generalize hL : partsL f = L at *
  clear hL
  rcases hp with ⟨rfl, rfl, rfl⟩ | ⟨hne, rfl, hat, hb, hsz⟩
  · have HN := Lib.hid hn
    have HF := Lib.hid fn
    have HE := Lib.hid (acc_nil x)
    clear hn fn hw
    go_wp2_with fail
    go_loop [9] (fun i => i = .int .i64 0) (fun _ => 0)
    case atStart => exact rfl
    case round =>
      obtain rfl := hrel
      go_wp2_with fail
      go_end0
      exact ⟨rfl, ⟨by rw [HN.out]; exact congrArg (fun n => some (Value.int .u64 n)) HE.out.symm, HF.out⟩, Below.refl _ _⟩
  · obtain ⟨n, hn'⟩ : ∃ n, L.length = n := ⟨_, rfl⟩
    rw [hn'] at hlen
    have HNL := Lib.hid hn'
    rw [hn']
    have HAT := Lib.hid hat
    have HN := Lib.hid (show w1.cell? ⟨pn, 0, none⟩ = some (.int .u64 (accW x (L.take 0))) ∧ w1.frozen? ⟨pn, 0, none⟩ = false from
      ⟨by rw [hb.cell (p := ⟨pn, 0, none⟩) hpl, hn]; exact congrArg (fun n => some (Value.int .u64 n)) (acc_nil x).symm, by rw [hb.frozen (p := ⟨pn, 0, none⟩) hpl]; exact fn⟩)
    have HW := Lib.hid ((hb.cell (p := ⟨pw, 0, none⟩) hwl).trans hw)
    have HB := Lib.hid (hb.mono hB)
    have hng : pn ≠ W.heap.size := by omega
    clear hn' hat hb hn fn hw hne
    go_wp2_with fail
    go_loopw [9] (fun i wr => ∃ k : Nat, k ≤ n ∧ i = .int .i64 k ∧ (wr.cell? ⟨pn, 0, none⟩ = some (.int .u64 (accW x (L.take k))) ∧ wr.frozen? ⟨pn, 0, none⟩ = false) ∧ wr.cell? ⟨pw, 0, none⟩ = some (.int .u32 x) ∧ PartsAt wr W.heap.size L ∧ Below B W wr) (fun i _ => n - (intOf i).toNat)
    case atStart => exact ⟨0, Nat.zero_le _, rfl, HN.out, HW.out, HAT.out, HB.out⟩
    case round =>
      obtain ⟨k, hk, rfl, hc, hcw, hat, hbw⟩ := hrel
      have hszr := hbw.size
      have HC := Lib.hid hc
      have HCW := Lib.hid hcw
      have HAT2 := Lib.hid hat
      have HBW := Lib.hid hbw
      clear hc hcw hat hbw
      by_cases hlt : k < n
      · obtain ⟨p, hp⟩ : ∃ p, L[k]? = some p := ⟨L[k]'(by rw [HNL.out]; exact hlt), List.getElem?_eq_getElem _⟩
        obtain ⟨⟨o1, o2⟩, ⟨o3, o4⟩, o5, o6⟩ := HOK.out p (List.mem_of_getElem? hp)
        obtain ⟨d0, d1, d2⟩ := HAT2.out k p hp
        have HT := Lib.hid (take_snoc L k p hp)
        clear hp
        obtain ⟨a, b, c⟩ := p
        simp only at o1 o2 o3 o4 o5 o6 d0 d1 d2
        go_wp2_with fail
        have n1 := old_box (.cells #[.int .i64 a, .int .i64 b, .int .i64 c] 144) HC.out
        have w1 := old_box' (.cells #[.int .i64 a, .int .i64 b, .int .i64 c] 144) HCW.out
        refine (imm1_c a b c _ x pn pw _ n1.1 n1.2 w1.1 hx0 hx (by omega) (by omega) (by omega) (by omega)).mono ?_
        rintro e W3 ⟨rfl, rfl⟩
        have HN3 := Lib.hid (one_set (o := .cells #[.int .i64 a, .int .i64 b, .int .i64 c] 144) (o2 := .cells #[.int .i64 a, .int .i64 b, .int .i64 c] 144) (v := .int .u64 (bits .or .u64 (accW x (L.take k)) (IntKind.u64.wrap (cutS x a b * 2 ^ c.toNat)))) HC.out.1 HC.out.2)
        have HW3 := Lib.hid (one_step (o := .cells #[.int .i64 a, .int .i64 b, .int .i64 c] 144) (o2 := .cells #[.int .i64 a, .int .i64 b, .int .i64 c] 144) (v := .int .u64 (bits .or .u64 (accW x (L.take k)) (IntKind.u64.wrap (cutS x a b * 2 ^ c.toNat)))) pw 0 _ hnw HCW.out)
        have HA3 := Lib.hid (fun (j : Nat) (q : Part) (hq : L[j]? = some q) => (⟨one_step (o := .cells #[.int .i64 a, .int .i64 b, .int .i64 c] 144) (o2 := .cells #[.int .i64 a, .int .i64 b, .int .i64 c] 144) (v := .int .u64 (bits .or .u64 (accW x (L.take k)) (IntKind.u64.wrap (cutS x a b * 2 ^ c.toNat)))) W.heap.size _ _ hng (HAT2.out j q hq).1,
          one_step (o := .cells #[.int .i64 a, .int .i64 b, .int .i64 c] 144) (o2 := .cells #[.int .i64 a, .int .i64 b, .int .i64 c] 144) (v := .int .u64 (bits .or .u64 (accW x (L.take k)) (IntKind.u64.wrap (cutS x a b * 2 ^ c.toNat)))) W.heap.size _ _ hng (HAT2.out j q hq).2.1,
          one_step (o := .cells #[.int .i64 a, .int .i64 b, .int .i64 c] 144) (o2 := .cells #[.int .i64 a, .int .i64 b, .int .i64 c] 144) (v := .int .u64 (bits .or .u64 (accW x (L.take k)) (IntKind.u64.wrap (cutS x a b * 2 ^ c.toNat)))) W.heap.size _ _ hng (HAT2.out j q hq).2.2⟩ : _ ∧ _ ∧ _))
        have HB3 := Lib.hid (one_below (o := .cells #[.int .i64 a, .int .i64 b, .int .i64 c] 144) (o2 := .cells #[.int .i64 a, .int .i64 b, .int .i64 c] 144) (v := .int .u64 (bits .or .u64 (accW x (L.take k)) (IntKind.u64.wrap (cutS x a b * 2 ^ c.toNat)))) HBW.out (by omega) hpn)
        have HST := Lib.hid (acc_step x (L.take k) (a, b, c) o5 o1)
        generalize (((wr.alloc (.cells #[.int .i64 a, .int .i64 b, .int .i64 c] 144)).alloc (.cells #[.int .i64 a, .int .i64 b, .int .i64 c] 144)).drew.setCell ⟨pn, 0, none⟩ (.int .u64 (bits .or .u64 (accW x (L.take k)) (IntKind.u64.wrap (cutS x a b * 2 ^ c.toNat))))) = W4 at *
        clear n1 w1
        go_wp2_with fail
        go_roundw
        case rel => exact ⟨k + 1, by omega, by go_num, ⟨by rw [HN3.out.1, HT.out]; exact congrArg (fun n => some (Value.int .u64 n)) HST.out, HN3.out.2⟩, HW3.out, HA3.out, HB3.out⟩
        case measure => simp [intOf]; omega
      · obtain rfl : n = k := by omega
        go_wp2_with fail
        go_end0
        have e : L.take n = L := List.take_of_length_le (by rw [HNL.out]; exact Nat.le_refl _)
        exact ⟨rfl, ⟨by rw [HC.out.1, e], HC.out.2⟩, HBW.out⟩

set_option maxHeartbeats 4000000 in
theorem each_lay (f x : Int) (B pn pw : Nat) (W : World) (hn : W.cell? ⟨pn, 0, none⟩ = some (.int .u64 0)) (fn : W.frozen? ⟨pn, 0, none⟩ = false) (hw : W.cell? ⟨pw, 0, none⟩ = some (.int .i64 x)) (hnw : pn ≠ pw)
    (hB : B ≤ W.heap.size) (hpn : B ≤ pn) :
    Calls Tryz.prog 90 #[.int .i64 f, .func (.func 95) #[] #[.pointer (some ⟨pn, 0, none⟩), .pointer (some ⟨pw, 0, none⟩)]] W (EachPost B pn W (accW (IntKind.u64.wrap x) ((partsL f).map swapP))) := by
  obtain ⟨hlen, hok⟩ := parts_ok f
  have HOK := Lib.hid hok
  clear hok
  have hpl := lt_cell hn
  have hwl := lt_cell hw
  go_enter Tryz.func90, Tryz.ntmps90
  go_wp2_with fail
  refine (parts_c f _).mono ?_
  intro e w1 hp
  generalize hL : partsL f = L at *
  clear hL
  rcases hp with ⟨rfl, rfl, rfl⟩ | ⟨hne, rfl, hat, hb, hsz⟩
  · have HN := Lib.hid hn
    have HF := Lib.hid fn
    have HE := Lib.hid (acc_nil (IntKind.u64.wrap x))
    clear hn fn hw
    go_wp2_with fail
    go_loop [9] (fun i => i = .int .i64 0) (fun _ => 0)
    case atStart => exact rfl
    case round =>
      obtain rfl := hrel
      go_wp2_with fail
      go_end0
      exact ⟨rfl, ⟨by rw [HN.out]; exact congrArg (fun n => some (Value.int .u64 n)) HE.out.symm, HF.out⟩, Below.refl _ _⟩
  · obtain ⟨n, hn'⟩ : ∃ n, L.length = n := ⟨_, rfl⟩
    rw [hn'] at hlen
    have HNL := Lib.hid hn'
    rw [hn']
    have HAT := Lib.hid hat
    have HN := Lib.hid (show w1.cell? ⟨pn, 0, none⟩ = some (.int .u64 (accW (IntKind.u64.wrap x) ((L.take 0).map swapP))) ∧ w1.frozen? ⟨pn, 0, none⟩ = false from
      ⟨by rw [hb.cell (p := ⟨pn, 0, none⟩) hpl, hn]; exact congrArg (fun n => some (Value.int .u64 n)) (acc_nil (IntKind.u64.wrap x)).symm, by rw [hb.frozen (p := ⟨pn, 0, none⟩) hpl]; exact fn⟩)
    have HW := Lib.hid ((hb.cell (p := ⟨pw, 0, none⟩) hwl).trans hw)
    have HB := Lib.hid (hb.mono hB)
    have hng : pn ≠ W.heap.size := by omega
    clear hn' hat hb hn fn hw hne
    go_wp2_with fail
    go_loopw [9] (fun i wr => ∃ k : Nat, k ≤ n ∧ i = .int .i64 k ∧ (wr.cell? ⟨pn, 0, none⟩ = some (.int .u64 (accW (IntKind.u64.wrap x) ((L.take k).map swapP))) ∧ wr.frozen? ⟨pn, 0, none⟩ = false) ∧ wr.cell? ⟨pw, 0, none⟩ = some (.int .i64 x) ∧ PartsAt wr W.heap.size L ∧ Below B W wr) (fun i _ => n - (intOf i).toNat)
    case atStart => exact ⟨0, Nat.zero_le _, rfl, HN.out, HW.out, HAT.out, HB.out⟩
    case round =>
      obtain ⟨k, hk, rfl, hc, hcw, hat, hbw⟩ := hrel
      have hszr := hbw.size
      have HC := Lib.hid hc
      have HCW := Lib.hid hcw
      have HAT2 := Lib.hid hat
      have HBW := Lib.hid hbw
      clear hc hcw hat hbw
      by_cases hlt : k < n
      · obtain ⟨p, hp⟩ : ∃ p, L[k]? = some p := ⟨L[k]'(by rw [HNL.out]; exact hlt), List.getElem?_eq_getElem _⟩
        obtain ⟨⟨o1, o2⟩, ⟨o3, o4⟩, o5, o6⟩ := HOK.out p (List.mem_of_getElem? hp)
        obtain ⟨d0, d1, d2⟩ := HAT2.out k p hp
        have HT := Lib.hid (take_snoc L k p hp)
        clear hp
        obtain ⟨a, b, c⟩ := p
        simp only at o1 o2 o3 o4 o5 o6 d0 d1 d2
        go_wp2_with fail
        have n1 := old_box (.cells #[.int .i64 a, .int .i64 b, .int .i64 c] 144) HC.out
        have w1 := old_box' (.cells #[.int .i64 a, .int .i64 b, .int .i64 c] 144) HCW.out
        refine (lay1_c c b a _ x pn pw _ n1.1 n1.2 w1.1 (by omega) (by omega) (by omega) (by omega)).mono ?_
        rintro e W3 ⟨rfl, rfl⟩
        have HN3 := Lib.hid (one_set (o := .cells #[.int .i64 a, .int .i64 b, .int .i64 c] 144) (o2 := .cells #[.int .i64 a, .int .i64 b, .int .i64 c] 144) (v := .int .u64 (bits .or .u64 (accW (IntKind.u64.wrap x) ((L.take k).map swapP)) (IntKind.u64.wrap (cutS (IntKind.u64.wrap x) c b * 2 ^ a.toNat)))) HC.out.1 HC.out.2)
        have HW3 := Lib.hid (one_step (o := .cells #[.int .i64 a, .int .i64 b, .int .i64 c] 144) (o2 := .cells #[.int .i64 a, .int .i64 b, .int .i64 c] 144) (v := .int .u64 (bits .or .u64 (accW (IntKind.u64.wrap x) ((L.take k).map swapP)) (IntKind.u64.wrap (cutS (IntKind.u64.wrap x) c b * 2 ^ a.toNat)))) pw 0 _ hnw HCW.out)
        have HA3 := Lib.hid (fun (j : Nat) (q : Part) (hq : L[j]? = some q) => (⟨one_step (o := .cells #[.int .i64 a, .int .i64 b, .int .i64 c] 144) (o2 := .cells #[.int .i64 a, .int .i64 b, .int .i64 c] 144) (v := .int .u64 (bits .or .u64 (accW (IntKind.u64.wrap x) ((L.take k).map swapP)) (IntKind.u64.wrap (cutS (IntKind.u64.wrap x) c b * 2 ^ a.toNat)))) W.heap.size _ _ hng (HAT2.out j q hq).1,
          one_step (o := .cells #[.int .i64 a, .int .i64 b, .int .i64 c] 144) (o2 := .cells #[.int .i64 a, .int .i64 b, .int .i64 c] 144) (v := .int .u64 (bits .or .u64 (accW (IntKind.u64.wrap x) ((L.take k).map swapP)) (IntKind.u64.wrap (cutS (IntKind.u64.wrap x) c b * 2 ^ a.toNat)))) W.heap.size _ _ hng (HAT2.out j q hq).2.1,
          one_step (o := .cells #[.int .i64 a, .int .i64 b, .int .i64 c] 144) (o2 := .cells #[.int .i64 a, .int .i64 b, .int .i64 c] 144) (v := .int .u64 (bits .or .u64 (accW (IntKind.u64.wrap x) ((L.take k).map swapP)) (IntKind.u64.wrap (cutS (IntKind.u64.wrap x) c b * 2 ^ a.toNat)))) W.heap.size _ _ hng (HAT2.out j q hq).2.2⟩ : _ ∧ _ ∧ _))
        have HB3 := Lib.hid (one_below (o := .cells #[.int .i64 a, .int .i64 b, .int .i64 c] 144) (o2 := .cells #[.int .i64 a, .int .i64 b, .int .i64 c] 144) (v := .int .u64 (bits .or .u64 (accW (IntKind.u64.wrap x) ((L.take k).map swapP)) (IntKind.u64.wrap (cutS (IntKind.u64.wrap x) c b * 2 ^ a.toNat)))) HBW.out (by omega) hpn)
        have HST := Lib.hid (acc_step (IntKind.u64.wrap x) ((L.take k).map swapP) (c, b, a) o1 o5)
        generalize (((wr.alloc (.cells #[.int .i64 a, .int .i64 b, .int .i64 c] 144)).alloc (.cells #[.int .i64 a, .int .i64 b, .int .i64 c] 144)).drew.setCell ⟨pn, 0, none⟩ (.int .u64 (bits .or .u64 (accW (IntKind.u64.wrap x) ((L.take k).map swapP)) (IntKind.u64.wrap (cutS (IntKind.u64.wrap x) c b * 2 ^ a.toNat))))) = W4 at *
        clear n1 w1
        go_wp2_with fail
        go_roundw
        case rel => exact ⟨k + 1, by omega, by go_num, ⟨by rw [HN3.out.1, HT.out]; rw [List.map_append]; exact congrArg (fun n => some (Value.int .u64 n)) HST.out, HN3.out.2⟩, HW3.out, HA3.out, HB3.out⟩
        case measure => simp [intOf]; omega
      · obtain rfl : n = k := by omega
        go_wp2_with fail
        go_end0
        have e : L.take n = L := List.take_of_length_le (by rw [HNL.out]; exact Nat.le_refl _)
        exact ⟨rfl, ⟨by rw [HC.out.1, e], HC.out.2⟩, HBW.out⟩
end Go.Proofs.YthehcplogkgkeaaGreatDoor
set_option maxRecDepth 4000
namespace Go.Proofs.YthehcplogkgkeaaGreatDoor
open Go.ChangeShapes Go.WideShapes Go.ChangeAt Go.RowKit Wd

def srcs (L : List Part) (j : Nat) : List Int := L.filterMap fun p => if p.2.2 ≤ (j : Int) ∧ (j : Int) < p.2.2 + p.2.1 then some (p.1 + j - p.2.2) else none
theorem acc_srcs (x : Int) (L : List Part) (j : Nat) : accB x L j = (srcs L j).any fun i => tb x i.toNat := by
  unfold accB srcs
  induction L with
  | nil => rfl
  | cons p L ih =>
    rw [List.any_cons, ih, List.filterMap_cons]
    by_cases h : p.2.2 ≤ (j : Int) ∧ (j : Int) < p.2.2 + p.2.1
    · rw [if_pos h]; simp [h]
    · rw [if_neg h]; simp [h]
theorem srcs_ok : ∀ f : Fin 15, ∀ j : Fin 64, srcs (partsL (f.val : Nat)) j.val = if 0 ≤ (placesOf f.val).getD j.val (-1) then [(placesOf f.val).getD j.val (-1)] else [] := by decide +kernel
theorem places_lt : ∀ f : Fin 15, ∀ j : Fin 64, (placesOf f.val).getD j.val (-1) ≤ 31 ∧ ((placesOf f.val).length ≤ j.val → (placesOf f.val).getD j.val (-1) = -1) := by decide +kernel
theorem acc_pbit (f : Nat) (hf : f < 15) (x : Int) (j : Nat) (hj : j < 64) : accB x (partsL (f : Int)) j = pbit f x j := by
  have h := srcs_ok ⟨f, hf⟩ ⟨j, hj⟩
  have h2 := (places_lt ⟨f, hf⟩ ⟨j, hj⟩).1
  simp only at h h2
  rw [acc_srcs, h]
  unfold pbit tbI
  by_cases h0 : 0 ≤ (placesOf f).getD j (-1)
  · have e : decide (0 ≤ (placesOf f).getD j (-1) ∧ (placesOf f).getD j (-1) ≤ 63) = true := decide_eq_true (by omega)
    rw [if_pos h0, e]; simp
  · have e : decide (0 ≤ (placesOf f).getD j (-1) ∧ (placesOf f).getD j (-1) ≤ 63) = false := decide_eq_false (by omega)
    rw [if_neg h0, e]; simp
theorem acc_immN (f : Nat) (hf : f < 15) (x : Int) : accW x (partsL (f : Int)) = immN f x := by
  obtain ⟨r0, r1⟩ := immN_range f hf x
  symm
  refine eq_word r0 r1 fun i hi => ?_
  rw [acc_pbit f hf x i hi]
  unfold immN tb
  rw [Int.toNat_natCast, testBit_sumTo]
  by_cases h : i < (placesOf f).length
  · simp [h]
  · have e := (places_lt ⟨f, hf⟩ ⟨i, hi⟩).2 (by simp only; omega)
    simp only at e
    unfold pbit
    rw [e]
    simp [tbI]
def immD (f x : Int) : Int := wrap64 (signS (accW x (partsL f)) (sizeOfSign f))
theorem sign_ok : ∀ f : Fin 15, (signedOf f.val = true → sizeOfSign (f.val : Nat) = ((placesOf f.val).length : Nat)) ∧ (signedOf f.val = false → sizeOfSign (f.val : Nat) = 64) := by decide +kernel
theorem immD_eq (f : Nat) (hf : f < 15) (x : Int) : immD f x = immS f x := by
  obtain ⟨r0, r1⟩ := immN_range f hf x
  obtain ⟨s1, s2⟩ := sign_ok ⟨f, hf⟩
  simp only at s1 s2
  unfold immD immS
  rw [acc_immN f hf]
  cases hs : signedOf f
  · rw [s2 hs, ← sign_all r0 r1 (by decide)]; rfl
  · rw [s1 hs]; rfl
theorem partsL_no (f : Int) (h : ¬ (2 ≤ f ∧ f ≤ 8)) : partsL f = [] := by
  unfold partsL
  rw [if_neg (by omega), if_neg (by omega), if_neg (by omega), if_neg (by omega), if_neg (by omega), if_neg (by omega), if_neg (by omega)]
theorem sizeOfSign_no (f : Int) (h : ¬ (2 ≤ f ∧ f ≤ 8)) : sizeOfSign f = 64 := by
  unfold sizeOfSign
  rw [if_neg (by omega), if_neg (by omega), if_neg (by omega), if_neg (by omega), if_neg (by omega)]
theorem immD_no (f x : Int) (h : ¬ (2 ≤ f ∧ f ≤ 8)) : immD f x = 0 := by
  unfold immD
  rw [partsL_no f h, sizeOfSign_no f h, acc_nil, ← sign_all (by decide) (by decide) (by decide)]
  exact wrap64_small (by decide) (by decide)

def layD (f n : Int) : Int := accW (IntKind.u64.wrap n) ((partsL f).map swapP)
def lastJ (f : Nat) : Nat → Nat → Option Nat
  | 0, _ => none
  | k + 1, i => if (placesOf f).getD k (-1) = (i : Int) then some k else lastJ f k i
theorem lay_last (f : Nat) (hf : f < 15) (x : Int) (k i : Nat) (hk : k ≤ 64) (hi : i < 64) : tb (layW f x k) i = match lastJ f k i with | some j => tb x j | none => false := by
  induction k with
  | zero => simp [layW, lastJ, tb_zero]
  | succ k ih =>
    have ih := ih (by omega)
    have hr := (getD_range f hf k)
    unfold lastJ layW
    by_cases h0 : 0 ≤ (placesOf f).getD k (-1)
    · rw [if_pos h0]
      unfold putS
      rw [tb_word]
      simp only [hi, decide_true, Bool.true_and]
      by_cases hp : (placesOf f).getD k (-1) = (i : Int)
      · rw [if_pos hp]
        have e : inP ((placesOf f).getD k (-1)) 1 i = true := by unfold inP; exact decide_eq_true (by omega)
        rw [e, if_pos rfl]
        have e2 : ((i : Int) - (placesOf f).getD k (-1)).toNat = 0 := by omega
        rw [e2]
        have e3 : tbI x k = tb x k := tbI_nat x k (by omega)
        rw [e3]
        show tb (bi (tb x k)) 0 = tb x k
        cases tb x k <;> decide
      · rw [if_neg hp]
        have e : inP ((placesOf f).getD k (-1)) 1 i = false := by unfold inP; exact decide_eq_false (by omega)
        rw [e]
        simpa using ih
    · rw [if_neg h0, if_neg (by omega)]
      exact ih
theorem lay_srcs : ∀ f : Fin 15, ∀ i : Fin 64, srcs ((partsL (f.val : Nat)).map swapP) i.val = (lastJ f.val (placesOf f.val).length i.val).toList.map fun j => ((j : Nat) : Int) := by decide +kernel
theorem layD_eq (f : Nat) (hf : f < 15) (n : Int) : layD f n = layS f n := by
  obtain ⟨r0, r1⟩ := layS_range f n
  symm
  refine eq_word r0 r1 fun i hi => ?_
  have h := lay_srcs ⟨f, hf⟩ ⟨i, hi⟩
  simp only at h
  rw [acc_srcs, h]
  unfold layS
  have hl := places_len ⟨f, hf⟩
  simp only at hl
  rw [lay_last f hf _ _ i (by omega) hi]
  cases lastJ f (placesOf f).length i <;> simp
theorem layD_no (f n : Int) (h : ¬ (2 ≤ f ∧ f ≤ 8)) : layD f n = 0 := by
  unfold layD
  rw [partsL_no f h]
  exact acc_nil _
theorem lay_small : ∀ f : Fin 15, ∀ i : Fin 64, 32 ≤ i.val → srcs ((partsL (f.val : Nat)).map swapP) i.val = [] := by decide +kernel
theorem layD_lt (f n : Int) : 0 ≤ layD f n ∧ layD f n < 4294967296 := by
  by_cases h : 2 ≤ f ∧ f ≤ 8
  · have hb : ∀ i, 32 ≤ i → i < 64 → accB (IntKind.u64.wrap n) ((partsL f).map swapP) i = false := fun i h1 h2 => by
      have := lay_small ⟨f.toNat, by omega⟩ ⟨i, h2⟩ h1
      simp only at this
      rw [show ((f.toNat : Nat) : Int) = f by omega] at this
      rw [acc_srcs, this]; rfl
    refine ⟨word_nonneg _, ?_⟩
    have e : layD f n = ((sumTo (accB (IntKind.u64.wrap n) ((partsL f).map swapP)) 32 : Nat) : Int) := by
      symm
      have hl := sumTo_lt (accB (IntKind.u64.wrap n) ((partsL f).map swapP)) 32
      refine eq_word (by omega) (by omega) fun i hi => ?_
      unfold tb
      rw [Int.toNat_natCast, testBit_sumTo]
      by_cases h32 : i < 32
      · simp [h32]
      · rw [hb i (by omega) hi]; simp
    have hl := sumTo_lt (accB (IntKind.u64.wrap n) ((partsL f).map swapP)) 32
    rw [e]
    omega
  · rw [layD_no f n h]; decide
end Go.Proofs.YthehcplogkgkeaaGreatDoor
set_option maxRecDepth 4000
namespace Go.Proofs.YthehcplogkgkeaaGreatDoor
open Go.ChangeShapes Go.WideShapes Go.ChangeAt Go.RowKit Wd

theorem two_boxes (w : World) (u v : Value) (s t : TypeId) : ((w.alloc (.cells #[u] s)).alloc (.cells #[v] t)).cell? ⟨w.heap.size + 1, 0, none⟩ = some v ∧ ((w.alloc (.cells #[u] s)).alloc (.cells #[v] t)).frozen? ⟨w.heap.size + 1, 0, none⟩ = false ∧ ((w.alloc (.cells #[u] s)).alloc (.cells #[v] t)).cell? ⟨w.heap.size, 0, none⟩ = some u := by
  refine ⟨?_, ?_, ?_⟩ <;> simp [go_sem, World.cell?_alloc_past]
set_option maxHeartbeats 2000000 in
theorem imm_c (f x : Int) (w : World) (hx0 : 0 ≤ x) (hx : x < 4294967296) : Calls Tryz.prog 56 #[.int .i64 f, .int .u32 x] w fun e w' => e = .returned (.int .i64 (immD f x)) ∧ Below w.heap.size w w' := by
  have HI := Lib.hid (show immD f x = wrap64 (signS (accW x (partsL f)) (sizeOfSign f)) from rfl)
  rw [HI.out]
  obtain ⟨r0, r1⟩ := accW_range x (partsL f)
  have HR0 := Lib.hid r0
  have HR1 := Lib.hid r1
  clear r0 r1
  go_enter Tryz.func56, Tryz.ntmps56
  go_wp2_with fail
  obtain ⟨b0, b1, b2⟩ := two_boxes w (.int .u32 x) (.int .u64 0) 42 41
  refine (each_imm f x w.heap.size (w.heap.size + 1) w.heap.size _ b0 b1 b2 (by omega) hx0 hx (by simp; omega) (by omega)).mono ?_
  rintro e w1 ⟨rfl, ⟨hc, hf⟩, hb⟩
  have HB := Lib.hid ((((Below.refl w.heap.size w).alloc (Nat.le_refl _) (.cells #[.int .u32 x] 42)).alloc (by simp) (.cells #[.int .u64 0] 41)).trans hb)
  clear hb b0 b1 b2 hf
  generalize hnn : accW x (partsL f) = n at *
  have HNN := Lib.hid hnn
  clear hnn
  go_wp2_with fail
  refine wp_region_still_lit (by kernel_rfl) (by kernel_rfl) ?_
  simp only [drew_eq]
  have hc2 : w1.drew.cell? ⟨w.heap.size + 1, 0, none⟩ = some (.int .u64 n) := hc
  have HB2 := Lib.hid (HB.out.drew)
  clear hc
  generalize w1.drew = w2 at *
  have HCU := Lib.hid (fun w' => Calls.turn (signSize_c f w'))
  have HCV := Lib.hid (fun w' => Calls.turn (sign_c n (sizeOfSign f) w' HR0.out HR1.out))
  iterate 2 still_step
  still_call (HCU.out _)
  still_call (HCV.out _)
  iterate 2 still_step
  refine wpStill_nil ?_
  go_wp2_with fail
  go_ret
  exact ⟨ret_u (by rw [IntWalk.i64_left, HNN.out]), HB2.out⟩
set_option maxHeartbeats 2000000 in
theorem lay_c (f x : Int) (w : World) : Calls Tryz.prog 57 #[.int .i64 f, .int .i64 x] w fun e w' => e = .returned (.int .u32 (layD f x)) ∧ Below w.heap.size w w' := by
  obtain ⟨r0, r1⟩ := layD_lt f x
  have HW := Lib.hid (show IntKind.u32.wrap (accW (IntKind.u64.wrap x) ((partsL f).map swapP)) = layD f x from IntWalk.u32_in _ ⟨r0, by have := r1; unfold layD at this; omega⟩)
  clear r0 r1
  go_enter Tryz.func57, Tryz.ntmps57
  go_wp2_with fail
  obtain ⟨b0, b1, b2⟩ := two_boxes w (.int .i64 x) (.int .u64 0) 2 41
  refine (each_lay f x w.heap.size (w.heap.size + 1) w.heap.size _ b0 b1 b2 (by omega) (by simp; omega) (by omega)).mono ?_
  rintro e w1 ⟨rfl, ⟨hc, hf⟩, hb⟩
  have HB := Lib.hid ((((Below.refl w.heap.size w).alloc (Nat.le_refl _) (.cells #[.int .i64 x] 2)).alloc (by simp) (.cells #[.int .u64 0] 41)).trans hb)
  clear hb b0 b1 b2 hf
  generalize accW (IntKind.u64.wrap x) ((partsL f).map swapP) = n at *
  go_wp2_with fail
  go_ret
  exact ⟨ret_u HW.out, HB.out⟩
end Go.Proofs.YthehcplogkgkeaaGreatDoor
set_option maxRecDepth 4000
namespace Go.Proofs.YthehcplogkgkeaaGreatDoor
open Go.ChangeShapes Go.WideShapes Go.ChangeAt Go.RowKit Wd

def valN (k : Nat) : Nat := (findRow (k : Nat)).2.2.2
def fldL : List Nat := [0, 7, 3, 6, 6, 1, 1, 3, 3, 11, 11, 23, 19, 0, 6]
structure VarsAt (w : World) : Prop where
  vals : ∀ k, k < 99 → w.cell? ⟨1, k, none⟩ = some (.int .u32 (valN k : Nat))
  flds : ∀ k, k < 15 → w.cell? ⟨2, k, none⟩ = some (.int .u8 (fldL.getD k 0 : Nat))
  size : 2 < w.heap.size
theorem VarsAt.on {w w' : World} {B : Nat} (h : VarsAt w) (hb : Below B w w') (hB : 2 < B) : VarsAt w' :=
  ⟨fun k hk => (hb.cell (p := ⟨1, k, none⟩) (by show 1 < B; omega)).trans (h.vals k hk), fun k hk => (hb.cell (p := ⟨2, k, none⟩) (by show 2 < B; omega)).trans (h.flds k hk), Nat.le_trans h.size hb.size⟩
/-- The table of fields alone (what Check reads). -/
structure FldsAt (w : World) : Prop where
  flds : ∀ k, k < 15 → w.cell? ⟨2, k, none⟩ = some (.int .u8 (fldL.getD k 0 : Nat))
  size : 2 < w.heap.size
theorem FldsAt.low {w w' : World} (h : FldsAt w) (hb : Below w.heap.size w w') : FldsAt w' :=
  ⟨fun k hk => (hb.cell (p := ⟨2, k, none⟩) h.size).trans (h.flds k hk), Nat.le_trans h.size hb.size⟩
theorem VarsAt.f {w : World} (h : VarsAt w) : FldsAt w := ⟨h.flds, h.size⟩
instance {w : World} : Coe (VarsAt w) (FldsAt w) := ⟨VarsAt.f⟩
theorem VarsAt.low {w w' : World} (h : VarsAt w) (hb : Below w.heap.size w w') : VarsAt w' := h.on hb h.size
def fixM (op : Int) : Int := ((findRow op).2.2.1 : Nat)
def fixV (op : Int) : Int := ((findRow op).2.2.2 : Nat)
theorem fmt_zero (op : Int) : fmtN op = 0 ↔ ¬ (1 ≤ op ∧ op ≤ 98) := by
  constructor
  · intro h hop
    have l : ∀ k : Fin 98, (rowAt k.val).2.1 ≠ 0 := by decide +kernel
    apply l ⟨op.toNat - 1, by omega⟩
    unfold fmtN findRow at h
    rw [if_pos hop] at h
    exact h
  · intro h
    unfold fmtN findRow
    rw [if_neg h]
theorem mask_fmt : ∀ k : Fin 98, maskF ((rowAt k.val).2.1 : Nat) = ((rowAt k.val).2.2.1 : Nat) := by decide +kernel
theorem fix_mask (op : Int) (h : 1 ≤ op ∧ op ≤ 98) : maskF (fmtN op : Nat) = fixM op := by
  unfold fmtN fixM findRow
  rw [if_pos h]
  exact mask_fmt ⟨op.toNat - 1, by omega⟩
set_option maxHeartbeats 2000000 in
theorem fixed_c (op : Int) (w : World) (hv : VarsAt w) : Calls Tryz.prog 123 #[.int .i64 op] w fun e w' => e = .returned (.tuple #[.int .u32 (fixM op), .int .u32 (fixV op)]) ∧ Below w.heap.size w w' := by
  have HV := Lib.hid hv
  have hsz := hv.size
  clear hv
  by_cases h : 1 ≤ op ∧ op ≤ 98
  · have HF := Lib.hid (fix_mask op h)
    have hn : fmtN op ≠ 0 := fun e => (fmt_zero op).1 e h
    have hn2 : (((fmtN op : Nat) : Int) == 0) = false := by simpa using hn
    obtain ⟨k, rfl⟩ : ∃ k : Nat, op = (k : Int) := ⟨op.toNat, by omega⟩
    have hk : k < 99 := by omega
    have hk2 : (k : Int) < 99 := by omega
    have HVV := Lib.hid (show fixV (k : Int) = (valN k : Nat) from rfl)
    clear hn
    go_enter Tryz.func123, Tryz.ntmps123
    go_wp2_with fail
    refine (formatOf_c _ _).mono ?_
    rintro e w1 ⟨rfl, hb⟩
    have HB := Lib.hid hb
    have hc := (HV.out.low hb).vals k hk
    clear hb
    generalize ((fmtN (k : Int) : Nat) : Int) = f at *
    go_wp2_with fail
    refine wp_region_still_lit (by kernel_rfl) (by kernel_rfl) ?_
    simp only [drew_eq]
    have hc2 : w1.drew.cell? ⟨1, k, none⟩ = some (.int .u32 (valN k : Nat)) := hc
    have HB2 := Lib.hid (HB.out.drew)
    have HCU := Lib.hid (fun w' => Calls.turn (imask_c f w'))
    clear hc
    generalize w1.drew = w2 at *
    generalize hvv : ((valN k : Nat) : Int) = v at *
    have HX := Lib.hid hvv
    clear hvv
    iterate 1 still_step
    still_call (HCU.out _)
    iterate 5 still_step
    refine wpStill_nil ?_
    go_wp2_with fail
    go_ret2
    exact ⟨by rw [HF.out, HVV.out]; rfl, HB2.out⟩
  · have hn2 : (((fmtN op : Nat) : Int) == 0) = true := by rw [(fmt_zero op).2 h]; rfl
    have HM := Lib.hid (show fixM op = 0 ∧ fixV op = 0 by unfold fixM fixV findRow; rw [if_neg h]; exact ⟨rfl, rfl⟩)
    clear h
    go_enter Tryz.func123, Tryz.ntmps123
    go_wp2_with fail
    refine (formatOf_c _ _).mono ?_
    rintro e w1 ⟨rfl, hb⟩
    have HB := Lib.hid hb
    clear hb
    generalize ((fmtN op : Nat) : Int) = f at *
    go_wp2_with fail
    go_ret2
    exact ⟨by rw [HM.out.1, HM.out.2]; rfl, HB.out⟩
end Go.Proofs.YthehcplogkgkeaaGreatDoor
set_option maxRecDepth 4000
namespace Go.Proofs.YthehcplogkgkeaaGreatDoor
open Go.ChangeShapes Go.WideShapes Go.ChangeAt Go.RowKit Wd

/-- A format has what 'what' tells. -/
def lacksB (f : Nat) (what : Int) : Bool := bits .and .u8 ((fldL.getD f 0 : Nat) : Int) what == 0
def fieldS (f : Nat) (what x p s : Int) : Int := if lacksB f what then 0 else cutS x p s
theorem cutS_lt (x p : Int) (s : Nat) (hs : s ≤ 12) : 0 ≤ cutS x p s ∧ cutS x p s < 2 ^ s := by
  refine ⟨word_nonneg _, ?_⟩
  have e : cutS x p s = ((sumTo (fun k => decide ((k : Int) < s ∧ 0 ≤ p + k) && tb x (p + k).toNat) s : Nat) : Int) := by
    symm
    have hl := sumTo_lt (fun k => decide ((k : Int) < s ∧ 0 ≤ p + k) && tb x (p + k).toNat) s
    have hp : 2 ^ s ≤ 2 ^ 12 := Nat.pow_le_pow_right (by decide) hs
    refine eq_word (by omega) (by omega) fun i hi => ?_
    unfold tb
    rw [Int.toNat_natCast, testBit_sumTo]
    by_cases h : i < s
    · simp [h]
    · simp [h]
  rw [e]
  have hl := sumTo_lt (fun k => decide ((k : Int) < s ∧ 0 ≤ p + k) && tb x (p + k).toNat) s
  have : ((2 ^ s : Nat) : Int) = 2 ^ s := by simp
  omega
set_option maxHeartbeats 1000000 in
theorem read1_c (f : Nat) (hf : f < 15) (what p x : Int) (s : Nat) (hs : s ≤ 12) (pf pw : Nat) (W : World) (hv : VarsAt W) (hcf : W.cell? ⟨pf, 0, none⟩ = some (.int .i64 (f : Nat))) (hcw : W.cell? ⟨pw, 0, none⟩ = some (.int .u32 x))
    (hx0 : 0 ≤ x) (hx : x < 4294967296) (hp0 : 0 ≤ p) (hp : p < 64) :
    Calls Tryz.prog 149 #[.int .u8 what, .int .i64 p, .int .i64 s, .pointer (some ⟨pf, 0, none⟩), .pointer (some ⟨pw, 0, none⟩)] W fun e W' => e = .returned (.int .i64 (fieldS f what x p s)) ∧ W = W' := by
  have hfl := hv.flds f hf
  have hf2 : (f : Int) < 15 := by omega
  clear hv
  cases hl : lacksB f what
  · have HR := Lib.hid (show fieldS f what x p s = cutS x p s by unfold fieldS; rw [hl]; rfl)
    have hl2 : (bits .and .u8 ((fldL.getD f 0 : Nat) : Int) what == 0) = false := hl
    have hcl := cutS_lt x p s hs
    have hpw : (2 : Int) ^ s ≤ 4096 := by
      have : 2 ^ s ≤ 2 ^ 12 := Nat.pow_le_pow_right (by decide) hs
      have e : ((2 ^ s : Nat) : Int) = 2 ^ s := by simp
      omega
    have hc0 := hcl.1
    have hc1 : cutS x p s < 4096 := by omega
    clear hl hcl hpw
    generalize ((fldL.getD f 0 : Nat) : Int) = g at *
    have hx2 : x < 18446744073709551616 := by omega
    go_enter Tryz.func149, Tryz.ntmps149
    go_wp2_with fail
    refine (cut_c x p s _ hx0 hx2 (by omega) (by omega)).mono ?_
    rintro e w' ⟨rfl, rfl⟩
    go_wp2_with fail
    go_ret
    exact ⟨ret_u (by rw [HR.out]), rfl⟩
  · have HR := Lib.hid (show fieldS f what x p s = 0 by unfold fieldS; rw [hl]; rfl)
    have hl2 : (bits .and .u8 ((fldL.getD f 0 : Nat) : Int) what == 0) = true := hl
    clear hl
    generalize ((fldL.getD f 0 : Nat) : Int) = g at *
    go_enter Tryz.func149, Tryz.ntmps149
    go_wp2_with fail
    go_ret
    exact ⟨ret_u (by rw [HR.out]), rfl⟩
theorem read1_i (f : Nat) (hf : f < 15) (what p s x : Int) (pf pw : Nat) (W : World) (hv : VarsAt W) (hcf : W.cell? ⟨pf, 0, none⟩ = some (.int .i64 (f : Nat))) (hcw : W.cell? ⟨pw, 0, none⟩ = some (.int .u32 x))
    (hx0 : 0 ≤ x) (hx : x < 4294967296) (hp0 : 0 ≤ p) (hp : p < 64) (hs0 : 0 ≤ s) (hs : s ≤ 12) :
    Calls Tryz.prog 149 #[.int .u8 what, .int .i64 p, .int .i64 s, .pointer (some ⟨pf, 0, none⟩), .pointer (some ⟨pw, 0, none⟩)] W fun e W' => e = .returned (.int .i64 (fieldS f what x p s)) ∧ W = W' := by
  obtain ⟨n, rfl⟩ : ∃ n : Nat, s = (n : Int) := ⟨s.toNat, by omega⟩
  exact read1_c f hf what p x n (by omega) pf pw W hv hcf hcw hx0 hx hp0 hp
def rc (w : World) (b i : Nat) : Value := (w.cell? ⟨b, i, none⟩).getD undef
theorem rc_of {w : World} {b i : Nat} {v : Value} (h : w.cell? ⟨b, i, none⟩ = some v) : w.cell? ⟨b, i, none⟩ = some (rc w b i) := by unfold rc; rw [h]; rfl
abbrev RS (w : World) (b1 f : Nat) (x : Int) (w' : World) : Prop := Below w.heap.size w w' ∧ w'.cell? ⟨b1, 0, none⟩ = some (.int .i64 (f : Nat)) ∧ w'.cell? ⟨w.heap.size, 0, none⟩ = some (.int .u32 x) ∧ VarsAt w' ∧ w'.cell? ⟨w.heap.size + 1, 0, none⟩ = some (rc w' (w.heap.size + 1) 0) ∧ w'.cell? ⟨w.heap.size + 1, 1, none⟩ = some (rc w' (w.heap.size + 1) 1) ∧ w'.cell? ⟨w.heap.size + 1, 2, none⟩ = some (rc w' (w.heap.size + 1) 2) ∧ w'.cell? ⟨w.heap.size + 1, 3, none⟩ = some (rc w' (w.heap.size + 1) 3) ∧ w'.cell? ⟨w.heap.size + 1, 4, none⟩ = some (rc w' (w.heap.size + 1) 4) ∧ w'.cell? ⟨w.heap.size + 1, 5, none⟩ = some (rc w' (w.heap.size + 1) 5) ∧ w'.cell? ⟨w.heap.size + 1, 6, none⟩ = some (rc w' (w.heap.size + 1) 6) ∧ w'.cell? ⟨w.heap.size + 1, 7, none⟩ = some (rc w' (w.heap.size + 1) 7) ∧ w'.frozen? ⟨w.heap.size + 1, 0, none⟩ = false ∧ w'.frozen? ⟨w.heap.size + 1, 1, none⟩ = false ∧ w'.frozen? ⟨w.heap.size + 1, 2, none⟩ = false ∧ w'.frozen? ⟨w.heap.size + 1, 3, none⟩ = false ∧ w'.frozen? ⟨w.heap.size + 1, 4, none⟩ = false ∧ w'.frozen? ⟨w.heap.size + 1, 5, none⟩ = false ∧ w'.frozen? ⟨w.heap.size + 1, 6, none⟩ = false ∧ w'.frozen? ⟨w.heap.size + 1, 7, none⟩ = false
theorem RS.on {w w' w2 : World} {b1 f : Nat} {x : Int} (h : RS w b1 f x w') (hb : Below w'.heap.size w' w2) : RS w b1 f x w2 := by
  obtain ⟨h0, h1, h2, h3, c0, c1, c2, c3, c4, c5, c6, c7, d0, d1, d2, d3, d4, d5, d6, d7⟩ := h
  have hl : w.heap.size + 1 < w'.heap.size := lt_cell c0
  exact ⟨h0.trans (hb.mono h0.size), (hb.cell (p := ⟨b1, 0, none⟩) (lt_cell h1)).trans h1, (hb.cell (p := ⟨w.heap.size, 0, none⟩) (lt_cell h2)).trans h2, h3.low hb, rc_of ((hb.cell (p := ⟨w.heap.size + 1, 0, none⟩) hl).trans c0), rc_of ((hb.cell (p := ⟨w.heap.size + 1, 1, none⟩) hl).trans c1), rc_of ((hb.cell (p := ⟨w.heap.size + 1, 2, none⟩) hl).trans c2), rc_of ((hb.cell (p := ⟨w.heap.size + 1, 3, none⟩) hl).trans c3), rc_of ((hb.cell (p := ⟨w.heap.size + 1, 4, none⟩) hl).trans c4), rc_of ((hb.cell (p := ⟨w.heap.size + 1, 5, none⟩) hl).trans c5), rc_of ((hb.cell (p := ⟨w.heap.size + 1, 6, none⟩) hl).trans c6), rc_of ((hb.cell (p := ⟨w.heap.size + 1, 7, none⟩) hl).trans c7), (hb.frozen (p := ⟨w.heap.size + 1, 0, none⟩) hl).trans d0, (hb.frozen (p := ⟨w.heap.size + 1, 1, none⟩) hl).trans d1, (hb.frozen (p := ⟨w.heap.size + 1, 2, none⟩) hl).trans d2, (hb.frozen (p := ⟨w.heap.size + 1, 3, none⟩) hl).trans d3, (hb.frozen (p := ⟨w.heap.size + 1, 4, none⟩) hl).trans d4, (hb.frozen (p := ⟨w.heap.size + 1, 5, none⟩) hl).trans d5, (hb.frozen (p := ⟨w.heap.size + 1, 6, none⟩) hl).trans d6, (hb.frozen (p := ⟨w.heap.size + 1, 7, none⟩) hl).trans d7⟩
theorem RS.drew {w w' : World} {b1 f : Nat} {x : Int} (h : RS w b1 f x w') : RS w b1 f x w'.drew := h.on ((Below.refl _ _).drew)
theorem set_some {w : World} {b i j : Nat} {u v : Value} (h : w.cell? ⟨b, i, none⟩ = some u) : (w.setCell ⟨b, j, none⟩ v).cell? ⟨b, i, none⟩ = some (rc (w.setCell ⟨b, j, none⟩ v) b i) := by
  by_cases e : j = i
  · subst e; exact rc_of (World.cell?_setCell_same' _ _ _ (by rw [h]; rfl))
  · exact rc_of ((World.cell?_setCell_other (w := w) (a := ⟨b, j, none⟩) (b := ⟨b, i, none⟩) (v := v) (fun e' => e (by cases e'; rfl))).trans h)
theorem RS.set {w w' : World} {b1 f : Nat} {x : Int} (hne : w.heap.size + 1 ≠ b1) (h : RS w b1 f x w') (j : Nat) (v : Value) (hv2 : 2 < w.heap.size) : RS w b1 f x (w'.setCell ⟨w.heap.size + 1, j, none⟩ v) := by
  obtain ⟨h0, h1, h2, h3, c0, c1, c2, c3, c4, c5, c6, c7, d0, d1, d2, d3, d4, d5, d6, d7⟩ := h
  refine ⟨h0.setCell (p := ⟨w.heap.size + 1, j, none⟩) (by simp) v, (World.cell?_setCell_far _ _ _ _ hne).trans h1, (World.cell?_setCell_far _ _ _ _ (by simp)).trans h2, ?_, set_some c0, set_some c1, set_some c2, set_some c3, set_some c4, set_some c5, set_some c6, set_some c7, by rw [World.frozen?_setCell]; exact d0, by rw [World.frozen?_setCell]; exact d1, by rw [World.frozen?_setCell]; exact d2, by rw [World.frozen?_setCell]; exact d3, by rw [World.frozen?_setCell]; exact d4, by rw [World.frozen?_setCell]; exact d5, by rw [World.frozen?_setCell]; exact d6, by rw [World.frozen?_setCell]; exact d7⟩
  exact h3.on (B := 2 + 1) ((Below.refl (2 + 1) w').setCell (p := ⟨w.heap.size + 1, j, none⟩) (by show 2 + 1 ≤ w.heap.size + 1; omega) v) (Nat.lt_succ_self _)
theorem read1_s (w : World) (f : Nat) (hf : f < 15) (what p s x : Int) (b1 : Nat) (W : World) (h : RS w b1 f x W) (hx0 : 0 ≤ x) (hx : x < 4294967296) (hp0 : 0 ≤ p) (hp : p < 64) (hs0 : 0 ≤ s) (hs : s ≤ 12) :
    Calls Tryz.prog 149 #[.int .u8 what, .int .i64 p, .int .i64 s, .pointer (some ⟨b1, 0, none⟩), .pointer (some ⟨w.heap.size, 0, none⟩)] W fun e W' => e = .returned (.int .i64 (fieldS f what x p s)) ∧ W = W' :=
  read1_i f hf what p s x b1 w.heap.size W h.2.2.2.1 h.2.1 h.2.2.1 hx0 hx hp0 hp hs0 hs
theorem res_new (w : World) (x : Int) (t s : TypeId) : ((w.alloc (.cells #[.int .u32 x] s)).alloc (.cells #[.int .i64 0, .int .i64 0, .int .i64 0, .int .i64 0, .int .i64 0, .int .i64 0, .bool false, .bool false] t)).cell? ⟨w.heap.size, 0, none⟩ = some (.int .u32 x) ∧ ((w.alloc (.cells #[.int .u32 x] s)).alloc (.cells #[.int .i64 0, .int .i64 0, .int .i64 0, .int .i64 0, .int .i64 0, .int .i64 0, .bool false, .bool false] t)).cell? ⟨w.heap.size + 1, 0, none⟩ = some (.int .i64 0) ∧ ((w.alloc (.cells #[.int .u32 x] s)).alloc (.cells #[.int .i64 0, .int .i64 0, .int .i64 0, .int .i64 0, .int .i64 0, .int .i64 0, .bool false, .bool false] t)).cell? ⟨w.heap.size + 1, 1, none⟩ = some (.int .i64 0) ∧ ((w.alloc (.cells #[.int .u32 x] s)).alloc (.cells #[.int .i64 0, .int .i64 0, .int .i64 0, .int .i64 0, .int .i64 0, .int .i64 0, .bool false, .bool false] t)).cell? ⟨w.heap.size + 1, 2, none⟩ = some (.int .i64 0) ∧ ((w.alloc (.cells #[.int .u32 x] s)).alloc (.cells #[.int .i64 0, .int .i64 0, .int .i64 0, .int .i64 0, .int .i64 0, .int .i64 0, .bool false, .bool false] t)).cell? ⟨w.heap.size + 1, 3, none⟩ = some (.int .i64 0) ∧ ((w.alloc (.cells #[.int .u32 x] s)).alloc (.cells #[.int .i64 0, .int .i64 0, .int .i64 0, .int .i64 0, .int .i64 0, .int .i64 0, .bool false, .bool false] t)).cell? ⟨w.heap.size + 1, 4, none⟩ = some (.int .i64 0) ∧ ((w.alloc (.cells #[.int .u32 x] s)).alloc (.cells #[.int .i64 0, .int .i64 0, .int .i64 0, .int .i64 0, .int .i64 0, .int .i64 0, .bool false, .bool false] t)).cell? ⟨w.heap.size + 1, 5, none⟩ = some (.int .i64 0) ∧ ((w.alloc (.cells #[.int .u32 x] s)).alloc (.cells #[.int .i64 0, .int .i64 0, .int .i64 0, .int .i64 0, .int .i64 0, .int .i64 0, .bool false, .bool false] t)).cell? ⟨w.heap.size + 1, 6, none⟩ = some (.bool false) ∧ ((w.alloc (.cells #[.int .u32 x] s)).alloc (.cells #[.int .i64 0, .int .i64 0, .int .i64 0, .int .i64 0, .int .i64 0, .int .i64 0, .bool false, .bool false] t)).cell? ⟨w.heap.size + 1, 7, none⟩ = some (.bool false) ∧ ((w.alloc (.cells #[.int .u32 x] s)).alloc (.cells #[.int .i64 0, .int .i64 0, .int .i64 0, .int .i64 0, .int .i64 0, .int .i64 0, .bool false, .bool false] t)).frozen? ⟨w.heap.size + 1, 0, none⟩ = false ∧ ((w.alloc (.cells #[.int .u32 x] s)).alloc (.cells #[.int .i64 0, .int .i64 0, .int .i64 0, .int .i64 0, .int .i64 0, .int .i64 0, .bool false, .bool false] t)).frozen? ⟨w.heap.size + 1, 1, none⟩ = false ∧ ((w.alloc (.cells #[.int .u32 x] s)).alloc (.cells #[.int .i64 0, .int .i64 0, .int .i64 0, .int .i64 0, .int .i64 0, .int .i64 0, .bool false, .bool false] t)).frozen? ⟨w.heap.size + 1, 2, none⟩ = false ∧ ((w.alloc (.cells #[.int .u32 x] s)).alloc (.cells #[.int .i64 0, .int .i64 0, .int .i64 0, .int .i64 0, .int .i64 0, .int .i64 0, .bool false, .bool false] t)).frozen? ⟨w.heap.size + 1, 3, none⟩ = false ∧ ((w.alloc (.cells #[.int .u32 x] s)).alloc (.cells #[.int .i64 0, .int .i64 0, .int .i64 0, .int .i64 0, .int .i64 0, .int .i64 0, .bool false, .bool false] t)).frozen? ⟨w.heap.size + 1, 4, none⟩ = false ∧ ((w.alloc (.cells #[.int .u32 x] s)).alloc (.cells #[.int .i64 0, .int .i64 0, .int .i64 0, .int .i64 0, .int .i64 0, .int .i64 0, .bool false, .bool false] t)).frozen? ⟨w.heap.size + 1, 5, none⟩ = false ∧ ((w.alloc (.cells #[.int .u32 x] s)).alloc (.cells #[.int .i64 0, .int .i64 0, .int .i64 0, .int .i64 0, .int .i64 0, .int .i64 0, .bool false, .bool false] t)).frozen? ⟨w.heap.size + 1, 6, none⟩ = false ∧ ((w.alloc (.cells #[.int .u32 x] s)).alloc (.cells #[.int .i64 0, .int .i64 0, .int .i64 0, .int .i64 0, .int .i64 0, .int .i64 0, .bool false, .bool false] t)).frozen? ⟨w.heap.size + 1, 7, none⟩ = false := by
  refine ⟨?_, ?_, ?_, ?_, ?_, ?_, ?_, ?_, ?_, ?_, ?_, ?_, ?_, ?_, ?_, ?_, ?_⟩ <;> simp [go_sem, World.cell?_alloc_past]
def readV (f : Nat) (op x : Int) : Value := (.agg #[.int .i64 op, .int .i64 (fieldS f 1 x 7 5), .int .i64 (fieldS f 2 x 15 5), .int .i64 (fieldS f 4 x 20 5), .int .i64 (immD (f : Nat) x), .int .i64 (fieldS f 8 x 20 12), .bool (fieldS f 16 x 26 1 == 1), .bool (fieldS f 16 x 25 1 == 1)])
set_option maxHeartbeats 8000000 in
set_option maxRecDepth 100000 in
theorem read_c (op x : Int) (w : World) (hv : VarsAt w) (hx0 : 0 ≤ x) (hx : x < 4294967296) :
    Calls Tryz.prog 124 #[.int .i64 op, .int .u32 x] w fun e w' => e = .returned (readV (fmtN op) op x) ∧ Below w.heap.size w w' := by
  have HV := Lib.hid hv
  clear hv
  have hfl := fmtN_lt op
  go_enter Tryz.func124, Tryz.ntmps124
  go_wp2_with fail
  refine (formatOf_c _ _).mono ?_
  rintro e w1 ⟨rfl, hb⟩
  generalize hff : fmtN op = f at *
  have HFF := Lib.hid hff
  clear hff
  have HS0 := Lib.hid (show RS w w1.heap.size f x (w1.alloc (.cells #[.int .i64 (f : Nat)] 53)) from by
    have hn := res_new w x 24 42
    have hz : ((w.alloc (.cells #[.int .u32 x] 42)).alloc (.cells #[.int .i64 0, .int .i64 0, .int .i64 0, .int .i64 0, .int .i64 0, .int .i64 0, .bool false, .bool false] 24)).heap.size = w.heap.size + 2 := by simp
    have hB : Below w.heap.size w ((w.alloc (.cells #[.int .u32 x] 42)).alloc (.cells #[.int .i64 0, .int .i64 0, .int .i64 0, .int .i64 0, .int .i64 0, .int .i64 0, .bool false, .bool false] 24)) := ((Below.refl _ w).alloc (Nat.le_refl _) _).alloc (by simp) _
    generalize ((w.alloc (.cells #[.int .u32 x] 42)).alloc (.cells #[.int .i64 0, .int .i64 0, .int .i64 0, .int .i64 0, .int .i64 0, .int .i64 0, .bool false, .bool false] 24)) = wa at *
    have hb2 : Below wa.heap.size wa (w1.alloc (.cells #[.int .i64 (f : Nat)] 53)) := hb.alloc hb.size _
    obtain ⟨h2, c0, c1, c2, c3, c4, c5, c6, c7, d0, d1, d2, d3, d4, d5, d6, d7⟩ := hn
    have hl : w.heap.size + 1 < wa.heap.size := lt_cell c0
    exact ⟨hB.trans (hb2.mono hB.size), by simp [go_sem], (hb2.cell (p := ⟨w.heap.size, 0, none⟩) (lt_cell h2)).trans h2, (HV.out.low hB).low hb2, rc_of ((hb2.cell (p := ⟨w.heap.size + 1, 0, none⟩) hl).trans c0), rc_of ((hb2.cell (p := ⟨w.heap.size + 1, 1, none⟩) hl).trans c1), rc_of ((hb2.cell (p := ⟨w.heap.size + 1, 2, none⟩) hl).trans c2), rc_of ((hb2.cell (p := ⟨w.heap.size + 1, 3, none⟩) hl).trans c3), rc_of ((hb2.cell (p := ⟨w.heap.size + 1, 4, none⟩) hl).trans c4), rc_of ((hb2.cell (p := ⟨w.heap.size + 1, 5, none⟩) hl).trans c5), rc_of ((hb2.cell (p := ⟨w.heap.size + 1, 6, none⟩) hl).trans c6), rc_of ((hb2.cell (p := ⟨w.heap.size + 1, 7, none⟩) hl).trans c7), (hb2.frozen (p := ⟨w.heap.size + 1, 0, none⟩) hl).trans d0, (hb2.frozen (p := ⟨w.heap.size + 1, 1, none⟩) hl).trans d1, (hb2.frozen (p := ⟨w.heap.size + 1, 2, none⟩) hl).trans d2, (hb2.frozen (p := ⟨w.heap.size + 1, 3, none⟩) hl).trans d3, (hb2.frozen (p := ⟨w.heap.size + 1, 4, none⟩) hl).trans d4, (hb2.frozen (p := ⟨w.heap.size + 1, 5, none⟩) hl).trans d5, (hb2.frozen (p := ⟨w.heap.size + 1, 6, none⟩) hl).trans d6, (hb2.frozen (p := ⟨w.heap.size + 1, 7, none⟩) hl).trans d7⟩)
  have hne : w.heap.size + 1 ≠ w1.heap.size := by have := hb.size; simp at this; omega
  have hv2 := HV.out.size
  clear hb
  go_wp2_with fail
  go_region_held3 (fun w' => Below w.heap.size w w' ∧ w'.cell? ⟨w1.heap.size, 0, none⟩ = some (.int .i64 (f : Nat)) ∧ w'.cell? ⟨w.heap.size, 0, none⟩ = some (.int .u32 x) ∧ VarsAt w' ∧ w'.cell? ⟨w.heap.size + 1, 0, none⟩ = some (rc w' (w.heap.size + 1) 0) ∧ w'.cell? ⟨w.heap.size + 1, 1, none⟩ = some (rc w' (w.heap.size + 1) 1) ∧ w'.cell? ⟨w.heap.size + 1, 2, none⟩ = some (rc w' (w.heap.size + 1) 2) ∧ w'.cell? ⟨w.heap.size + 1, 3, none⟩ = some (rc w' (w.heap.size + 1) 3) ∧ w'.cell? ⟨w.heap.size + 1, 4, none⟩ = some (rc w' (w.heap.size + 1) 4) ∧ w'.cell? ⟨w.heap.size + 1, 5, none⟩ = some (rc w' (w.heap.size + 1) 5) ∧ w'.cell? ⟨w.heap.size + 1, 6, none⟩ = some (rc w' (w.heap.size + 1) 6) ∧ w'.cell? ⟨w.heap.size + 1, 7, none⟩ = some (rc w' (w.heap.size + 1) 7) ∧ w'.frozen? ⟨w.heap.size + 1, 0, none⟩ = false ∧ w'.frozen? ⟨w.heap.size + 1, 1, none⟩ = false ∧ w'.frozen? ⟨w.heap.size + 1, 2, none⟩ = false ∧ w'.frozen? ⟨w.heap.size + 1, 3, none⟩ = false ∧ w'.frozen? ⟨w.heap.size + 1, 4, none⟩ = false ∧ w'.frozen? ⟨w.heap.size + 1, 5, none⟩ = false ∧ w'.frozen? ⟨w.heap.size + 1, 6, none⟩ = false ∧ w'.frozen? ⟨w.heap.size + 1, 7, none⟩ = false)
    (first | with_reducible exact HS0.out.drew | with_reducible exact RS.on (by assumption) (by assumption) | with_reducible assumption | with_reducible exact ((((((((RS.set hne (by assumption) 0 _ hv2).set hne 1 _ hv2).set hne 2 _ hv2).set hne 3 _ hv2).set hne 4 _ hv2).set hne 5 _ hv2).set hne 6 _ hv2).set hne 7 _ hv2))
    (first
      | (go_at_call 149; refine (read1_s w f hfl _ _ _ x w1.heap.size _ (by assumption) hx0 hx (by decide) (by decide) (by decide) (by decide)).mono ?_; rintro e wn' ⟨rfl, rfl⟩)
      | (go_at_call 56; refine (imm_c _ x _ hx0 hx).mono ?_; rintro e wn ⟨rfl, hb⟩))
  obtain ⟨z0, -, -, -, c0, c1, c2, c3, c4, c5, c6, c7, -, -, -, -, -, -, -, -⟩ : RS w w1.heap.size f x wn := RS.on HS0.out.drew hb
  have Z0 := Lib.hid z0
  rename_i hHeldEnd
  clear z0 HS0 hb hHeldEnd
  go_wp2_with fail
  refine bodyPost_ret (v := readV f op x) (by simp [results, Tryz.results124, go_sem, readV, c0, c1, c2, c3, c4, c5, c6, c7]) rfl ⟨by rw [HFF.out], ?_⟩
  exact (((((((Z0.out.setCell (by simp) _).setCell (by simp) _).setCell (by simp) _).setCell (by simp) _).setCell (by simp) _).setCell (by simp) _).setCell (by simp) _).setCell (by simp) _
end Go.Proofs.YthehcplogkgkeaaGreatDoor
set_option maxRecDepth 4000
namespace Go.Proofs.YthehcplogkgkeaaGreatDoor
open Go.ChangeShapes Go.WideShapes Go.ChangeAt Go.RowKit Wd

def maskN (k : Nat) : Nat := (findRow (k : Nat)).2.2.1
def matchN (X k : Nat) : Bool := (X &&& maskN k) == valN k
def opsTo (m : Nat) : List Nat := (List.range m).map (· + 1)
theorem opsTo_succ (m : Nat) : opsTo (m + 1) = opsTo m ++ [m + 1] := by simp [opsTo, List.range_succ]
theorem opsTo_prefix (m : Nat) (hm : m < 98) : opsTo (m + 1) <+: opsTo 98 := by
  unfold opsTo
  have : List.range (m + 1) <+: List.range 98 := by
    rw [List.prefix_iff_eq_take, List.length_range, List.take_range, Nat.min_eq_left (by omega)]
  exact this.map _
theorem first_full {p : Nat → Bool} {m k : Nat} (hm : m < 98) (h : (opsTo (m + 1)).find? p = some k) : (opsTo 98).find? p = some k := by
  obtain ⟨t, ht⟩ := opsTo_prefix m hm
  rw [← ht, List.find?_append, h]; rfl
theorem first_none {p : Nat → Bool} {m : Nat} (h : (opsTo m).find? p = none) (hk : p (m + 1) = false) : (opsTo (m + 1)).find? p = none := by
  rw [opsTo_succ, List.find?_append, h]; simp [hk]
theorem first_hit {p : Nat → Bool} {m : Nat} (h : (opsTo m).find? p = none) (hk : p (m + 1) = true) : (opsTo (m + 1)).find? p = some (m + 1) := by
  rw [opsTo_succ, List.find?_append, h]; simp [hk]
def decN (X : Nat) : Option Nat := (opsTo 98).find? (matchN X)
theorem tabs_ok : ∀ k : Fin 99, 1 ≤ k.val → maskN k.val &&& 127 = 127 ∧ maskN k.val < 4294967296 ∧ valN k.val < 4294967296 := by decide +kernel
theorem opcode_skip (X k : Nat) (h1 : 1 ≤ k) (h2 : k ≤ 98) (h : (valN k ^^^ X) &&& 127 ≠ 0) : matchN X k = false := by
  cases hm : matchN X k
  · rfl
  · exfalso
    apply h
    have e : X &&& maskN k = valN k := by simpa [matchN] using hm
    have hk := (tabs_ok ⟨k, by omega⟩ h1).1
    simp only at hk
    apply Nat.eq_of_testBit_eq
    intro i
    rw [Nat.testBit_and, Nat.testBit_xor, Nat.zero_testBit, ← e, Nat.testBit_and]
    have hb : (maskN k &&& 127).testBit i = (127 : Nat).testBit i := by rw [hk]
    rw [Nat.testBit_and] at hb
    revert hb
    cases (127 : Nat).testBit i <;> cases (maskN k).testBit i <;> cases X.testBit i <;> simp
def zeroInsn : Value := .agg #[.int .i64 0, .int .i64 0, .int .i64 0, .int .i64 0, .int .i64 0, .int .i64 0, .bool false, .bool false]
def decV (X : Nat) : Value := match decN X with | some k => .tuple #[readV (fmtN (k : Nat)) (k : Nat) (X : Nat), .bool true] | none => .tuple #[zeroInsn, .bool false]
structure ResAt (w : World) (b : Nat) : Prop where
  c : w.cell? ⟨b, 0, none⟩ = some (.int .i64 0) ∧ w.cell? ⟨b, 1, none⟩ = some (.int .i64 0) ∧ w.cell? ⟨b, 2, none⟩ = some (.int .i64 0) ∧ w.cell? ⟨b, 3, none⟩ = some (.int .i64 0) ∧ w.cell? ⟨b, 4, none⟩ = some (.int .i64 0) ∧ w.cell? ⟨b, 5, none⟩ = some (.int .i64 0) ∧ w.cell? ⟨b, 6, none⟩ = some (.bool false) ∧ w.cell? ⟨b, 7, none⟩ = some (.bool false)
  d : w.frozen? ⟨b, 0, none⟩ = false ∧ w.frozen? ⟨b, 1, none⟩ = false ∧ w.frozen? ⟨b, 2, none⟩ = false ∧ w.frozen? ⟨b, 3, none⟩ = false ∧ w.frozen? ⟨b, 4, none⟩ = false ∧ w.frozen? ⟨b, 5, none⟩ = false ∧ w.frozen? ⟨b, 6, none⟩ = false ∧ w.frozen? ⟨b, 7, none⟩ = false
theorem resAt_new (w : World) (t : TypeId) : ResAt (w.alloc (.cells #[.int .i64 0, .int .i64 0, .int .i64 0, .int .i64 0, .int .i64 0, .int .i64 0, .bool false, .bool false] t)) w.heap.size := by
  constructor
  · refine ⟨?_, ?_, ?_, ?_, ?_, ?_, ?_, ?_⟩ <;> simp [go_sem]
  · refine ⟨?_, ?_, ?_, ?_, ?_, ?_, ?_, ?_⟩ <;> simp [go_sem]
theorem ResAt.on {w w' : World} {b : Nat} (h : ResAt w b) (hb : Below w.heap.size w w') : ResAt w' b := by
  obtain ⟨⟨c0, c1, c2, c3, c4, c5, c6, c7⟩, ⟨d0, d1, d2, d3, d4, d5, d6, d7⟩⟩ := h
  have hl := lt_cell c0
  exact ⟨⟨(hb.cell (p := ⟨b, 0, none⟩) hl).trans c0, (hb.cell (p := ⟨b, 1, none⟩) hl).trans c1, (hb.cell (p := ⟨b, 2, none⟩) hl).trans c2, (hb.cell (p := ⟨b, 3, none⟩) hl).trans c3, (hb.cell (p := ⟨b, 4, none⟩) hl).trans c4, (hb.cell (p := ⟨b, 5, none⟩) hl).trans c5, (hb.cell (p := ⟨b, 6, none⟩) hl).trans c6, (hb.cell (p := ⟨b, 7, none⟩) hl).trans c7⟩, ⟨(hb.frozen (p := ⟨b, 0, none⟩) hl).trans d0, (hb.frozen (p := ⟨b, 1, none⟩) hl).trans d1, (hb.frozen (p := ⟨b, 2, none⟩) hl).trans d2, (hb.frozen (p := ⟨b, 3, none⟩) hl).trans d3, (hb.frozen (p := ⟨b, 4, none⟩) hl).trans d4, (hb.frozen (p := ⟨b, 5, none⟩) hl).trans d5, (hb.frozen (p := ⟨b, 6, none⟩) hl).trans d6, (hb.frozen (p := ⟨b, 7, none⟩) hl).trans d7⟩⟩
theorem resAt_lt {w : World} {b : Nat} (h : ResAt w b) : b < w.heap.size := lt_cell h.c.1
set_option maxHeartbeats 4000000 in
set_option maxRecDepth 100000 in
theorem decode_c (X : Nat) (hX : X < 4294967296) (w : World) (hv : VarsAt w) : Calls Tryz.prog 82 #[.int .u32 (X : Nat)] w fun e w' => e = .returned (decV X) ∧ Below w.heap.size w w' := by
  generalize hr : decV X = r
  have HR := Lib.hid hr
  have hv2 := hv.size
  have HV := Lib.hid hv
  clear hr hv
  go_enter Tryz.func82, Tryz.ntmps82
  go_wp2_with fail
  have HR0 := Lib.hid (resAt_new w 24)
  have HB0 := Lib.hid (show Below w.heap.size w (w.alloc (.cells #[.int .i64 0, .int .i64 0, .int .i64 0, .int .i64 0, .int .i64 0, .int .i64 0, .bool false, .bool false] 24)) from (Below.refl _ _).alloc (Nat.le_refl _) _)
  have hz : (w.alloc (.cells #[.int .i64 0, .int .i64 0, .int .i64 0, .int .i64 0, .int .i64 0, .int .i64 0, .bool false, .bool false] 24)).heap.size = w.heap.size + 1 := by simp
  have HZ := Lib.hid hz
  clear hz
  generalize (w.alloc (.cells #[.int .i64 0, .int .i64 0, .int .i64 0, .int .i64 0, .int .i64 0, .int .i64 0, .bool false, .bool false] 24)) = W0 at *
  go_loopw [4] (fun i wr => ∃ k : Nat, k ≤ 98 ∧ i = .int .i64 ((k : Int) + 1) ∧ Below W0.heap.size W0 wr ∧ (opsTo k).find? (matchN X) = none) (fun i _ => 99 - (intOf i).toNat)
  case atStart => exact ⟨0, by omega, rfl, Below.refl _ _, rfl⟩
  case round =>
    obtain ⟨k, hk, rfl, hb, hf⟩ := hrel
    have HF := Lib.hid hf
    have HVr := Lib.hid (((HV.out.low HB0.out)).low hb)
    have HRr := Lib.hid (HR0.out.on hb)
    have HB := Lib.hid (HB0.out.trans (hb.mono (by have := HZ.out; omega)))
    have HBr := Lib.hid hb
    clear hf hb
    by_cases hlt : k < 98
    · have cv := HVr.out.vals (k + 1) (by omega)
      obtain ⟨t1, t2, t3⟩ := tabs_ok ⟨k + 1, by omega⟩ (by simp only; omega)
      simp only at t1 t2 t3
      have ex := u32_xor ((valN (k + 1) : Nat) : Int) (X : Int) (by omega) (by omega) (by omega) (by omega)
      rw [Int.toNat_natCast, Int.toNat_natCast] at ex
      have hxl : valN (k + 1) ^^^ X < 4294967296 := Nat.xor_lt_two_pow (n := 32) t3 hX
      have ea := u32_and ((valN (k + 1) ^^^ X : Nat) : Int) 127 (by omega) (by omega) (by omega) (by omega)
      rw [Int.toNat_natCast, show (127 : Int).toNat = 127 from rfl] at ea
      by_cases hs : (valN (k + 1) ^^^ X) &&& 127 = 0
      · have es : (bits .and .u32 (bits .xor .u32 ((valN (k + 1) : Nat) : Int) (X : Int)) 127 != 0) = false := by rw [ex, ea, hs]; rfl
        have em := u32_and (X : Int) ((maskN (k + 1) : Nat) : Int) (by omega) (by omega) (by omega) (by omega)
        rw [Int.toNat_natCast, Int.toNat_natCast] at em
        have hm : (bits .and .u32 (X : Int) (fixM ((k : Int) + 1)) == fixV ((k : Int) + 1)) = matchN X (k + 1) := by
          have e1 : fixM ((k : Int) + 1) = ((maskN (k + 1) : Nat) : Int) := by unfold fixM maskN; rw [show (((k + 1 : Nat)) : Int) = (k : Int) + 1 by omega]
          have e2 : fixV ((k : Int) + 1) = ((valN (k + 1) : Nat) : Int) := by unfold fixV valN; rw [show (((k + 1 : Nat)) : Int) = (k : Int) + 1 by omega]
          rw [e1, e2, em]
          unfold matchN
          rw [Bool.eq_iff_iff, beq_iff_eq, beq_iff_eq]
          omega
        clear ex ea em hxl hs t1 t2 t3
        generalize ((valN (k + 1) : Nat) : Int) = v at *
        go_wp2_with fail
        refine (fixed_c _ _ HVr.out).mono ?_
        rintro e w1 ⟨rfl, hb1⟩
        have HV1 := Lib.hid (HVr.out.low hb1)
        have HR1 := Lib.hid (HRr.out.on hb1)
        have HB1 := Lib.hid (HB.out.trans (hb1.mono HB.out.size))
        have HBr1 := Lib.hid (HBr.out.trans (hb1.mono HBr.out.size))
        clear hb1 cv es
        cases hmm : matchN X (k + 1)
        · rw [hmm] at hm
          have HN := Lib.hid (first_none HF.out hmm)
          clear hmm
          generalize fixM ((k : Int) + 1) = fm at *
          generalize fixV ((k : Int) + 1) = fv at *
          go_wp2_with fail
          go_roundw
          case rel => exact ⟨k + 1, by omega, by go_num, HBr1.out, HN.out⟩
          case measure => simp [intOf]; omega
        · rw [hmm] at hm
          have HN := Lib.hid (first_full hlt (first_hit HF.out hmm))
          clear hmm
          generalize fixM ((k : Int) + 1) = fm at *
          generalize fixV ((k : Int) + 1) = fv at *
          go_wp2_with fail
          refine (read_c _ _ _ HV1.out (by omega) (by omega)).mono ?_
          rintro e w2 ⟨rfl, hb2⟩
          have HR2 := Lib.hid (HR1.out.on hb2)
          have HB := Lib.hid (HB1.out.trans (hb2.mono HB1.out.size))
          clear hb2 hm
          obtain ⟨⟨c0, c1, c2, c3, c4, c5, c6, c7⟩, ⟨d0, d1, d2, d3, d4, d5, d6, d7⟩⟩ := HR2.out
          have HE := Lib.hid (show r = .tuple #[readV (fmtN ((k : Int) + 1)) ((k : Int) + 1) (X : Nat), .bool true] from by
            rw [← HR.out]; unfold decV decN; rw [HN.out]; simp only; rw [show (((k + 1 : Nat)) : Int) = (k : Int) + 1 by omega])
          unfold readV at *
          go_wp2_with fail
          refine bodyPost_ret (v := r) (by rw [HE.out]; simp [results, Tryz.results82, go_sem, c0, c1, c2, c3, c4, c5, c6, c7]) rfl ⟨rfl, ?_⟩
          exact ((((((((HB.out.setCell (by exact Nat.le_refl _) _).setCell (by exact Nat.le_refl _) _).setCell (by exact Nat.le_refl _) _).setCell (by exact Nat.le_refl _) _).setCell (by exact Nat.le_refl _) _).setCell (by exact Nat.le_refl _) _).setCell (by exact Nat.le_refl _) _).setCell (by exact Nat.le_refl _) _)
      · have es : (bits .and .u32 (bits .xor .u32 ((valN (k + 1) : Nat) : Int) (X : Int)) 127 != 0) = true := by
          rw [ex, ea]
          simpa using hs
        have HN := Lib.hid (first_none HF.out (opcode_skip X (k + 1) (by omega) (by omega) hs))
        clear ex ea hxl hs t1 t2 t3
        generalize ((valN (k + 1) : Nat) : Int) = v at *
        go_wp2_with fail
        go_roundw
        case rel => exact ⟨k + 1, by omega, by go_num, HBr.out, HN.out⟩
        case measure => simp [intOf]; omega
    · obtain rfl : k = 98 := by omega
      obtain ⟨⟨c0, c1, c2, c3, c4, c5, c6, c7⟩, ⟨d0, d1, d2, d3, d4, d5, d6, d7⟩⟩ := HRr.out
      have HE := Lib.hid (show r = .tuple #[zeroInsn, .bool false] from by rw [← HR.out]; unfold decV decN; rw [HF.out])
      go_wp2_with fail
      refine bodyPost_ret (v := r) (by rw [HE.out]; simp [results, Tryz.results82, go_sem, zeroInsn, c0, c1, c2, c3, c4, c5, c6, c7]) rfl ⟨rfl, ?_⟩
      exact ((((((((HB.out.setCell (by exact Nat.le_refl _) _).setCell (by exact Nat.le_refl _) _).setCell (by exact Nat.le_refl _) _).setCell (by exact Nat.le_refl _) _).setCell (by exact Nat.le_refl _) _).setCell (by exact Nat.le_refl _) _).setCell (by exact Nat.le_refl _) _).setCell (by exact Nat.le_refl _) _)
end Go.Proofs.YthehcplogkgkeaaGreatDoor
set_option maxRecDepth 4000
namespace Go.Proofs.YthehcplogkgkeaaGreatDoor
open Go.ChangeShapes Go.WideShapes Go.ChangeAt Go.RowKit Wd

set_option maxHeartbeats 1000000 in
theorem foreign1_c (f : Nat) (hf : f < 15) (what : Int) (b : Bool) (pf : Nat) (W : World) (hv : FldsAt W) (hcf : W.cell? ⟨pf, 0, none⟩ = some (.int .i64 (f : Nat))) (hb : lacksB f what = b) :
    Calls Tryz.prog 88 #[.int .u8 what, .pointer (some ⟨pf, 0, none⟩)] W fun e W' => e = .returned (.bool b) ∧ W = W' := by
  have hfl := hv.flds f hf
  have hf2 : (f : Int) < 15 := by omega
  have hl2 : (bits .and .u8 ((fldL.getD f 0 : Nat) : Int) what == 0) = b := hb
  clear hv hb
  generalize ((fldL.getD f 0 : Nat) : Int) = g at *
  go_enter Tryz.func88, Tryz.ntmps88
  go_wp2_with fail
  go_ret
  exact ⟨rfl, rfl⟩
theorem parts_E (f : Int) (h : partsL f = []) (w : World) : Calls Tryz.prog 89 #[.int .i64 f] w fun e w' => e = .returned (.slice none 0 0) ∧ w = w' := by
  refine (parts_c f w).mono ?_
  rintro e w' (⟨-, rfl, rfl⟩ | ⟨hne, -⟩)
  · exact ⟨rfl, rfl⟩
  · exact absurd h hne
theorem parts_N (f : Int) (h : partsL f ≠ []) (w : World) : Calls Tryz.prog 89 #[.int .i64 f] w fun e w' => e = .returned (.slice (some ⟨w.heap.size, 0, none⟩) (partsL f).length (partsL f).length) ∧ Below w.heap.size w w' := by
  refine (parts_c f w).mono ?_
  rintro e w' (⟨he, -⟩ | ⟨-, rfl, -, hb, -⟩)
  · exact absurd he h
  · exact ⟨rfl, hb⟩
def foreignS (f : Nat) (rd rs1 rs2 imm csr : Int) (aq rl : Bool) : Bool := (lacksB f 1 && (rd != 0)) || (lacksB f 2 && (rs1 != 0)) || (lacksB f 4 && (rs2 != 0)) || (lacksB f 8 && (csr != 0)) || (lacksB f 16 && (aq || rl)) || ((partsL (f : Nat)).isEmpty && (imm != 0))
theorem ins_box (w : World) (f op rd rs1 rs2 imm csr : Int) (aq rl : Bool) (s t : TypeId) : ((w.alloc (.cells #[.int .i64 f] s)).alloc (.cells #[.int .i64 op, .int .i64 rd, .int .i64 rs1, .int .i64 rs2, .int .i64 imm, .int .i64 csr, .bool aq, .bool rl] t)).cell? ⟨w.heap.size, 0, none⟩ = some (.int .i64 f) := by
  simp [go_sem, World.cell?_alloc_past]
end Go.Proofs.YthehcplogkgkeaaGreatDoor
set_option maxRecDepth 4000
namespace Go.Proofs.YthehcplogkgkeaaGreatDoor
open Go.ChangeShapes Go.WideShapes Go.ChangeAt Go.RowKit Wd

def inF (n m : Int) : Bool := decide (0 ≤ n) && decide (n < m)
theorem inF_iff {n m : Int} : inF n m = true ↔ 0 ≤ n ∧ n < m := by simp [inF]
set_option maxHeartbeats 1000000 in
theorem isField5_c (n : Int) (b : Bool) (hb : inF n 32 = b) (w : World) : Calls Tryz.prog 55 #[.int .i64 n, .int .i64 5] w fun e w' => e = .returned (.bool b) ∧ w = w' := by
  by_cases h1 : 0 ≤ n
  · have d1 : decide (0 ≤ n) = true := by simpa using h1
    have HB := Lib.hid (show decide (n < 32) = b by rw [← hb]; simp [inF, d1])
    clear h1 hb
    go_enter Tryz.func55, Tryz.ntmps55
    go_wp2_with fail
    go_ret
    exact ⟨ret_b HB.out, rfl⟩
  · have d1 : decide (0 ≤ n) = false := by simpa using h1
    have HB := Lib.hid (show false = b by rw [← hb]; simp [inF, d1])
    clear h1 hb
    go_enter Tryz.func55, Tryz.ntmps55
    go_wp2_with fail
    go_ret
    exact ⟨ret_b HB.out, rfl⟩
set_option maxHeartbeats 1000000 in
theorem isField12_c (n : Int) (b : Bool) (hb : inF n 4096 = b) (w : World) : Calls Tryz.prog 55 #[.int .i64 n, .int .i64 12] w fun e w' => e = .returned (.bool b) ∧ w = w' := by
  by_cases h1 : 0 ≤ n
  · have d1 : decide (0 ≤ n) = true := by simpa using h1
    have HB := Lib.hid (show decide (n < 4096) = b by rw [← hb]; simp [inF, d1])
    clear h1 hb
    go_enter Tryz.func55, Tryz.ntmps55
    go_wp2_with fail
    go_ret
    exact ⟨ret_b HB.out, rfl⟩
  · have d1 : decide (0 ≤ n) = false := by simpa using h1
    have HB := Lib.hid (show false = b by rw [← hb]; simp [inF, d1])
    clear h1 hb
    go_enter Tryz.func55, Tryz.ntmps55
    go_wp2_with fail
    go_ret
    exact ⟨ret_b HB.out, rfl⟩
def flagS (on : Bool) (n : Int) : Int := if on then n else 0
set_option maxHeartbeats 1000000 in
theorem flag26_c (on : Bool) (w : World) : Calls Tryz.prog 80 #[.bool on, .int .i64 26] w fun e w' => e = .returned (.int .u32 (flagS on 67108864)) ∧ w = w' := by
  cases on <;>
  · go_enter Tryz.func80, Tryz.ntmps80
    go_wp2_with fail
    go_ret
    exact ⟨rfl, rfl⟩
set_option maxHeartbeats 1000000 in
theorem flag25_c (on : Bool) (w : World) : Calls Tryz.prog 80 #[.bool on, .int .i64 25] w fun e w' => e = .returned (.int .u32 (flagS on 33554432)) ∧ w = w' := by
  cases on <;>
  · go_enter Tryz.func80, Tryz.ntmps80
    go_wp2_with fail
    go_ret
    exact ⟨rfl, rfl⟩
end Go.Proofs.YthehcplogkgkeaaGreatDoor
