/-
  The constant that kind.All ranges over, and where each op's name stands in it (plain lists). The contract of the iterator that kind.All hands back (in a range over it): it tells each op's number with its name, rising, till a round says that no more are wanted. Contracts of kind.Find and kind.Name: the op of a name, and an op's name.
-/
import Derived.Test.YthehcplogkgkeaaGreatDoorQa
import Derived.KernelRfl
import Derived.RangeFuncNested
import Derived.RangeFuncBound
import Derived.RangeFuncCalls
import Derived.RangeFuncLeaves
import Derived.RangeFuncFrom
import Derived.Shelf.Abstract
import Derived.Shelf.RegionOpen
import Derived.WalkKit
import Derived.OwnWalkIn
import Derived.TacticsInMore
import Derived.LoopNIn
import Derived.LoopIn
import Derived.Lib.OthersKept
import Derived.Lib.Hide
import Derived.Deep.RegionHeld
namespace Go.Proofs.YthehcplogkgkeaaGreatDoor.Tab
def offs : List Nat := [0, 4, 10, 14, 19, 23, 27, 31, 35, 40, 45, 48, 51, 54, 57, 61, 65, 69, 72, 75, 78, 81, 86, 91, 97, 102, 106, 111, 116, 121, 126, 130, 134, 138, 142, 147, 151, 155, 159, 162, 166, 172, 178, 184, 190, 195, 200, 205, 210, 215, 221, 229, 235, 242, 246, 251, 258, 264, 268, 273, 277, 282, 287, 292, 298, 303, 309, 314, 319, 329, 338, 347, 356, 364, 373, 382, 392, 402, 407, 412, 422, 431, 440, 449, 457, 466, 475, 485, 495, 501, 507, 513, 520, 527, 534, 539, 544, 548, 559]
def off (k : Nat) : Nat := offs.getD k 0
def nmL (k : Nat) : List UInt8 := names4.getD k []
def nmLen (k : Nat) : Nat := (nmL (k + 1)).length
def allB : ByteArray := { data := (((([108, 117, 105, 32, 97, 117, 105, 112, 99, 32, 106, 97, 108, 32, 106, 97, 108, 114, 32, 98, 101, 113, 32, 98, 110, 101, 32, 98, 108, 116, 32, 98, 103, 101].append [32, 98, 108, 116, 117, 32, 98, 103, 101, 117, 32, 108, 98, 32, 108, 104, 32, 108, 119, 32, 108, 100, 32, 108, 98, 117, 32, 108, 104, 117, 32, 108, 119, 117, 32]).append ([115, 98, 32, 115, 104, 32, 115, 119, 32, 115, 100, 32, 97, 100, 100, 105, 32, 115, 108, 116, 105, 32, 115, 108, 116, 105, 117, 32, 120, 111, 114, 105, 32, 111, 114].append [105, 32, 97, 110, 100, 105, 32, 115, 108, 108, 105, 32, 115, 114, 108, 105, 32, 115, 114, 97, 105, 32, 97, 100, 100, 32, 115, 117, 98, 32, 115, 108, 108, 32, 115])).append (([108, 116, 32, 115, 108, 116, 117, 32, 120, 111, 114, 32, 115, 114, 108, 32, 115, 114, 97, 32, 111, 114, 32, 97, 110, 100, 32, 97, 100, 100, 105, 119, 32, 115, 108].append [108, 105, 119, 32, 115, 114, 108, 105, 119, 32, 115, 114, 97, 105, 119, 32, 97, 100, 100, 119, 32, 115, 117, 98, 119, 32, 115, 108, 108, 119, 32, 115, 114, 108, 119]).append ([32, 115, 114, 97, 119, 32, 102, 101, 110, 99, 101, 32, 102, 101, 110, 99, 101, 46, 105, 32, 101, 99, 97, 108, 108, 32, 101, 98, 114, 101, 97, 107, 32, 109, 117].append [108, 32, 109, 117, 108, 104, 32, 109, 117, 108, 104, 115, 117, 32, 109, 117, 108, 104, 117, 32, 100, 105, 118, 32, 100, 105, 118, 117, 32, 114, 101, 109, 32, 114, 101]))).append ((([109, 117, 32, 109, 117, 108, 119, 32, 100, 105, 118, 119, 32, 100, 105, 118, 117, 119, 32, 114, 101, 109, 119, 32, 114, 101, 109, 117, 119, 32, 108, 114, 46, 119, 32].append [115, 99, 46, 119, 32, 97, 109, 111, 115, 119, 97, 112, 46, 119, 32, 97, 109, 111, 97, 100, 100, 46, 119, 32, 97, 109, 111, 120, 111, 114, 46, 119, 32, 97, 109]).append ([111, 97, 110, 100, 46, 119, 32, 97, 109, 111, 111, 114, 46, 119, 32, 97, 109, 111, 109, 105, 110, 46, 119, 32, 97, 109, 111, 109, 97, 120, 46, 119, 32, 97, 109].append [111, 109, 105, 110, 117, 46, 119, 32, 97, 109, 111, 109, 97, 120, 117, 46, 119, 32, 108, 114, 46, 100, 32, 115, 99, 46, 100, 32, 97, 109, 111, 115, 119, 97, 112])).append (([46, 100, 32, 97, 109, 111, 97, 100, 100, 46, 100, 32, 97, 109, 111, 120, 111, 114, 46, 100, 32, 97, 109, 111, 97, 110, 100, 46, 100, 32, 97, 109, 111, 111, 114].append [46, 100, 32, 97, 109, 111, 109, 105, 110, 46, 100, 32, 97, 109, 111, 109, 97, 120, 46, 100, 32, 97, 109, 111, 109, 105, 110, 117, 46, 100, 32, 97, 109, 111, 109]).append ([97, 120, 117, 46, 100, 32, 99, 115, 114, 114, 119, 32, 99, 115, 114, 114, 115, 32, 99, 115, 114, 114, 99, 32, 99, 115, 114, 114, 119, 105, 32, 99, 115, 114, 114].append [115, 105, 32, 99, 115, 114, 114, 99, 105, 32, 109, 114, 101, 116, 32, 115, 114, 101, 116, 32, 119, 102, 105, 32, 115, 102, 101, 110, 99, 101, 46, 118, 109, 97, 32])))).toArray }
set_option maxRecDepth 100000 in
theorem allB_eq : allB = { data := (((([108, 117, 105, 32, 97, 117, 105, 112, 99, 32, 106, 97, 108, 32, 106, 97, 108, 114, 32, 98, 101, 113, 32, 98, 110, 101, 32, 98, 108, 116, 32, 98, 103, 101].append [32, 98, 108, 116, 117, 32, 98, 103, 101, 117, 32, 108, 98, 32, 108, 104, 32, 108, 119, 32, 108, 100, 32, 108, 98, 117, 32, 108, 104, 117, 32, 108, 119, 117, 32]).append ([115, 98, 32, 115, 104, 32, 115, 119, 32, 115, 100, 32, 97, 100, 100, 105, 32, 115, 108, 116, 105, 32, 115, 108, 116, 105, 117, 32, 120, 111, 114, 105, 32, 111, 114].append [105, 32, 97, 110, 100, 105, 32, 115, 108, 108, 105, 32, 115, 114, 108, 105, 32, 115, 114, 97, 105, 32, 97, 100, 100, 32, 115, 117, 98, 32, 115, 108, 108, 32, 115])).append (([108, 116, 32, 115, 108, 116, 117, 32, 120, 111, 114, 32, 115, 114, 108, 32, 115, 114, 97, 32, 111, 114, 32, 97, 110, 100, 32, 97, 100, 100, 105, 119, 32, 115, 108].append [108, 105, 119, 32, 115, 114, 108, 105, 119, 32, 115, 114, 97, 105, 119, 32, 97, 100, 100, 119, 32, 115, 117, 98, 119, 32, 115, 108, 108, 119, 32, 115, 114, 108, 119]).append ([32, 115, 114, 97, 119, 32, 102, 101, 110, 99, 101, 32, 102, 101, 110, 99, 101, 46, 105, 32, 101, 99, 97, 108, 108, 32, 101, 98, 114, 101, 97, 107, 32, 109, 117].append [108, 32, 109, 117, 108, 104, 32, 109, 117, 108, 104, 115, 117, 32, 109, 117, 108, 104, 117, 32, 100, 105, 118, 32, 100, 105, 118, 117, 32, 114, 101, 109, 32, 114, 101]))).append ((([109, 117, 32, 109, 117, 108, 119, 32, 100, 105, 118, 119, 32, 100, 105, 118, 117, 119, 32, 114, 101, 109, 119, 32, 114, 101, 109, 117, 119, 32, 108, 114, 46, 119, 32].append [115, 99, 46, 119, 32, 97, 109, 111, 115, 119, 97, 112, 46, 119, 32, 97, 109, 111, 97, 100, 100, 46, 119, 32, 97, 109, 111, 120, 111, 114, 46, 119, 32, 97, 109]).append ([111, 97, 110, 100, 46, 119, 32, 97, 109, 111, 111, 114, 46, 119, 32, 97, 109, 111, 109, 105, 110, 46, 119, 32, 97, 109, 111, 109, 97, 120, 46, 119, 32, 97, 109].append [111, 109, 105, 110, 117, 46, 119, 32, 97, 109, 111, 109, 97, 120, 117, 46, 119, 32, 108, 114, 46, 100, 32, 115, 99, 46, 100, 32, 97, 109, 111, 115, 119, 97, 112])).append (([46, 100, 32, 97, 109, 111, 97, 100, 100, 46, 100, 32, 97, 109, 111, 120, 111, 114, 46, 100, 32, 97, 109, 111, 97, 110, 100, 46, 100, 32, 97, 109, 111, 111, 114].append [46, 100, 32, 97, 109, 111, 109, 105, 110, 46, 100, 32, 97, 109, 111, 109, 97, 120, 46, 100, 32, 97, 109, 111, 109, 105, 110, 117, 46, 100, 32, 97, 109, 111, 109]).append ([97, 120, 117, 46, 100, 32, 99, 115, 114, 114, 119, 32, 99, 115, 114, 114, 115, 32, 99, 115, 114, 114, 99, 32, 99, 115, 114, 114, 119, 105, 32, 99, 115, 114, 114].append [115, 105, 32, 99, 115, 114, 114, 99, 105, 32, 109, 114, 101, 116, 32, 115, 114, 101, 116, 32, 119, 102, 105, 32, 115, 102, 101, 110, 99, 101, 46, 118, 109, 97, 32])))).toArray } := rfl
theorem allB_size : allB.size = 559 := by kernel_rfl
theorem off_ok : ∀ k : Fin 98, off k.val + nmLen k.val + 1 = off (k.val + 1) ∧ 1 ≤ nmLen k.val ∧ off (k.val + 1) ≤ 559 ∧ (allB.data.toList.drop (off k.val)).take (nmLen k.val) = nmL (k.val + 1) ∧ (allB.data.toList.drop (off k.val + nmLen k.val)).head? = some 32 := by decide +kernel
theorem nm_ok : ∀ k : Fin 98, ∀ c ∈ nmL (k.val + 1), c ≠ 32 ∧ c < 128 := by decide +kernel
theorem off_end : off 98 = 559 ∧ off 0 = 0 := by decide
end Go.Proofs.YthehcplogkgkeaaGreatDoor.Tab
set_option maxRecDepth 4000
namespace Go.Proofs.YthehcplogkgkeaaGreatDoor
open Go.RowKit Go.Shelf Go.Lib

abbrev opEnc (k : Nat) : Array Value := #[.int .i64 k, strV (Tab.nmL k)]
def told (m : Nat) : List Nat := (List.range m).map (· + 1)
theorem told_succ (m : Nat) : told (m + 1) = told m ++ [m + 1] := by simp [told, List.range_succ]
theorem told_len (m : Nat) : (told m).length = m := by simp [told]

/-- What is asked of the constant. -/
structure IsAll (S : ByteArray) : Prop where
  size : S.size = 559
  next : ∀ k j, k < 98 → j < Tab.nmLen k → ∃ c : Nat, c ≠ 32 ∧ c < 128 ∧ ∃ h : Tab.off k + j < S.size, (S[Tab.off k + j]'h).toNat = c
  gap : ∀ k, k < 98 → ∃ h : Tab.off k + Tab.nmLen k < S.size, (S[Tab.off k + Tab.nmLen k]'h).toNat = 32
  name : ∀ k, k < 98 → S.extract (Tab.off k) (Tab.off k + Tab.nmLen k) = bsOf (Tab.nmL (k + 1))

theorem get_of_list (S : ByteArray) (i : Nat) (c : UInt8) (h : S.data.toList[i]? = some c) : ∃ h : i < S.size, S[i]'h = c := by
  obtain ⟨hl, hc⟩ := List.getElem?_eq_some_iff.1 h
  refine ⟨hl, ?_⟩
  rw [← hc]; rfl
theorem extract_of_list (S : ByteArray) (i n : Nat) (l : List UInt8) (h : (S.data.toList.drop i).take n = l) : S.extract i (i + n) = bsOf l := by
  apply ByteArray.ext
  rw [ByteArray.data_extract]
  apply Array.ext'
  rw [Array.toList_extract]
  simp only [bsOf]
  rw [← h, List.extract_eq_take_drop]
  simp
theorem isAll : IsAll Tab.allB := by
  refine ⟨Tab.allB_size, fun k j hk hj => ?_, fun k hk => ?_, fun k hk => ?_⟩
  · obtain ⟨-, -, -, h4, -⟩ := Tab.off_ok ⟨k, hk⟩
    simp only at h4
    have hl : (Tab.nmL (k + 1)).length = Tab.nmLen k := rfl
    have h0 : (Tab.nmL (k + 1))[j]? = some ((Tab.nmL (k + 1))[j]'(by omega)) := List.getElem?_eq_getElem _
    have h1 := Tab.nm_ok ⟨k, hk⟩ ((Tab.nmL (k + 1))[j]'(by omega)) (List.getElem_mem _)
    generalize ((Tab.nmL (k + 1))[j]'(by omega)) = c at *
    rw [← h4, List.getElem?_take_of_lt hj, List.getElem?_drop] at h0
    obtain ⟨h, e⟩ := get_of_list _ _ _ h0
    refine ⟨c.toNat, fun e' => h1.1 (UInt8.toNat_inj.1 e'), ?_, h, by rw [e]⟩
    exact UInt8.lt_iff_toNat_lt.1 h1.2
  · obtain ⟨-, -, -, -, h5⟩ := Tab.off_ok ⟨k, hk⟩
    simp only [List.head?_drop] at h5
    obtain ⟨h, e⟩ := get_of_list _ _ _ h5
    exact ⟨h, by rw [e]; rfl⟩
  · obtain ⟨-, -, -, h4, -⟩ := Tab.off_ok ⟨k, hk⟩
    exact extract_of_list _ _ _ _ h4

theorem next_at {P : Program} (w : World) (b : Nat) (S : ByteArray) (pos : Nat) (ty : TypeId) (c : Nat) (hk : w.heap[b]? = some (.stringIter S pos)) (ha : c < 128) (h : ∃ h : pos < S.size, (S[pos]'h).toNat = c) :
    (Instr.next (.pointer (some ⟨b, 0, none⟩)) true ty).run P w = .ok (.tuple #[.bool true, .int .i64 pos, .int .i32 (c : Nat)]) (w.iterAt b S (pos + 1)) := by
  obtain ⟨h1, h2⟩ := h
  rw [run_next_ascii_at w b S pos ty hk h1 (by rw [h2]; exact ha), h2]
theorem slice_lh {P : Program} (w : World) (t : TypeId) (s : ByteArray) (ht : P.underlying t = some .string) (l h : Int) (h0 : 0 ≤ l) (h1 : l ≤ h) (h2 : h ≤ s.size) :
    (Instr.slice t (.string s) (some (.int .i64 l)) (some (.int .i64 h)) none).run P w = .ok (.string (s.extract l.toNat h.toNat)) w := by
  have eh : (h.toNat : Int) = h := Int.toNat_of_nonneg (by omega)
  simp [Instr.slice, run_underlying ht, Instr.sliceBounds, run_sliceBound, *, (by omega : 0 ≤ h)]
theorem iterAt_put (w : World) (b : Nat) (S : ByteArray) (p : Nat) : w.iterAt b S p = w.putObj b (.stringIter S p) := rfl

attribute [local go_sem] Oper.semAt_some

set_option maxRecDepth 100000 in
set_option maxHeartbeats 2000000 in
theorem all1_stops (F : Fence) (n : Nat) (hF : F.fn 128) (hro : F.round = none) (hn : 1 ≤ n) (w : World) :
    SeqStopsK F n Tryz.prog 128 #[] opEnc KeepsWalks (fun xs => xs = told 98) (fun pre => ∃ m, m < 98 ∧ pre = told (m + 1)) 98 w := fun l J Jx W _ hJ hJx hY h0 => by
  refine callsIn_of_wp Tryz.func128 rfl hF ?_ hro
  rw [← Tab.allB_eq]
  have HS := Lib.hid isAll
  generalize Tab.allB = S at *
  simp only [Tryz.ntmps128, List.size_toArray, List.length_cons, List.length_nil, Nat.reduceAdd, Nat.reduceSub, Array.replicate_succ, Array.replicate_zero, List.push_toArray, List.append_toArray, List.nil_append, List.cons_append]
  have hu := Tryz.underlying9
  gi_wp2
  have hB0 : (W.iter S 0).heap[W.heap.size]? = some (.stringIter S 0) := World.iter_heap W S 0
  have hJ0 : J [] (W.iter S 0) := hJ [] W _ none h0 (World.grownBy_alloc W _ none) (fun r e => by cases e)
  have HB0 := Lib.hid hB0
  clear hB0
  gi_loopw [2, 3] (fun o s wr => ∃ k j : Nat, (k < 98 ∧ j ≤ Tab.nmLen k ∨ k = 98 ∧ j = 0) ∧ o = .int .i64 ((k : Int) + 1) ∧ s = .int .i64 (Tab.off k : Nat) ∧ wr.heap[W.heap.size]? = some (.stringIter S (Tab.off k + j)) ∧ J (told k) wr)
    (fun _ _ wr => 559 - wr.iterPos W.heap.size)
  case atStart =>
    exact ⟨0, 0, .inl ⟨by decide, by decide⟩, rfl, rfl, HB0.out, hJ0⟩
  case round =>
    obtain ⟨k, j, hkj, rfl, rfl, hb, hJk⟩ := hrel
    have hpos : wr.iterPos W.heap.size = Tab.off k + j := by simp [World.iterPos, hb]
    have HPOS := Lib.hid hpos
    have HBK := Lib.hid hb
    have hblt : W.heap.size < wr.heap.size := (Array.getElem?_eq_some_iff.1 hb).1
    clear hpos
    rcases hkj with ⟨hk, hj⟩ | ⟨rfl, rfl⟩
    · obtain ⟨ho, h1, h2, -, -⟩ := Tab.off_ok ⟨k, hk⟩
      simp only at ho h1 h2
      have HO := Lib.hid ho
      have hle : Tab.off k + Tab.nmLen k + 1 ≤ 559 := by omega
      clear ho h2
      by_cases hlt : j < Tab.nmLen k
      · obtain ⟨c, hc, hc2, hget⟩ := HS.out.next k j hk hlt
        have hnx := fun ty => next_at (P := Tryz.prog) wr W.heap.size S (Tab.off k + j) ty c hb hc2 hget
        have hne : (((c : Nat) : Int) != 32) = true := by simp; omega
        clear hget hb
        have hJ' : J (told k) (wr.iterAt W.heap.size S (Tab.off k + j + 1)) := hJ (told k) wr _ (some W.heap.size) hJk (grownBy_putObj' wr W.heap.size _) (fun r e => by cases e; exact ⟨Nat.le_refl _, _, HBK.out, rfl⟩)
        gi_wp2
        go_roundw
        case rel => exact ⟨k, j + 1, .inl ⟨hk, hlt⟩, rfl, rfl, by rw [iterAt_heap _ _ _ _ _ HBK.out]; rfl, hJ'⟩
        case measure => rw [HPOS.out]; simp only [World.iterPos, iterAt_heap _ _ _ _ _ HBK.out]; omega
      · obtain rfl : j = Tab.nmLen k := by omega
        have hget := HS.out.gap k hk
        have hnx := fun ty => next_at (P := Tryz.prog) wr W.heap.size S (Tab.off k + Tab.nmLen k) ty 32 hb (by decide) hget
        have hne : (((32 : Nat) : Int) != 32) = false := by decide
        have hex := HS.out.name k hk
        have hsz := HS.out.size
        have hJ' : J (told k) (wr.iterAt W.heap.size S (Tab.off k + Tab.nmLen k + 1)) := hJ (told k) wr _ (some W.heap.size) hJk (grownBy_putObj' wr W.heap.size _) (fun r e => by cases e; exact ⟨Nat.le_refl _, _, HBK.out, rfl⟩)
        have HH := Lib.hid (iterAt_heap wr W.heap.size S (Tab.off k + Tab.nmLen k) (Tab.off k + Tab.nmLen k + 1) HBK.out)
        obtain ⟨fn, tmps, assign, body, hy, hR⟩ := hY (told k) (k + 1) _ hJ' (by rw [told_len]; exact hk)
        dsimp only [opEnc, strV] at hy
        simp only [Int.natCast_add, Int.natCast_one] at hy
        have hsl : ∀ W0 : World, (Instr.slice 9 (.string S) (some (.int .i64 (Tab.off k : Nat))) (some (.int .i64 ((Tab.off k : Nat) + (Tab.nmLen k : Nat)))) none).run Tryz.prog W0 = .ok (.string (bsOf (Tab.nmL (k + 1)))) W0 := fun W0 => by
          rw [← hex, slice_lh W0 _ S hu _ _ (by omega) (by omega) (by rw [hsz]; omega)]
          have e1 : ((Tab.off k : Nat) : Int).toNat = Tab.off k := by omega
          have e2 : (((Tab.off k : Nat) : Int) + ((Tab.nmLen k : Nat) : Int)).toNat = Tab.off k + Tab.nmLen k := by omega
          rw [e1, e2]
        clear hget hb hlt hex hsz
        gi_wp2
        refine hR.mono ?_
        rintro e W3 (⟨rfl, hJ3, hk3⟩ | ⟨rfl, hJx3⟩)
        · have HK3 := Lib.hid (hk3.same _ _ HH.out rfl)
          rw [← told_succ] at hJ3
          gi_wp2
          go_roundw
          case rel =>
            have e : Tab.off k + Tab.nmLen k + 1 = Tab.off (k + 1) + 0 := HO.out
            refine ⟨k + 1, 0, ?_, by go_num, ?_, ?_, hJ3⟩
            · by_cases h : k + 1 < 98
              · exact .inl ⟨h, Nat.zero_le _⟩
              · exact .inr ⟨by omega, rfl⟩
            · have := HO.out; go_num
            · rw [HK3.out, e]
          case measure => rw [HPOS.out]; simp only [World.iterPos, HK3.out]; omega
        · gi_wp2
          refine bodyPost_ret (results_none rfl _ _ _) rfl ?_
          exact ⟨⟨_, rfl⟩, .inr ⟨_, ⟨k, hk, (told_succ k).symm⟩, hJx3⟩⟩
    · have hnx := fun ty => run_next_end_at (P := Tryz.prog) wr W.heap.size S (Tab.off 98 + 0) ty hb (by rw [HS.out.size, Tab.off_end.1]; decide)
      clear hb
      gi_wp2
      go_end0
      exact ⟨⟨_, rfl⟩, .inl ⟨_, rfl, hJk⟩⟩
end Go.Proofs.YthehcplogkgkeaaGreatDoor
set_option maxRecDepth 4000
namespace Go.Proofs.YthehcplogkgkeaaGreatDoor
open Go.RowKit Go.Shelf Go.Lib
attribute [local go_sem] Oper.semAt_some

def isNm (s : ByteArray) (k : Nat) : Bool := (bsOf (Tab.nmL k)).toList == s.toList
def findN (s : ByteArray) : Nat := ((told 98).find? (isNm s)).getD 0
theorem find_none {s : ByteArray} {pre : List Nat} {k : Nat} (h : pre.find? (isNm s) = none) (hk : isNm s k = false) : (pre ++ [k]).find? (isNm s) = none := by
  rw [List.find?_append, h]; simp [hk]
theorem find_hit {s : ByteArray} {pre : List Nat} {k : Nat} (h : pre.find? (isNm s) = none) (hk : isNm s k = true) : (pre ++ [k]).find? (isNm s) = some k := by
  rw [List.find?_append, h]; simp [hk]
theorem told_prefix (m : Nat) (hm : m < 98) : told (m + 1) <+: told 98 := by
  unfold told
  have : List.range (m + 1) <+: List.range 98 := by
    rw [List.prefix_iff_eq_take, List.length_range, List.take_range, Nat.min_eq_left (by omega)]
  exact this.map _
theorem find_full {p : Nat → Bool} {m k : Nat} (hm : m < 98) (h : (told (m + 1)).find? p = some k) : (told 98).find? p = some k := by
  obtain ⟨t, ht⟩ := told_prefix m hm
  rw [← ht, List.find?_append, h]; rfl
theorem box_new (W : World) (v : Value) (t : TypeId) : (W.alloc (.cells #[v] t)).cell? ⟨W.heap.size, 0, none⟩ = some v ∧ (W.alloc (.cells #[v] t)).frozen? ⟨W.heap.size, 0, none⟩ = false := by
  constructor <;> simp
theorem box_on {W : World} {a : Addr} {v : Value} (o : Obj) (h : W.cell? a = some v ∧ W.frozen? a = false) : (W.alloc o).cell? a = some v ∧ (W.alloc o).frozen? a = false :=
  ⟨cell_kept h.1 (World.grownBy_alloc W o none) (fun r e => by cases e), (frozen_kept h.1 (World.grownBy_alloc W o none) (fun r e => by cases e)).trans h.2⟩

theorem all_in (F : Fence) (n : Nat) (hF : F.fn 96) (hro : F.round = none) (w : World) :
    CallsIn F n Tryz.prog 96 #[] w fun e w' => e = .returned (.func (.func 128) #[] #[]) ∧ w = w' := by
  refine callsIn_of_wp Tryz.func96 rfl hF ?_ hro
  simp only [Tryz.ntmps96, List.size_toArray, List.length_nil, Nat.reduceSub, Array.replicate_succ, Array.replicate_zero, List.push_toArray, List.append_toArray, List.nil_append]
  gi_wp2
  go_ret
  exact ⟨rfl, rfl⟩

set_option maxRecDepth 100000 in
set_option maxHeartbeats 2000000 in
theorem find_in (F : Fence) (n : Nat) (hf : F.fn 74) (ha : F.fn 96) (h1' : F.fn 128) (hro : F.round = none) (hn : 3 ≤ n) (s : ByteArray) (w : World) :
    CallsIn F n Tryz.prog 74 #[.string s] w fun e w' => e = .returned (.tuple #[.int .i64 (findN s : Nat), .bool (findN s != 0)]) ∧ Below w.heap.size w w' := by
  have h1 : 1 ≤ n := by omega
  refine callsIn_of_wp_marks Tryz.func74 rfl hf ?_ hro
  simp only [Tryz.ntmps74, List.size_toArray, List.length_cons, List.length_nil, Nat.reduceAdd, Nat.reduceSub, Array.replicate_succ, Array.replicate_zero, List.push_toArray, List.append_toArray, List.nil_append, List.cons_append]
  gi_wp2_with (gi_at_call 96; refine (all_in F (n - 1) ha hro _).mono ?_; rintro e w' ⟨rfl, rfl⟩)
  have c0 := box_new w (.string s) 9
  have c1 := box_new (w.alloc (.cells #[.string s] 9)) (.int .i64 0) 22
  have c2 := box_new ((w.alloc (.cells #[.string s] 9)).alloc (.cells #[.int .i64 0] 22)) (.bool false) 4
  simp only [World.size_alloc] at c1 c2
  have hB0 : Below w.heap.size w (((w.alloc (.cells #[.string s] 9)).alloc (.cells #[.int .i64 0] 22)).alloc (.cells #[.bool false] 4)) := (((Below.refl _ w).alloc (Nat.le_refl _) _).alloc (by simp) _).alloc (by simp; omega) _
  refine wpIn_rangeFunc_ownF hro h1 (gf := 128) (lb := #[]) rfl h1' (enters_of Tryz.func128 (by kernel_rfl) rfl)
    (all1_stops F (n - 1) h1' hro (by omega) _) walksK_t walksK_b (Below.refl _ _) (fun _ => rfl)
    (fun pre W => (pre.find? (isNm s) = none ∧ W.cell? ⟨w.heap.size, 0, none⟩ = some (.string s) ∧ (W.cell? ⟨w.heap.size + 1, 0, none⟩ = some (.int .i64 0) ∧ W.frozen? ⟨w.heap.size + 1, 0, none⟩ = false) ∧ W.cell? ⟨w.heap.size + 1 + 1, 0, none⟩ = some (.bool false) ∧ W.frozen? ⟨w.heap.size + 1 + 1, 0, none⟩ = false) ∧ Below w.heap.size w W)
    (fun c pre W => (c = .ret ∧ ∃ k : Nat, (pre.find? (isNm s) = some k ∧ k ∈ pre) ∧ W.cell? ⟨w.heap.size + 1, 0, none⟩ = some (.int .i64 k) ∧ W.cell? ⟨w.heap.size + 1 + 1, 0, none⟩ = some (.bool true)) ∧ Below w.heap.size w W)
    (OwnFrom.and (Own.from (fun p A B row hs hg hr => ⟨hs.1, cell_kept hs.2.1 hg hr, ⟨cell_kept hs.2.2.1.1 hg hr, (frozen_kept hs.2.2.1.1 hg hr).trans hs.2.2.1.2⟩, cell_kept hs.2.2.2.1 hg hr, (frozen_kept hs.2.2.2.1 hg hr).trans hs.2.2.2.2⟩) _) (ownFrom_below (Nat.le_refl _) (by simp; omega)))
    (fun c => OwnFrom.and (Own.from (fun p A B row hs hg hr => by obtain ⟨hc, k, hk, h1, h2⟩ := hs; exact ⟨hc, k, hk, cell_kept h1 hg hr, cell_kept h2 hg hr⟩) _) (ownFrom_below (Nat.le_refl _) (by simp; omega)))
    ⟨⟨rfl, (box_on _ (box_on _ c0)).1, box_on _ c1, c2.1, c2.2⟩, hB0⟩
    (fun x => { tmps := #[.string s, .pointer (some ⟨w.heap.size, 0, none⟩), .pointer (some ⟨w.heap.size + 1, 0, none⟩), .pointer (some ⟨w.heap.size + 1 + 1, 0, none⟩), .int .i64 x, strV (Tab.nmL x), .func (.func 128) #[] #[], .int .i64 x, strV (Tab.nmL x), undef, undef, undef, undef], defers := [] }) ?assign ?body ?done ?stop
  case assign =>
    intro l x W K hK
    gi_wp2
    exact hK
  case body =>
    rintro l pre x W ⟨⟨hp, hcs, ⟨hco, hfo⟩, hcb, hfb⟩, hB⟩ _
    gi_wp2
    · rename_i hx
      refine ⟨(KeepsOthers.setCell _ _ _).trans (KeepsOthers.setCell _ _ _), ⟨rfl, x, ⟨find_hit hp hx, by simp⟩, ?_, ?_⟩, (hB.setCell (p := ⟨w.heap.size + 1, 0, none⟩) (by simp) _).setCell (p := ⟨w.heap.size + 1 + 1, 0, none⟩) (by simp; omega) _⟩
      · rw [World.cell?_setCell_far _ _ _ _ (by simp)]
        exact World.cell?_setCell_same' _ _ _ (by rw [hco]; rfl)
      · refine World.cell?_setCell_same' _ _ _ ?_
        rw [World.cell?_setCell_far _ _ _ _ (by simp), hcb]; rfl
    · rename_i hx
      exact ⟨KeepsOthers.refl _, KeepsWalks.refl _, ⟨find_none hp (by unfold isNm; simpa using hx), hcs, ⟨hco, hfo⟩, hcb, hfb⟩, hB⟩
  case done =>
    rintro D ys W hD rfl ⟨⟨hne, _, ⟨hco, hfo⟩, hcb, hfb⟩, hB⟩ hK
    gi_wp2
    have k0 := (KeepsOthers.setCell W ⟨w.heap.size + 1, 0, none⟩ (.int .i64 0)).trans (KeepsOthers.setCell _ ⟨w.heap.size + 1 + 1, 0, none⟩ (.bool false))
    have hK' := k0.same D _ hK rfl
    refine ⟨by simp, .inl ⟨_, _, rfl, run_takeDeferred hK', ?_⟩⟩
    have d1 : ((W.setCell ⟨w.heap.size + 1, 0, none⟩ (.int .i64 0)).setCell ⟨w.heap.size + 1 + 1, 0, none⟩ (.bool false)).cell? ⟨w.heap.size + 1, 0, none⟩ = some (.int .i64 0) := by
      rw [World.cell?_setCell_far _ _ _ _ (by simp)]
      exact World.cell?_setCell_same' _ _ _ (by rw [hco]; rfl)
    have d2 : ((W.setCell ⟨w.heap.size + 1, 0, none⟩ (.int .i64 0)).setCell ⟨w.heap.size + 1 + 1, 0, none⟩ (.bool false)).cell? ⟨w.heap.size + 1 + 1, 0, none⟩ = some (.bool false) := by
      refine World.cell?_setCell_same' _ _ _ ?_
      rw [World.cell?_setCell_far _ _ _ _ (by simp), hcb]; rfl
    have e1 := cell_kept d1 (grownBy_putObj' _ D (.deferred none)) (fun r e => by cases e; exact ⟨_, hK', rfl⟩)
    have e2 := cell_kept d2 (grownBy_putObj' _ D (.deferred none)) (fun r e => by cases e; exact ⟨_, hK', rfl⟩)
    have hz : findN s = 0 := by unfold findN; rw [hne]; rfl
    refine ⟨.tuple #[.int .i64 0, .bool false], ?_, by rw [hz]; rfl, ((hB.setCell (p := ⟨w.heap.size + 1, 0, none⟩) (by simp) _).setCell (p := ⟨w.heap.size + 1 + 1, 0, none⟩) (by simp; omega) _).trans (belowK_b (w := w) (Nat.le_refl _) _ D _ _ (by simp at hD; omega) hK' rfl rfl)⟩
    simp [results, Tryz.f74, go_sem, e1, e2]
  case stop =>
    rintro D c pre W hD ⟨m, hm, rfl⟩ ⟨⟨rfl, k, ⟨hk, hk'⟩, hco, hcb⟩, hB⟩ hK
    gi_wp2
    refine ⟨by simp, .inl ⟨_, _, rfl, run_takeDeferred hK, ?_⟩⟩
    have e1 := cell_kept hco (grownBy_putObj' _ D (.deferred none)) (fun r e => by cases e; exact ⟨_, hK, rfl⟩)
    have e2 := cell_kept hcb (grownBy_putObj' _ D (.deferred none)) (fun r e => by cases e; exact ⟨_, hK, rfl⟩)
    have hz : findN s = k := by unfold findN; rw [find_full hm hk]; rfl
    have hk0 : (k != 0) = true := by
      obtain ⟨j, -, rfl⟩ := List.mem_map.1 hk'
      simp
    refine ⟨.tuple #[.int .i64 k, .bool true], ?_, by rw [hz, hk0], hB.trans (belowK_b (w := w) (Nat.le_refl _) W D _ _ (by simp at hD; omega) hK rfl rfl)⟩
    simp [results, Tryz.f74, go_sem, e1, e2]
theorem find_c (s : ByteArray) (w : World) : Calls Tryz.prog 74 #[.string s] w fun e w' => e = .returned (.tuple #[.int .i64 (findN s : Nat), .bool (findN s != 0)]) ∧ Below w.heap.size w w' :=
  (callsIn_wide (n := 3)).1 (find_in Fence.wide 3 trivial trivial trivial rfl (by decide) s w)

/-- An op's name; of what is no op: none. -/
def nameB (op : Int) : ByteArray := if 1 ≤ op ∧ op ≤ 98 then bsOf (Tab.nmL op.toNat) else bsOf []
theorem told_find (m : Nat) (op : Int) : (told m).find? (fun k => ((k : Nat) : Int) == op) = if 1 ≤ op ∧ op ≤ m then some op.toNat else none := by
  induction m with
  | zero => rw [if_neg (by omega)]; rfl
  | succ m ih =>
    rw [told_succ, List.find?_append, ih]
    by_cases h : 1 ≤ op ∧ op ≤ m
    · rw [if_pos h, if_pos (by omega)]; rfl
    · rw [if_neg h]
      by_cases h2 : ((m + 1 : Nat) : Int) = op
      · rw [if_pos (by omega)]
        simp only [List.find?_cons, h2, beq_self_eq_true, Option.none_or]
        congr 1; omega
      · rw [if_neg (by omega)]
        have : (((m + 1 : Nat) : Int) == op) = false := by simpa using h2
        simp only [List.find?_cons, List.find?_nil, this, Option.none_or]
set_option maxRecDepth 100000 in
set_option maxHeartbeats 2000000 in
theorem name_in (F : Fence) (n : Nat) (hf : F.fn 58) (ha : F.fn 96) (h1' : F.fn 128) (hro : F.round = none) (hn : 3 ≤ n) (op : Int) (w : World) :
    CallsIn F n Tryz.prog 58 #[.int .i64 op] w fun e w' => e = .returned (.string (nameB op)) ∧ Below w.heap.size w w' := by
  have h1 : 1 ≤ n := by omega
  have HF := Lib.hid (told_find 98 op)
  refine callsIn_of_wp_marks Tryz.func58 rfl hf ?_ hro
  simp only [Tryz.ntmps58, List.size_toArray, List.length_cons, List.length_nil, Nat.reduceAdd, Nat.reduceSub, Array.replicate_succ, Array.replicate_zero, List.push_toArray, List.append_toArray, List.nil_append, List.cons_append]
  gi_wp2_with (gi_at_call 96; refine (all_in F (n - 1) ha hro _).mono ?_; rintro e w' ⟨rfl, rfl⟩)
  have c0 := box_new w (.int .i64 op) 22
  have c1 := box_new (w.alloc (.cells #[.int .i64 op] 22)) (.string ⟨#[]⟩) 9
  simp only [World.size_alloc] at c1
  have hB0 : Below w.heap.size w ((w.alloc (.cells #[.int .i64 op] 22)).alloc (.cells #[.string ⟨#[]⟩] 9)) := ((Below.refl _ w).alloc (Nat.le_refl _) _).alloc (by simp) _
  refine wpIn_rangeFunc_ownF hro h1 (gf := 128) (lb := #[]) rfl h1' (enters_of Tryz.func128 (by kernel_rfl) rfl)
    (all1_stops F (n - 1) h1' hro (by omega) _) walksK_t walksK_b (Below.refl _ _) (fun _ => rfl)
    (fun pre W => (pre.find? (fun k => ((k : Nat) : Int) == op) = none ∧ W.cell? ⟨w.heap.size, 0, none⟩ = some (.int .i64 op) ∧ W.cell? ⟨w.heap.size + 1, 0, none⟩ = some (.string ⟨#[]⟩) ∧ W.frozen? ⟨w.heap.size + 1, 0, none⟩ = false) ∧ Below w.heap.size w W)
    (fun c pre W => (c = .ret ∧ ∃ k : Nat, pre.find? (fun k => ((k : Nat) : Int) == op) = some k ∧ W.cell? ⟨w.heap.size + 1, 0, none⟩ = some (strV (Tab.nmL k))) ∧ Below w.heap.size w W)
    (OwnFrom.and (Own.from (fun p A B row hs hg hr => ⟨hs.1, cell_kept hs.2.1 hg hr, cell_kept hs.2.2.1 hg hr, (frozen_kept hs.2.2.1 hg hr).trans hs.2.2.2⟩) _) (ownFrom_below (Nat.le_refl _) (by simp; omega)))
    (fun c => OwnFrom.and (Own.from (fun p A B row hs hg hr => by obtain ⟨hc, k, hk, h1⟩ := hs; exact ⟨hc, k, hk, cell_kept h1 hg hr⟩) _) (ownFrom_below (Nat.le_refl _) (by simp; omega)))
    ⟨⟨rfl, (box_on _ c0).1, c1.1, c1.2⟩, hB0⟩
    (fun x => { tmps := #[.int .i64 op, .pointer (some ⟨w.heap.size, 0, none⟩), .pointer (some ⟨w.heap.size + 1, 0, none⟩), .int .i64 x, strV (Tab.nmL x), .func (.func 128) #[] #[], .int .i64 x, strV (Tab.nmL x), undef, undef, undef, undef], defers := [] }) ?assign ?body ?done ?stop
  case assign =>
    intro l x W K hK
    gi_wp2
    exact hK
  case body =>
    rintro l pre x W ⟨⟨hp, hcs, hcb, hfb⟩, hB⟩ _
    gi_wp2
    · rename_i hx
      refine ⟨KeepsOthers.setCell _ _ _, ⟨rfl, x, ?_, ?_⟩, hB.setCell (p := ⟨w.heap.size + 1, 0, none⟩) (by simp) _⟩
      · rw [List.find?_append, hp]; simp only [List.find?_cons, Option.none_or, hx]
      · exact World.cell?_setCell_same' _ _ _ (by rw [hcb]; rfl)
    · rename_i hx
      refine ⟨KeepsOthers.refl _, KeepsWalks.refl _, ⟨?_, hcs, hcb, hfb⟩, hB⟩
      have hx' : (((x : Nat) : Int) == op) = false := by simpa using hx
      rw [List.find?_append, hp]; simp only [List.find?_cons, List.find?_nil, Option.none_or, hx']
  case done =>
    rintro D ys W hD rfl ⟨⟨hne, _, hcb, hfb⟩, hB⟩ hK
    gi_wp2
    have hK' := (KeepsOthers.setCell W ⟨w.heap.size + 1, 0, none⟩ (.string ⟨#[]⟩)).same D _ hK rfl
    refine ⟨by simp, .inl ⟨_, _, rfl, run_takeDeferred hK', ?_⟩⟩
    have e1 := cell_kept (World.cell?_setCell_same' W ⟨w.heap.size + 1, 0, none⟩ (.string ⟨#[]⟩) (by rw [hcb]; rfl)) (grownBy_putObj' _ D (.deferred none)) (fun r e => by cases e; exact ⟨_, hK', rfl⟩)
    have hz : nameB op = ⟨#[]⟩ := by
      rw [HF.out] at hne
      unfold nameB
      by_cases h : 1 ≤ op ∧ op ≤ 98
      · rw [if_pos (by omega)] at hne; cases hne
      · rw [if_neg h]; rfl
    refine ⟨.string ⟨#[]⟩, ?_, by rw [hz], (hB.setCell (p := ⟨w.heap.size + 1, 0, none⟩) (by simp) _).trans (belowK_b (w := w) (Nat.le_refl _) _ D _ _ (by simp at hD; omega) hK' rfl rfl)⟩
    simp [results, Tryz.f58, go_sem, e1]
  case stop =>
    rintro D c pre W hD ⟨m, hm, rfl⟩ ⟨⟨rfl, k, hk, hcb⟩, hB⟩ hK
    gi_wp2
    refine ⟨by simp, .inl ⟨_, _, rfl, run_takeDeferred hK, ?_⟩⟩
    have e1 := cell_kept hcb (grownBy_putObj' _ D (.deferred none)) (fun r e => by cases e; exact ⟨_, hK, rfl⟩)
    have hz : nameB op = bsOf (Tab.nmL k) := by
      have := find_full hm hk
      rw [HF.out] at this
      unfold nameB
      by_cases h : 1 ≤ op ∧ op ≤ 98
      · rw [if_pos (by omega)] at this; rw [if_pos h]; cases this; rfl
      · rw [if_neg (by omega)] at this; cases this
    refine ⟨.string (bsOf (Tab.nmL k)), ?_, by rw [hz], hB.trans (belowK_b (w := w) (Nat.le_refl _) W D _ _ (by simp at hD; omega) hK rfl rfl)⟩
    simp [results, Tryz.f58, go_sem, e1]
theorem name_c (op : Int) (w : World) : Calls Tryz.prog 58 #[.int .i64 op] w fun e w' => e = .returned (.string (nameB op)) ∧ Below w.heap.size w w' :=
  (callsIn_wide (n := 3)).1 (name_in Fence.wide 3 trivial trivial trivial rfl (by decide) op w)
end Go.Proofs.YthehcplogkgkeaaGreatDoor
