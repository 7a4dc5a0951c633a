/-
  The contract of the iterator that kind.All hands back (in a range over it): it tells each op's number with its name, rising, till a round says that no more are wanted.
-/
import Derived.Test.YtmaooljlkpfkoaaIt0
import Derived.Test.YtmaooljlkpfkoaaRefT
import Derived.RangeFuncNested
import Derived.RangeFuncBound
import Derived.RangeFuncCalls
import Derived.RangeFuncLeaves
import Derived.RangeFuncFrom
import Derived.Shelf.Abstract
import Derived.Shelf.RegionOpen
import Derived.WalkKit
import Derived.OwnWalkIn
import Derived.TacticsInMore
import Derived.LoopNIn
import Derived.LoopIn
import Derived.Lib.OthersKept
import Derived.Lib.Hide
namespace Go.Proofs.Ytmaooljlkpfkoaa
open Go.RowKit Go.Shelf Go.Lib

abbrev opEnc (k : Nat) : Array Value := #[.int .i64 k, strV (Tab.nmL k)]
def told (m : Nat) : List Nat := (List.range m).map (· + 1)
theorem told_succ (m : Nat) : told (m + 1) = told m ++ [m + 1] := by simp [told, List.range_succ]
theorem told_len (m : Nat) : (told m).length = m := by simp [told]

/-- What is asked of the constant. -/
structure IsAll (S : ByteArray) : Prop where
  size : S.size = 559
  next : ∀ k j, k < 98 → j < Tab.nmLen k → ∃ c : Nat, c ≠ 32 ∧ c < 128 ∧ ∃ h : Tab.off k + j < S.size, (S[Tab.off k + j]'h).toNat = c
  gap : ∀ k, k < 98 → ∃ h : Tab.off k + Tab.nmLen k < S.size, (S[Tab.off k + Tab.nmLen k]'h).toNat = 32
  name : ∀ k, k < 98 → S.extract (Tab.off k) (Tab.off k + Tab.nmLen k) = bsOf (Tab.nmL (k + 1))

theorem get_of_list (S : ByteArray) (i : Nat) (c : UInt8) (h : S.data.toList[i]? = some c) : ∃ h : i < S.size, S[i]'h = c := by
  obtain ⟨hl, hc⟩ := List.getElem?_eq_some_iff.1 h
  refine ⟨hl, ?_⟩
  rw [← hc]; rfl
theorem extract_of_list (S : ByteArray) (i n : Nat) (l : List UInt8) (h : (S.data.toList.drop i).take n = l) : S.extract i (i + n) = bsOf l := by
  apply ByteArray.ext
  rw [ByteArray.data_extract]
  apply Array.ext'
  rw [Array.toList_extract]
  simp only [bsOf]
  rw [← h, List.extract_eq_take_drop]
  simp
theorem isAll : IsAll Tab.allB := by
  refine ⟨Tab.allB_size, fun k j hk hj => ?_, fun k hk => ?_, fun k hk => ?_⟩
  · obtain ⟨-, -, -, h4, -⟩ := Tab.off_ok ⟨k, hk⟩
    simp only at h4
    have hl : (Tab.nmL (k + 1)).length = Tab.nmLen k := rfl
    have h0 : (Tab.nmL (k + 1))[j]? = some ((Tab.nmL (k + 1))[j]'(by omega)) := List.getElem?_eq_getElem _
    have h1 := Tab.nm_ok ⟨k, hk⟩ ((Tab.nmL (k + 1))[j]'(by omega)) (List.getElem_mem _)
    generalize ((Tab.nmL (k + 1))[j]'(by omega)) = c at *
    rw [← h4, List.getElem?_take_of_lt hj, List.getElem?_drop] at h0
    obtain ⟨h, e⟩ := get_of_list _ _ _ h0
    refine ⟨c.toNat, fun e' => h1.1 (UInt8.toNat_inj.1 e'), ?_, h, by rw [e]⟩
    exact UInt8.lt_iff_toNat_lt.1 h1.2
  · obtain ⟨-, -, -, -, h5⟩ := Tab.off_ok ⟨k, hk⟩
    simp only [List.head?_drop] at h5
    obtain ⟨h, e⟩ := get_of_list _ _ _ h5
    exact ⟨h, by rw [e]; rfl⟩
  · obtain ⟨-, -, -, h4, -⟩ := Tab.off_ok ⟨k, hk⟩
    exact extract_of_list _ _ _ _ h4

theorem next_at {P : Program} (w : World) (b : Nat) (S : ByteArray) (pos : Nat) (ty : TypeId) (c : Nat) (hk : w.heap[b]? = some (.stringIter S pos)) (ha : c < 128) (h : ∃ h : pos < S.size, (S[pos]'h).toNat = c) :
    (Instr.next (.pointer (some ⟨b, 0, none⟩)) true ty).run P w = .ok (.tuple #[.bool true, .int .i64 pos, .int .i32 (c : Nat)]) (w.iterAt b S (pos + 1)) := by
  obtain ⟨h1, h2⟩ := h
  rw [run_next_ascii_at w b S pos ty hk h1 (by rw [h2]; exact ha), h2]
theorem slice_lh {P : Program} (w : World) (t : TypeId) (s : ByteArray) (ht : P.underlying t = some .string) (l h : Int) (h0 : 0 ≤ l) (h1 : l ≤ h) (h2 : h ≤ s.size) :
    (Instr.slice t (.string s) (some (.int .i64 l)) (some (.int .i64 h)) none).run P w = .ok (.string (s.extract l.toNat h.toNat)) w := by
  have eh : (h.toNat : Int) = h := Int.toNat_of_nonneg (by omega)
  simp [Instr.slice, run_underlying ht, Instr.sliceBounds, run_sliceBound, *, (by omega : 0 ≤ h)]
theorem iterAt_put (w : World) (b : Nat) (S : ByteArray) (p : Nat) : w.iterAt b S p = w.putObj b (.stringIter S p) := rfl

attribute [local go_sem] Oper.semAt_some

set_option maxRecDepth 100000 in
set_option maxHeartbeats 2000000 in
theorem all1_stops (F : Fence) (n : Nat) (hF : F.fn 22) (hro : F.round = none) (hn : 1 ≤ n) (w : World) :
    SeqStopsK F n Try.prog 22 #[] opEnc KeepsWalks (fun xs => xs = told 98) (fun pre => ∃ m, m < 98 ∧ pre = told (m + 1)) 98 w := fun l J Jx W _ hJ hJx hY h0 => by
  refine callsIn_of_wp Try.func22 rfl hF ?_ hro
  rw [← Tab.allB_eq]
  have HS := Lib.hid isAll
  generalize Tab.allB = S at *
  simp only [Try.ntmps22, List.size_toArray, List.length_cons, List.length_nil, Nat.reduceAdd, Nat.reduceSub, Array.replicate_succ, Array.replicate_zero, List.push_toArray, List.append_toArray, List.nil_append, List.cons_append]
  have hu := Try.underlying9
  gi_wp2
  have hB0 : (W.iter S 0).heap[W.heap.size]? = some (.stringIter S 0) := World.iter_heap W S 0
  have hJ0 : J [] (W.iter S 0) := hJ [] W _ none h0 (World.grownBy_alloc W _ none) (fun r e => by cases e)
  have HB0 := Lib.hid hB0
  clear hB0
  gi_loopw [2, 3] (fun o s wr => ∃ k j : Nat, (k < 98 ∧ j ≤ Tab.nmLen k ∨ k = 98 ∧ j = 0) ∧ o = .int .i64 ((k : Int) + 1) ∧ s = .int .i64 (Tab.off k : Nat) ∧ wr.heap[W.heap.size]? = some (.stringIter S (Tab.off k + j)) ∧ J (told k) wr)
    (fun _ _ wr => 559 - wr.iterPos W.heap.size)
  case atStart =>
    exact ⟨0, 0, .inl ⟨by decide, by decide⟩, rfl, rfl, HB0.out, hJ0⟩
  case round =>
    obtain ⟨k, j, hkj, rfl, rfl, hb, hJk⟩ := hrel
    have hpos : wr.iterPos W.heap.size = Tab.off k + j := by simp [World.iterPos, hb]
    have HPOS := Lib.hid hpos
    have HBK := Lib.hid hb
    have hblt : W.heap.size < wr.heap.size := (Array.getElem?_eq_some_iff.1 hb).1
    clear hpos
    rcases hkj with ⟨hk, hj⟩ | ⟨rfl, rfl⟩
    · obtain ⟨ho, h1, h2, -, -⟩ := Tab.off_ok ⟨k, hk⟩
      simp only at ho h1 h2
      have HO := Lib.hid ho
      have hle : Tab.off k + Tab.nmLen k + 1 ≤ 559 := by omega
      clear ho h2
      by_cases hlt : j < Tab.nmLen k
      · obtain ⟨c, hc, hc2, hget⟩ := HS.out.next k j hk hlt
        have hnx := fun ty => next_at (P := Try.prog) wr W.heap.size S (Tab.off k + j) ty c hb hc2 hget
        have hne : (((c : Nat) : Int) != 32) = true := by simp; omega
        clear hget hb
        have hJ' : J (told k) (wr.iterAt W.heap.size S (Tab.off k + j + 1)) := hJ (told k) wr _ (some W.heap.size) hJk (grownBy_putObj' wr W.heap.size _) (fun r e => by cases e; exact ⟨Nat.le_refl _, _, HBK.out, rfl⟩)
        gi_wp2
        go_roundw
        case rel => exact ⟨k, j + 1, .inl ⟨hk, hlt⟩, rfl, rfl, by rw [iterAt_heap _ _ _ _ _ HBK.out]; rfl, hJ'⟩
        case measure => rw [HPOS.out]; simp only [World.iterPos, iterAt_heap _ _ _ _ _ HBK.out]; omega
      · obtain rfl : j = Tab.nmLen k := by omega
        have hget := HS.out.gap k hk
        have hnx := fun ty => next_at (P := Try.prog) wr W.heap.size S (Tab.off k + Tab.nmLen k) ty 32 hb (by decide) hget
        have hne : (((32 : Nat) : Int) != 32) = false := by decide
        have hex := HS.out.name k hk
        have hsz := HS.out.size
        have hJ' : J (told k) (wr.iterAt W.heap.size S (Tab.off k + Tab.nmLen k + 1)) := hJ (told k) wr _ (some W.heap.size) hJk (grownBy_putObj' wr W.heap.size _) (fun r e => by cases e; exact ⟨Nat.le_refl _, _, HBK.out, rfl⟩)
        have HH := Lib.hid (iterAt_heap wr W.heap.size S (Tab.off k + Tab.nmLen k) (Tab.off k + Tab.nmLen k + 1) HBK.out)
        obtain ⟨fn, tmps, assign, body, hy, hR⟩ := hY (told k) (k + 1) _ hJ' (by rw [told_len]; exact hk)
        dsimp only [opEnc, strV] at hy
        simp only [Int.natCast_add, Int.natCast_one] at hy
        have hsl : ∀ W0 : World, (Instr.slice 9 (.string S) (some (.int .i64 (Tab.off k : Nat))) (some (.int .i64 ((Tab.off k : Nat) + (Tab.nmLen k : Nat)))) none).run Try.prog W0 = .ok (.string (bsOf (Tab.nmL (k + 1)))) W0 := fun W0 => by
          rw [← hex, slice_lh W0 _ S hu _ _ (by omega) (by omega) (by rw [hsz]; omega)]
          have e1 : ((Tab.off k : Nat) : Int).toNat = Tab.off k := by omega
          have e2 : (((Tab.off k : Nat) : Int) + ((Tab.nmLen k : Nat) : Int)).toNat = Tab.off k + Tab.nmLen k := by omega
          rw [e1, e2]
        clear hget hb hlt hex hsz
        gi_wp2
        refine hR.mono ?_
        rintro e W3 (⟨rfl, hJ3, hk3⟩ | ⟨rfl, hJx3⟩)
        · have HK3 := Lib.hid (hk3.same _ _ HH.out rfl)
          rw [← told_succ] at hJ3
          gi_wp2
          go_roundw
          case rel =>
            have e : Tab.off k + Tab.nmLen k + 1 = Tab.off (k + 1) + 0 := HO.out
            refine ⟨k + 1, 0, ?_, by go_num, ?_, ?_, hJ3⟩
            · by_cases h : k + 1 < 98
              · exact .inl ⟨h, Nat.zero_le _⟩
              · exact .inr ⟨by omega, rfl⟩
            · have := HO.out; go_num
            · rw [HK3.out, e]
          case measure => rw [HPOS.out]; simp only [World.iterPos, HK3.out]; omega
        · gi_wp2
          refine bodyPost_ret (results_none rfl _ _ _) rfl ?_
          exact ⟨⟨_, rfl⟩, .inr ⟨_, ⟨k, hk, (told_succ k).symm⟩, hJx3⟩⟩
    · have hnx := fun ty => run_next_end_at (P := Try.prog) wr W.heap.size S (Tab.off 98 + 0) ty hb (by rw [HS.out.size, Tab.off_end.1]; decide)
      clear hb
      gi_wp2
      go_end0
      exact ⟨⟨_, rfl⟩, .inl ⟨_, rfl, hJk⟩⟩
end Go.Proofs.Ytmaooljlkpfkoaa
