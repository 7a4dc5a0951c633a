/-
  What package amo and the reference leave, as a plain function with its bounds. Contracts of slices.Sort at []int, of at most 12 numbers that the call owns: its sort by insertion is walked. Contracts of resv.Table: a table in memory; has, Set, Clear, Of, Has, Who, Kill.
-/
import Derived.Test.YtjeolfcefeglpabGreatXav
import Derived.Test.YtjeolfcefeglpabGreatXaj
import Derived.Test.YtjeolfcefeglpabGreatXad
import Derived.Lib.BitFns
import Derived.Lib.Strings
import Derived.Lib.Small
import Derived.BigQuiet
set_option maxRecDepth 20000
namespace Go.Proofs.YtjeolfcefeglpabGreat
open Go.ChangeShapes Go.WideShapes Go.ChangeAt Go.RowKit Wd

def amoV (op m x : Int) : Int := if isB op = true then (if op < 78 then amoG (op - 69).toNat (signS m 32) (signS x 32) % 4294967296 else amoG (op - 80).toNat m x) else 0
theorem amoV_w0 (m x : Int) : amoV 69 m x = amoG 0 (signS m 32) (signS x 32) % 4294967296 := by
  unfold amoV
  rw [if_pos (by decide +kernel), if_pos (by decide)]
  rfl
theorem amoV_d0 (m x : Int) : amoV 80 m x = amoG 0 m x := by
  unfold amoV
  rw [if_pos (by decide +kernel), if_neg (by decide)]
  rfl
theorem amoV_w1 (m x : Int) : amoV 70 m x = amoG 1 (signS m 32) (signS x 32) % 4294967296 := by
  unfold amoV
  rw [if_pos (by decide +kernel), if_pos (by decide)]
  rfl
theorem amoV_d1 (m x : Int) : amoV 81 m x = amoG 1 m x := by
  unfold amoV
  rw [if_pos (by decide +kernel), if_neg (by decide)]
  rfl
theorem amoV_w2 (m x : Int) : amoV 71 m x = amoG 2 (signS m 32) (signS x 32) % 4294967296 := by
  unfold amoV
  rw [if_pos (by decide +kernel), if_pos (by decide)]
  rfl
theorem amoV_d2 (m x : Int) : amoV 82 m x = amoG 2 m x := by
  unfold amoV
  rw [if_pos (by decide +kernel), if_neg (by decide)]
  rfl
theorem amoV_w3 (m x : Int) : amoV 72 m x = amoG 3 (signS m 32) (signS x 32) % 4294967296 := by
  unfold amoV
  rw [if_pos (by decide +kernel), if_pos (by decide)]
  rfl
theorem amoV_d3 (m x : Int) : amoV 83 m x = amoG 3 m x := by
  unfold amoV
  rw [if_pos (by decide +kernel), if_neg (by decide)]
  rfl
theorem amoV_w4 (m x : Int) : amoV 73 m x = amoG 4 (signS m 32) (signS x 32) % 4294967296 := by
  unfold amoV
  rw [if_pos (by decide +kernel), if_pos (by decide)]
  rfl
theorem amoV_d4 (m x : Int) : amoV 84 m x = amoG 4 m x := by
  unfold amoV
  rw [if_pos (by decide +kernel), if_neg (by decide)]
  rfl
theorem amoV_w5 (m x : Int) : amoV 74 m x = amoG 5 (signS m 32) (signS x 32) % 4294967296 := by
  unfold amoV
  rw [if_pos (by decide +kernel), if_pos (by decide)]
  rfl
theorem amoV_d5 (m x : Int) : amoV 85 m x = amoG 5 m x := by
  unfold amoV
  rw [if_pos (by decide +kernel), if_neg (by decide)]
  rfl
theorem amoV_w6 (m x : Int) : amoV 75 m x = amoG 6 (signS m 32) (signS x 32) % 4294967296 := by
  unfold amoV
  rw [if_pos (by decide +kernel), if_pos (by decide)]
  rfl
theorem amoV_d6 (m x : Int) : amoV 86 m x = amoG 6 m x := by
  unfold amoV
  rw [if_pos (by decide +kernel), if_neg (by decide)]
  rfl
theorem amoV_w7 (m x : Int) : amoV 76 m x = amoG 7 (signS m 32) (signS x 32) % 4294967296 := by
  unfold amoV
  rw [if_pos (by decide +kernel), if_pos (by decide)]
  rfl
theorem amoV_d7 (m x : Int) : amoV 87 m x = amoG 7 m x := by
  unfold amoV
  rw [if_pos (by decide +kernel), if_neg (by decide)]
  rfl
theorem amoV_w8 (m x : Int) : amoV 77 m x = amoG 8 (signS m 32) (signS x 32) % 4294967296 := by
  unfold amoV
  rw [if_pos (by decide +kernel), if_pos (by decide)]
  rfl
theorem amoV_d8 (m x : Int) : amoV 88 m x = amoG 8 m x := by
  unfold amoV
  rw [if_pos (by decide +kernel), if_neg (by decide)]
  rfl
theorem mod_word (y : Int) : WordB (y % 4294967296) := by unfold WordB; omega
theorem amo_fit (op m x : Int) (hm0 : 0 ≤ m) (hm : m < 18446744073709551616) (hx0 : 0 ≤ x) (hx : x < 18446744073709551616) : AmoIs op m x (amoV op m x) (isB op) ∧ AmoRef op m x (amoV op m x) (isB op) ∧ WordB (amoV op m x) := by
  by_cases h : isB op = true
  · have hk : kindN op = 1 := by rw [isB_one] at h; simpa using h
    rw [h]
    have hr : 67 ≤ op ∧ op ≤ 88 ∧ op ≠ 67 ∧ op ≠ 78 ∧ op ≠ 68 ∧ op ≠ 79 := by
      unfold kindN at hk
      split at hk
      · rename_i h7
        have := class_seven.1 h7
        split at hk
        · omega
        · split at hk
          · omega
          · omega
      · omega
    clear h hk
    have : op = 69 ∨ op = 70 ∨ op = 71 ∨ op = 72 ∨ op = 73 ∨ op = 74 ∨ op = 75 ∨ op = 76 ∨ op = 77 ∨ op = 80 ∨ op = 81 ∨ op = 82 ∨ op = 83 ∨ op = 84 ∨ op = 85 ∨ op = 86 ∨ op = 87 ∨ op = 88 := by omega
    rcases this with rfl | rfl | rfl | rfl | rfl | rfl | rfl | rfl | rfl | rfl | rfl | rfl | rfl | rfl | rfl | rfl | rfl | rfl
    · rw [amoV_w0]; exact ⟨fun w => amo_w0 m x w hm0 hm hx0 hx, fun w => refAmo_69 m x w hm0 hm hx0 hx, mod_word _⟩
    · rw [amoV_w1]; exact ⟨fun w => amo_w1 m x w hm0 hm hx0 hx, fun w => refAmo_70 m x w hm0 hm hx0 hx, mod_word _⟩
    · rw [amoV_w2]; exact ⟨fun w => amo_w2 m x w hm0 hm hx0 hx, fun w => refAmo_71 m x w hm0 hm hx0 hx, mod_word _⟩
    · rw [amoV_w3]; exact ⟨fun w => amo_w3 m x w hm0 hm hx0 hx, fun w => refAmo_72 m x w hm0 hm hx0 hx, mod_word _⟩
    · rw [amoV_w4]; exact ⟨fun w => amo_w4 m x w hm0 hm hx0 hx, fun w => refAmo_73 m x w hm0 hm hx0 hx, mod_word _⟩
    · rw [amoV_w5]; exact ⟨fun w => amo_w5 m x w hm0 hm hx0 hx, fun w => refAmo_74 m x w hm0 hm hx0 hx, mod_word _⟩
    · rw [amoV_w6]; exact ⟨fun w => amo_w6 m x w hm0 hm hx0 hx, fun w => refAmo_75 m x w hm0 hm hx0 hx, mod_word _⟩
    · rw [amoV_w7]; exact ⟨fun w => amo_w7 m x w hm0 hm hx0 hx, fun w => refAmo_76 m x w hm0 hm hx0 hx, mod_word _⟩
    · rw [amoV_w8]; exact ⟨fun w => amo_w8 m x w hm0 hm hx0 hx, fun w => refAmo_77 m x w hm0 hm hx0 hx, mod_word _⟩
    · rw [amoV_d0]; exact ⟨fun w => amo_d0 m x w hm0 hm hx0 hx, fun w => refAmo_80 m x w hm0 hm hx0 hx, amoG_word 0 ⟨hm0, hm⟩ ⟨hx0, hx⟩⟩
    · rw [amoV_d1]; exact ⟨fun w => amo_d1 m x w hm0 hm hx0 hx, fun w => refAmo_81 m x w hm0 hm hx0 hx, amoG_word 1 ⟨hm0, hm⟩ ⟨hx0, hx⟩⟩
    · rw [amoV_d2]; exact ⟨fun w => amo_d2 m x w hm0 hm hx0 hx, fun w => refAmo_82 m x w hm0 hm hx0 hx, amoG_word 2 ⟨hm0, hm⟩ ⟨hx0, hx⟩⟩
    · rw [amoV_d3]; exact ⟨fun w => amo_d3 m x w hm0 hm hx0 hx, fun w => refAmo_83 m x w hm0 hm hx0 hx, amoG_word 3 ⟨hm0, hm⟩ ⟨hx0, hx⟩⟩
    · rw [amoV_d4]; exact ⟨fun w => amo_d4 m x w hm0 hm hx0 hx, fun w => refAmo_84 m x w hm0 hm hx0 hx, amoG_word 4 ⟨hm0, hm⟩ ⟨hx0, hx⟩⟩
    · rw [amoV_d5]; exact ⟨fun w => amo_d5 m x w hm0 hm hx0 hx, fun w => refAmo_85 m x w hm0 hm hx0 hx, amoG_word 5 ⟨hm0, hm⟩ ⟨hx0, hx⟩⟩
    · rw [amoV_d6]; exact ⟨fun w => amo_d6 m x w hm0 hm hx0 hx, fun w => refAmo_86 m x w hm0 hm hx0 hx, amoG_word 6 ⟨hm0, hm⟩ ⟨hx0, hx⟩⟩
    · rw [amoV_d7]; exact ⟨fun w => amo_d7 m x w hm0 hm hx0 hx, fun w => refAmo_87 m x w hm0 hm hx0 hx, amoG_word 7 ⟨hm0, hm⟩ ⟨hx0, hx⟩⟩
    · rw [amoV_d8]; exact ⟨fun w => amo_d8 m x w hm0 hm hx0 hx, fun w => refAmo_88 m x w hm0 hm hx0 hx, amoG_word 8 ⟨hm0, hm⟩ ⟨hx0, hx⟩⟩
  · have h' : isB op = false := by simpa using h
    have hk : ¬ kindN op = 1 := by rw [isB_one] at h'; simpa using h'
    have e : amoV op m x = 0 := by unfold amoV; rw [if_neg h]
    rw [e, h']
    exact ⟨fun w => amo_no op m x w h', fun w => refAmo_no op m x _ w (refIs_c op) hk, by unfold WordB; omega⟩
end Go.Proofs.YtjeolfcefeglpabGreat
set_option maxRecDepth 20000
namespace Go.Proofs.YtjeolfcefeglpabGreat
open Go.ChangeShapes Go.WideShapes Go.ChangeAt Go.RowKit

abbrev iV (xs : List Int) : List Value := xs.map (Value.int .i64)
theorem iV_at (xs : List Int) (j : Nat) (hj : j < xs.length) : (iV xs)[j]? = some (.int .i64 (xs.getD j 0)) := by
  rw [List.getElem?_map, List.getD, List.getElem?_eq_getElem hj]
  rfl
/-- Numbers that the call owns. -/
structure Ints (w : World) (base g cap : Nat) (xs : List Int) : Prop where
  own : w.ownsRow base 3 1 (.slice (some ⟨g, 0, none⟩) xs.length cap) xs.length (iV xs)
theorem Ints.cell {w : World} {base g cap : Nat} {xs : List Int} (h : Ints w base g cap xs) (j : Nat) (hj : j < xs.length) : w.cell? ⟨g, j, none⟩ = some (.int .i64 (xs.getD j 0)) := by
  rw [h.own.cellAt j (by omega), iV_at xs j hj]
theorem Ints.frozen {w : World} {base g cap : Nat} {xs : List Int} (h : Ints w base g cap xs) (j : Nat) : w.frozen? ⟨g, j, none⟩ = false := h.own.frozenAt j
theorem Ints.base {w : World} {base g cap : Nat} {xs : List Int} (h : Ints w base g cap xs) : base ≤ g ∧ g < w.heap.size := h.own.lt g rfl
theorem Ints.set {w : World} {base g cap : Nat} {xs : List Int} (h : Ints w base g cap xs) (j : Nat) (x : Int) : Ints (w.setCell ⟨g, j, none⟩ (.int .i64 x)) base g cap (xs.set j x) := by
  have := (h.own.stored j (.int .i64 x)).1
  constructor
  rw [List.length_set, iV, List.map_set]
  exact this
theorem Ints.low {w w' : World} {base g cap : Nat} {xs : List Int} (h : Ints w base g cap xs) (hb : Below w.heap.size w w') : Ints w' base g cap xs := ⟨own_low h.own hb⟩
theorem Ints.drewN {w : World} {base g cap : Nat} {xs : List Int} (h : Ints w base g cap xs) (n : Nat) : Ints (w.drewN n) base g cap xs := h.low ⟨rfl, rfl, rfl, Nat.le_refl _, fun _ _ => rfl⟩
theorem Ints.drew {w : World} {base g cap : Nat} {xs : List Int} (h : Ints w base g cap xs) : Ints w.drew base g cap xs := h.drewN 1
theorem below_dnS {B : Nat} {a w : World} (h : Below B a w) (n : Nat) : Below B a (w.drewN n) := h.trans ⟨rfl, rfl, rfl, Nat.le_refl _, fun _ _ => rfl⟩

theorem nan_c (x : Int) (w : World) : Calls Tryz.prog 150 #[.int .i64 x] w fun e w' => e = .returned (.bool false) ∧ w' = w := by
  go_enter Tryz.func150, Tryz.ntmps150
  go_wp2_with fail
  go_ret
  exact ⟨by simp, rfl⟩
theorem cless_c (x y : Int) (w : World) : Calls Tryz.prog 105 #[.int .i64 x, .int .i64 y] w fun e w' => e = .returned (.bool (decide (x < y))) ∧ w' = w := by
  go_enter Tryz.func105, Tryz.ntmps105
  go_wp2_with fail
  refine (nan_c _ _).mono ?_
  rintro e w' ⟨rfl, rfl⟩
  go_wp2_with fail
  go_ret
  exact ⟨rfl, rfl⟩
set_option maxRecDepth 100000 in
theorem slen64_c (x : Int) (w : World) (h0 : 0 ≤ x) (h1 : x ≤ 12) : Calls Tryz.prog 109 #[.int .u64 x] w fun e w' => (∃ k, e = .returned (.int .i64 k)) ∧ w' = w := by
  have hu := Tryz.underlying9
  have l1 := Lib.bitLen_le8' x h0 (by omega)
  have l2 := Lib.len8_of x h0 (by omega)
  have l3 : 0 ≤ Lib.len8 x := by rw [l2]; omega
  have l4 : Lib.len8 x ≤ 8 := by rw [l2]; omega
  clear l1 l2
  go_enter Tryz.func109, Tryz.ntmps109
  go_wp2_with fail
  go_ret
  exact ⟨⟨_, rfl⟩, rfl⟩
theorem slen_c (x : Int) (w : World) (h0 : 0 ≤ x) (h1 : x ≤ 12) : Calls Tryz.prog 58 #[.int .u64 x] w fun e w' => (∃ k, e = .returned (.int .i64 k)) ∧ w' = w := by
  go_enter Tryz.func58, Tryz.ntmps58
  go_wp2_with fail
  refine (slen64_c _ _ h0 h1).mono ?_
  rintro e w' ⟨⟨k, rfl⟩, rfl⟩
  go_wp2_with fail
  go_ret
  exact ⟨⟨_, rfl⟩, rfl⟩
end Go.Proofs.YtjeolfcefeglpabGreat
set_option maxRecDepth 20000
namespace Go.Proofs.YtjeolfcefeglpabGreat
open Go.ChangeShapes Go.WideShapes Go.ChangeAt Go.RowKit

/-- Between two worlds only n cells of block b have changed, from o on; others may have been made. -/
structure Mid (b o n : Nat) (w w' : World) : Prop where
  os : w'.os = w.os
  tape : w'.tape = w.tape
  output : w'.output = w.output
  size : w.heap.size ≤ w'.heap.size
  block : ∀ k, k < w.heap.size → k ≠ b → w'.heap[k]? = w.heap[k]?
  cell : ∀ j, j < o ∨ o + n ≤ j → w'.cell? ⟨b, j, none⟩ = w.cell? ⟨b, j, none⟩
  froz : ∀ j, w'.frozen? ⟨b, j, none⟩ = w.frozen? ⟨b, j, none⟩
theorem Mid.refl (b o n : Nat) (w : World) : Mid b o n w w := ⟨rfl, rfl, rfl, Nat.le_refl _, fun _ _ _ => rfl, fun _ _ => rfl, fun _ => rfl⟩
theorem Mid.trans {b o n : Nat} {u v w : World} (h : Mid b o n u v) (k : Mid b o n v w) : Mid b o n u w :=
  ⟨k.os.trans h.os, k.tape.trans h.tape, k.output.trans h.output, Nat.le_trans h.size k.size, fun j hj hne => (k.block j (Nat.lt_of_lt_of_le hj h.size) hne).trans (h.block j hj hne), fun j hj => (k.cell j hj).trans (h.cell j hj), fun j => (k.froz j).trans (h.froz j)⟩
theorem Mid.of_below {b o n : Nat} {w w' : World} (h : Below w.heap.size w w') (hb : b < w.heap.size) : Mid b o n w w' :=
  ⟨h.os, h.tape, h.output, h.size, fun k hk _ => h.block k hk, fun j _ => h.cell (p := ⟨b, j, none⟩) hb, fun j => World.frozen?_of_block (w := w) (a := ⟨b, j, none⟩) (h.block b hb)⟩
theorem Mid.below {b o n B : Nat} {w w' : World} (h : Mid b o n w w') (hb : B ≤ b) (hB : B ≤ w.heap.size) : Below B w w' :=
  ⟨h.os, h.tape, h.output, h.size, fun k hk => h.block k (by omega) (by omega)⟩
theorem Mid.set {b o n : Nat} {w : World} (i : Nat) (h0 : o ≤ i) (h1 : i < o + n) (v : Value) : Mid b o n w (w.setCell ⟨b, i, none⟩ v) :=
  ⟨rfl, rfl, rfl, by simp, fun k _ hk => heap_setCell_other w ⟨b, i, none⟩ k v hk, fun j hj => World.cell?_setCell_other _ _ _ _ (fun e => by cases e; omega), fun j => World.frozen?_setCell _ _ _ _⟩
theorem Mid.cells {b o n : Nat} {w : World} : ∀ (vs : List Value) (i : Nat), o ≤ i → i + vs.length ≤ o + n → Mid b o n w (w.setCells b i vs)
  | [], _, _, _ => Mid.refl _ _ _ _
  | v :: vs, i, h0, h1 => (Mid.set i h0 (by simp at h1; omega) v).trans (Mid.cells vs (i + 1) (by omega) (by simp at h1; omega))
/-- A table of reservations, in the cells of block b from o on. -/
structure TbAt (w : World) (b o : Nat) (T : Rv.Tb) : Prop where
  ok : Rv.Ok T
  c0 : ∀ h, h < 8 → w.cell? ⟨b, o + h * 2, none⟩ = some (.int .u64 (Rv.ln T h))
  c1 : ∀ h, h < 8 → w.cell? ⟨b, o + h * 2 + 1, none⟩ = some (.bool (Rv.is T h))
  fr : ∀ j, w.frozen? ⟨b, j, none⟩ = false
section
variable {w w' : World} {b o : Nat} {T : Rv.Tb}
theorem TbAt.lt (h : TbAt w b o T) : b < w.heap.size := World.block_lt_of_cell? w _ (h.c0 0 (by omega))
theorem TbAt.on (h : TbAt w b o T) (hb : w'.heap[b]? = w.heap[b]?) : TbAt w' b o T :=
  ⟨h.ok, fun i hi => (World.cell?_of_block (w := w) (a := ⟨b, o + i * 2, none⟩) hb).trans (h.c0 i hi), fun i hi => (World.cell?_of_block (w := w) (a := ⟨b, o + i * 2 + 1, none⟩) hb).trans (h.c1 i hi), fun j => (World.frozen?_of_block (w := w) (a := ⟨b, j, none⟩) hb).trans (h.fr j)⟩
theorem TbAt.low (h : TbAt w b o T) (hb : Below w.heap.size w w') : TbAt w' b o T := h.on (hb.block b h.lt)
theorem TbAt.cellU (h : TbAt w b o T) {i : Nat} (hi : i < 8) {l : Int} (ht : T i = some l) : w.cell? ⟨b, o + i * 2, none⟩ = some (.int .u64 l) ∧ w.cell? ⟨b, o + i * 2 + 1, none⟩ = some (.bool true) := by
  have a := h.c0 i hi
  have c := h.c1 i hi
  simp only [Rv.ln, Rv.is, ht] at a c
  exact ⟨a, c⟩
/-- A slot is laid. -/
theorem TbAt.lay (h : TbAt w b o T) {i : Nat} (hi : i < 8) (v : Option Int) (hv : ∀ l, v = some l → 0 ≤ l ∧ l ≤ 18446744073709551615) :
    TbAt (w.setCells b (o + i * 2) [.int .u64 (v.getD 0), .bool v.isSome]) b o (Rv.upd T i v) := by
  have hl : ∀ j, j < [Value.int .u64 (v.getD 0), .bool v.isSome].length → (w.cell? ⟨b, o + i * 2 + j, none⟩).isSome = true := fun j hj => by
    have : j = 0 ∨ j = 1 := by simp at hj; omega
    rcases this with rfl | rfl
    · rw [Nat.add_zero, h.c0 i hi]; rfl
    · rw [h.c1 i hi]; rfl
  have hin := World.cell?_setCells_in b [Value.int .u64 (v.getD 0), .bool v.isSome] (o + i * 2) w hl
  refine ⟨Rv.upd_ok h.ok hi hv, fun k hk => ?_, fun k hk => ?_, fun j => by rw [World.frozen?_setCells]; exact h.fr j⟩
  · by_cases e : k = i
    · subst e
      have := hin 0 (by simp)
      simpa [Rv.ln, Rv.upd] using this
    · rw [World.cell?_setCells_out _ _ _ _ _ (fun _ _ => by simp; omega), h.c0 k hk]
      simp [Rv.ln, Rv.upd, e]
  · by_cases e : k = i
    · subst e
      have := hin 1 (by simp)
      simpa [Rv.is, Rv.upd] using this
    · rw [World.cell?_setCells_out _ _ _ _ _ (fun _ _ => by simp; omega), h.c1 k hk]
      simp [Rv.is, Rv.upd, e]
theorem TbAt.there (h : TbAt w b o T) {i : Nat} (hi : i < 8) : w.there b (o + i * 2) 2 := fun j hj => by
  have : j = 0 ∨ j = 1 := by omega
  rcases this with rfl | rfl
  · exact ⟨by rw [Nat.add_zero, h.c0 i hi]; rfl, h.fr _⟩
  · exact ⟨by rw [h.c1 i hi]; rfl, h.fr _⟩
end
theorem info_slot : (Tryz.prog.info? 89).map (·.size) = some 2 := by kernel_rfl

theorem thas_c (b o : Nat) (h : Int) (w : World) : Calls Tryz.prog 74 #[.pointer (some ⟨b, o, none⟩), .int .i64 h] w fun e w' => e = .returned (.bool (Rv.inH h)) ∧ w' = w := by
  go_enter Tryz.func74, Tryz.ntmps74
  by_cases h0 : 0 ≤ h
  · have g0 : decide (h ≥ 0) = true := by simpa using h0
    by_cases h1 : h < 8
    · have g1 : decide (h < 8) = true := by simpa using h1
      go_wp2_with fail
      go_ret
      exact ⟨by simp [Rv.inH, h0, h1], rfl⟩
    · have g1 : decide (h < 8) = false := by simpa using h1
      go_wp2_with fail
      go_ret
      exact ⟨by simp [Rv.inH, h0, h1], rfl⟩
  · have g0 : decide (h ≥ 0) = false := by simpa using h0
    go_wp2_with fail
    go_ret
    exact ⟨by unfold Rv.inH; rw [show decide (0 ≤ h) = false from g0]; rfl, rfl⟩
theorem rhas_nil (h : Int) (w : World) : Calls Tryz.prog 74 #[.pointer none, .int .i64 h] w fun e w' => e = .returned (.bool false) ∧ w' = w := by
  go_enter Tryz.func74, Tryz.ntmps74
  go_wp2_with fail
  go_ret
  exact ⟨rfl, rfl⟩
set_option maxHeartbeats 1000000 in
theorem rset_c (b o : Nat) (T : Rv.Tb) (h l : Int) (w : World) (hT : TbAt w b o T) (h0 : 0 ≤ l) (h1 : l ≤ 18446744073709551615) :
    Calls Tryz.prog 40 #[.pointer (some ⟨b, o, none⟩), .int .i64 h, .int .u64 l] w fun e w' => e = .returned (.bool (Rv.inH h)) ∧ TbAt w' b o (Rv.set T h l) ∧ Mid b o 16 w w' := by
  have HT := Lib.hid hT
  clear hT
  go_enter Tryz.func40, Tryz.ntmps40
  go_wp2_with fail
  refine (thas_c b o h w).mono ?_
  rintro e w' ⟨rfl, rfl⟩
  cases hi : Rv.inH h
  · have HE := Lib.hid (show Rv.set T h l = T by unfold Rv.set; rw [hi]; rfl)
    go_wp2_with fail
    go_ret
    exact ⟨by rw [hi]; rfl, by rw [HE.out]; exact HT.out, Mid.refl _ _ _ _⟩
  · obtain ⟨k, hk, rfl⟩ : ∃ k : Nat, k < 8 ∧ h = k := by have := Rv.inH_iff.1 hi; exact ⟨h.toNat, by omega, by omega⟩
    have HE := Lib.hid (show Rv.set T (k : Int) l = Rv.upd T k (some l) by unfold Rv.set; rw [hi]; rfl)
    have HL := Lib.hid (HT.out.lay hk (some l) (fun x hx => by cases hx; exact ⟨h0, h1⟩))
    have HM := Lib.hid (Mid.cells (b := b) (o := o) (n := 16) (w := w') [.int .u64 l, .bool true] (o + k * 2) (by omega) (by simp; omega))
    have HTH := Lib.hid (HT.out.there hk)
    have g : (k : Int) < 8 := by omega
    go_wp2_with (refine wpList_store_mid rfl 89 _ _ rfl b (o + k * 2) _ rfl rfl (by exact HTH.out) info_slot (by simp [Value.oneCell']) ?_)
    go_ret
    exact ⟨by rw [hi]; rfl, by rw [HE.out]; exact HL.out, HM.out⟩
theorem TbAt.range {w : World} {b o : Nat} {T : Rv.Tb} (h : TbAt w b o T) {i : Nat} (hi : i < 8) : w.rangeAt b (o + i * 2) [.int .u64 (Rv.ln T i), .bool (Rv.is T i)] := fun j v hv => by
  have hj : j < 2 := (List.getElem?_eq_some_iff.1 hv).1
  have : j = 0 ∨ j = 1 := by omega
  rcases this with rfl | rfl
  · cases hv; exact h.c0 i hi
  · cases hv; exact h.c1 i hi
/-- The load of a whole out of a block's midst, where the guard says yes. -/
theorem wpList_load_midR {P : Program} {ops : Array Oper} {rest : List Oper} {op : Oper} {a : Act} {w : World} {Q : Exit → Act → World → Prop} (hw : Region.wanted op (yielded ops a.tmps) = true) (ty : TypeId) (x : Operand) (ho : op.op = .load ty x)
    (b o : Nat) (hx : a.eval x = .pointer (some ⟨b, o, none⟩)) (cs : List Value) (d : TypeDesc) (hc : w.rangeAt b o cs)
    (hu : P.underlying ty = some d) (hd : d.isRow = true) (hi : (P.info? ty).map (·.size) = some cs.length)
    (h : wpList P ops Q rest (a.put op.dst (.agg cs.toArray)) w) : wpList P ops Q (op :: rest) a w :=
  wpList_step fun _ hK => by
    rw [if_pos hw]
    exact wp_load_mid ty x ho b o hx cs d hc hu hd hi (hK _ _ h)
theorem run_equalIn_two {P : Program} (w : World) (d : Nat) (t u v : TypeId) (k : IntKind) (f g : Field) (hf : (P.fieldsOf t).toList = [f, g]) (ht : P.underlying t = some (.struct (P.fieldsOf t))) (hp : P.stoodInHeld t = false)
    (n1 : (f.name != "_") = true) (n2 : (g.name != "_") = true) (o1 : f.offset = 0) (o2 : g.offset = 1) (t1 : f.type = u) (t2 : g.type = v) (hu : P.underlying u = some (.int k)) (hv : P.underlying v = some .bool) (x y : Int) (p q : Bool) :
    (Op.equalIn (d + 2) t (.agg #[.int k x, .bool p]) (.agg #[.int k y, .bool q])).run P w = .ok (x == y && p == q) w := by
  have n1' : f.name ≠ "_" := by simpa using n1
  have n2' : g.name ≠ "_" := by simpa using n2
  have p1 : ∀ (x : Int) (p : Bool), (part u #[.int k x, .bool p] 0).run P w = .ok (.int k x) w := fun x p => by simp [part, isAgg, run_underlying hu]
  have p2 : ∀ (x : Int) (p : Bool), (part v #[.int k x, .bool p] 1).run P w = .ok (.bool p) w := fun x p => by simp [part, isAgg, run_underlying hv]
  have q1 : (Op.equalIn (d + 1) u (.int k x) (.int k y)).run P w = .ok (x == y) w := run_equalIn_int w d u k k x y hu
  have q2 : (Op.equalIn (d + 1) v (.bool p) (.bool q)).run P w = .ok (p == q) w := run_equalIn_bool' w d v p q hv
  rw [run_equalIn_agg w (d + 1) t _ _ ht hp, hf]
  simp only [Op.eqFields, if_pos n1', if_pos n2', Sem.run_bind, o1, o2, t1, t2, p1, Result.andThen_ok, q1]
  cases (x == y) <;> cases hb : (p == q) <;> simp [p2, q2, hb]
set_option maxRecDepth 100000 in
theorem run_eqs {d : Nat} (x y : Int) (p q : Bool) (w : World) : (Op.equalIn (d + 2) 89 (.agg #[.int .u64 x, .bool p]) (.agg #[.int .u64 y, .bool q])).run Tryz.prog w = .ok (x == y && p == q) w :=
  run_equalIn_two w d 89 38 4 .u64 _ _ rfl (by kernel_rfl) (by kernel_rfl) (by decide +kernel) (by decide +kernel) rfl rfl rfl rfl Tryz.underlying38 Tryz.underlying4 x y p q
theorem run_eql_slot (x y : Int) (p q : Bool) (w : World) : (binOp .eql 89 (.agg #[.int .u64 x, .bool p]) (.agg #[.int .u64 y, .bool q])).run Tryz.prog w = .ok (.bool (x == y && p == q)) w := by
  rw [run_eql_struct, run_eqs]
  rfl
namespace Rv
def has (T : Tb) (h l : Int) : Bool := decide (at_ T h = some l)
theorem at_in {T : Tb} {k : Nat} (hk : k < 8) : at_ T (k : Int) = T k := by unfold at_; rw [inH_nat hk]; rfl
theorem at_out {T : Tb} {h : Int} (hh : inH h = false) : at_ T h = none := by unfold at_; rw [hh]; rfl
theorem eq_slot {T : Tb} {k : Nat} {l : Int} : (ln T k == l && is T k == true) = decide (T k = some l) := by
  unfold ln is
  cases T k with
  | none => simp
  | some v => simp [Bool.beq_eq_decide_eq]
theorem clr_no {T : Tb} {h : Int} (hh : at_ T h = none) : clr T h = T := by
  unfold clr
  split
  · rename_i hi
    unfold at_ at hh
    rw [if_pos hi] at hh
    exact upd_self hh
  · rfl
theorem clr_in {T : Tb} {k : Nat} (hk : k < 8) : clr T (k : Int) = upd T k none := by unfold clr; rw [inH_nat hk]; rfl
end Rv
theorem cut_in {h : Int} (hi : Rv.inH h = true) : ∃ k : Nat, k < 8 ∧ h = k := by have := Rv.inH_iff.1 hi; exact ⟨h.toNat, by omega, by omega⟩
set_option maxHeartbeats 1000000 in
theorem rhasl_c (b o : Nat) (T : Rv.Tb) (h l : Int) (w : World) (hT : TbAt w b o T) :
    Calls Tryz.prog 41 #[.pointer (some ⟨b, o, none⟩), .int .i64 h, .int .u64 l] w fun e w' => e = .returned (.bool (Rv.has T h l)) ∧ w' = w := by
  have HT := Lib.hid hT
  clear hT
  go_enter Tryz.func41, Tryz.ntmps41
  go_wp2_with fail
  refine (thas_c b o h w).mono ?_
  rintro e w' ⟨rfl, rfl⟩
  cases hi : Rv.inH h
  · go_wp2_with fail
    go_ret
    exact ⟨by unfold Rv.has; rw [Rv.at_out hi]; rfl, rfl⟩
  · obtain ⟨k, hk, rfl⟩ := cut_in hi
    have HR := Lib.hid (HT.out.range hk)
    have HE := Lib.hid (show Rv.has T (k : Int) l = (Rv.ln T k == l && Rv.is T k == true) by unfold Rv.has; rw [Rv.at_in hk, Rv.eq_slot])
    generalize Rv.ln T k = x at *
    generalize Rv.is T k = y at *
    have g : (k : Int) < 8 := by omega
    go_wp2_with (first | (refine wpList_load_midR rfl 89 _ rfl b (o + k * 2) rfl _ _ HR.out Tryz.underlying89 rfl info_slot ?_) | (refine wpList_cmpW rfl .eql 89 _ _ _ rfl _ _ rfl rfl (by kernel_rfl) _ (run_eql_slot x l y true _) ?_))
    go_ret
    exact ⟨by rw [HE.out]; cases y <;> rfl, rfl⟩
theorem rhasl_nil (h l : Int) (w : World) : Calls Tryz.prog 41 #[.pointer none, .int .i64 h, .int .u64 l] w fun e w' => e = .returned (.bool false) ∧ w' = w := by
  go_enter Tryz.func41, Tryz.ntmps41
  go_wp2_with fail
  refine (rhas_nil h w).mono ?_
  rintro e w' ⟨rfl, rfl⟩
  go_wp2_with fail
  go_ret
  exact ⟨rfl, rfl⟩
set_option maxRecDepth 100000 in
set_option maxHeartbeats 1000000 in
theorem rof_c (b o : Nat) (T : Rv.Tb) (h : Int) (w : World) (hT : TbAt w b o T) :
    Calls Tryz.prog 75 #[.pointer (some ⟨b, o, none⟩), .int .i64 h] w fun e w' => e = .returned (.tuple #[.int .u64 ((Rv.at_ T h).getD 0), .bool (Rv.at_ T h).isSome]) ∧ Below w.heap.size w w' := by
  have HT := Lib.hid hT
  clear hT
  go_enter Tryz.func75, Tryz.ntmps75
  go_wp2_with fail
  refine (thas_c b o h w).mono ?_
  rintro e w' ⟨rfl, rfl⟩
  cases hi : Rv.inH h
  · go_wp2_with fail
    go_ret2
    exact ⟨by rw [Rv.at_out hi]; rfl, Below.refl _ _⟩
  · obtain ⟨k, hk, rfl⟩ := cut_in hi
    have HR := Lib.hid (HT.out.range hk)
    have HE := Lib.hid (show (Rv.at_ T (k : Int)).getD 0 = Rv.ln T k ∧ (Rv.at_ T (k : Int)).isSome = Rv.is T k by rw [Rv.at_in hk]; exact ⟨rfl, rfl⟩)
    generalize Rv.ln T k = x at *
    generalize Rv.is T k = y at *
    have g : (k : Int) < 8 := by omega
    go_upto_region 4 with (first | (refine wpList_load_mid rfl 89 _ rfl b (o + k * 2) rfl _ _ HR.out Tryz.underlying89 rfl info_slot ?_) | (refine wpList_storeNew (w0 := w') rfl 89 _ _ rfl _ #[.int .u64 x, .bool y] _ rfl rfl info_slot rfl rfl ?_))
    have HB := Lib.hid ((Below.refl w'.heap.size w').alloc (Nat.le_refl _) (.cells #[.int .u64 x, .bool y] 89))
    have c0 := (CsAt.new w' 89 #[.int .u64 x, .bool y]).cell 0
    have c1 := (CsAt.new w' 89 #[.int .u64 x, .bool y]).cell 1
    generalize w'.alloc (.cells #[.int .u64 x, .bool y] 89) = w1 at *
    go_quiet (fail)
    have HB2 := Lib.hid (below_dnS HB.out nq)
    go_wp2_with fail
    go_ret2
    exact ⟨by rw [HE.out.1, HE.out.2]; rfl, HB2.out⟩
theorem rof_nil (h : Int) (w : World) : Calls Tryz.prog 75 #[.pointer none, .int .i64 h] w fun e w' => e = .returned (.tuple #[.int .u64 0, .bool false]) ∧ w' = w := by
  go_enter Tryz.func75, Tryz.ntmps75
  go_wp2_with fail
  refine (rhas_nil h w).mono ?_
  rintro e w' ⟨rfl, rfl⟩
  go_wp2_with fail
  go_ret2
  exact ⟨rfl, rfl⟩
set_option maxHeartbeats 1000000 in
theorem rclr_c (b o : Nat) (T : Rv.Tb) (h : Int) (w : World) (hT : TbAt w b o T) :
    Calls Tryz.prog 42 #[.pointer (some ⟨b, o, none⟩), .int .i64 h] w fun e w' => e = .returned (.bool (Rv.at_ T h).isSome) ∧ TbAt w' b o (Rv.clr T h) ∧ Mid b o 16 w w' := by
  have HT := Lib.hid hT
  have HC := Lib.hid (rof_c b o T h w hT)
  clear hT
  go_enter Tryz.func42, Tryz.ntmps42
  go_wp2_with fail
  refine HC.out.mono ?_
  rintro e w1 ⟨rfl, hb⟩
  have HM := Lib.hid (Mid.of_below (b := b) (o := o) (n := 16) hb HT.out.lt)
  have HT1 := Lib.hid (HT.out.low hb)
  clear hb HC
  cases hi : Rv.at_ T h with
  | none =>
    have HE := Lib.hid (Rv.clr_no hi)
    simp only [Option.getD_none, Option.isSome_none]
    go_wp2_with fail
    go_ret
    exact ⟨by rw [hi]; rfl, by rw [HE.out]; exact HT1.out, HM.out⟩
  | some l =>
    have hin : Rv.inH h = true := by
      cases hh : Rv.inH h
      · rw [Rv.at_out hh] at hi; cases hi
      · rfl
    obtain ⟨k, hk, rfl⟩ := cut_in hin
    simp only [Option.getD_some, Option.isSome_some]
    have HE := Lib.hid (Rv.clr_in (T := T) hk)
    have HL := Lib.hid (HT1.out.lay hk none (fun x hx => by cases hx))
    have HM2 := Lib.hid (HM.out.trans (Mid.cells (b := b) (o := o) (n := 16) (w := w1) [.int .u64 0, .bool false] (o + k * 2) (by omega) (by simp; omega)))
    have HTH := Lib.hid (HT1.out.there hk)
    have g : (k : Int) < 8 := by omega
    go_wp2_with (refine wpList_store_mid rfl 89 _ _ rfl b (o + k * 2) _ rfl rfl (by exact HTH.out) info_slot (by simp [Value.oneCell']) ?_)
    go_ret
    exact ⟨by rw [hi]; rfl, by rw [HE.out]; exact HL.out, HM2.out⟩
theorem rclr_nil (h : Int) (w : World) : Calls Tryz.prog 42 #[.pointer none, .int .i64 h] w fun e w' => e = .returned (.bool false) ∧ w' = w := by
  go_enter Tryz.func42, Tryz.ntmps42
  go_wp2_with fail
  refine (rof_nil h w).mono ?_
  rintro e w' ⟨rfl, rfl⟩
  go_wp2_with fail
  go_ret
  exact ⟨rfl, rfl⟩
theorem rset_nil (h l : Int) (w : World) : Calls Tryz.prog 40 #[.pointer none, .int .i64 h, .int .u64 l] w fun e w' => e = .returned (.bool false) ∧ w' = w := by
  go_enter Tryz.func40, Tryz.ntmps40
  go_wp2_with fail
  refine (rhas_nil h w).mono ?_
  rintro e w' ⟨rfl, rfl⟩
  go_wp2_with fail
  go_ret
  exact ⟨rfl, rfl⟩
end Go.Proofs.YtjeolfcefeglpabGreat
