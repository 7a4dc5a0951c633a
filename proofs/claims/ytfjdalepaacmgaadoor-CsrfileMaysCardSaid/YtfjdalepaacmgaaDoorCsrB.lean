/-
  The table csr.rows in memory; contracts of csr.find, of the functions that are handed to it, of numbered, Known, Name, Find, Mask, Least, ReadOnly, privilege, May.
-/
import Derived.Test.YtfjdalepaacmgaaDoorRow
import Derived.Test.YtfjdalepaacmgaaDoorBits
import Derived.Test.YtfjdalepaacmgaaDoorCsrA
import Derived.ProofKit
import Derived.WalkLawsBesides
import Derived.Shelf.Abstract
import Derived.Deep.DeepCutAuto
set_option maxRecDepth 20000
namespace Go.Proofs.YtfjdalepaacmgaaDoor
open Go.ChangeShapes Go.WideShapes Go.ChangeAt Go.RowKit Wd Csr

def cB (l : List UInt8) : ByteArray := ⟨l.toArray⟩
abbrev CrT : TypeId := 145
/-- The program's table in memory. -/
def RowsIn (w : World) : Prop := 3 < w.heap.size ∧ ∀ k, k < 34 → w.cell? ⟨3, k * 3, none⟩ = some (.int .i64 ((rowC k).1 : Nat)) ∧ w.cell? ⟨3, k * 3 + 1, none⟩ = some (.string (cB (rowC k).2.1)) ∧ w.cell? ⟨3, k * 3 + 2, none⟩ = some (.int .u64 ((rowC k).2.2 : Nat))
theorem RowsIn.low {w w' : World} (h : RowsIn w) (hb : Below w.heap.size w w') : RowsIn w' :=
  ⟨Nat.le_trans h.1 hb.size, fun k hk => by
    obtain ⟨a, b, c⟩ := h.2 k hk
    exact ⟨(hb.cell (p := ⟨3, k * 3, none⟩) h.1).trans a, (hb.cell (p := ⟨3, k * 3 + 1, none⟩) h.1).trans b, (hb.cell (p := ⟨3, k * 3 + 2, none⟩) h.1).trans c⟩⟩
def rAgg (r : RowC) : Value := .agg #[.int .i64 (r.1 : Nat), .string (cB r.2.1), .int .u64 (r.2.2 : Nat)]
def rVal (r : Option RowC) : Value := .tuple #[rAgg (r.getD noRow), .bool r.isSome]
set_option maxHeartbeats 1000000 in
theorem num1_c (r : RowC) (n : Int) (pb : Nat) (w : World) (hc : w.cell? ⟨pb, 0, none⟩ = some (.int .i64 n)) :
    Calls Tryd.prog 110 #[rAgg r, .pointer (some ⟨pb, 0, none⟩)] w fun e w' => e = .returned (.bool (isNum n r)) ∧ Below w.heap.size w w' := by
  obtain ⟨a, l, m⟩ := r
  have hlt : pb < w.heap.size := by
    apply Classical.byContradiction
    intro hn
    have : w.heap[pb]? = none := Array.getElem?_eq_none (by omega)
    simp [World.cell?, this] at hc
  unfold rAgg isNum
  dsimp only
  generalize ((a : Nat) : Int) = a'
  generalize ((m : Nat) : Int) = m'
  generalize cB l = s
  have hB : Below w.heap.size w (w.alloc (.cells #[.int .i64 a', .string s, .int .u64 m'] CrT)) := (Below.refl _ _).alloc (Nat.le_refl _) _
  have hc2 := (hB.cell (p := ⟨pb, 0, none⟩) hlt).trans hc
  have HB := Lib.hid hB
  clear hc hB
  go_enter Tryd.func110, Tryd.ntmps110
  go_wp2_with fail
  go_ret
  exact ⟨rfl, HB.out⟩
abbrev zRow : Array Value := #[.int .i64 0, .string ⟨#[]⟩, .int .u64 0]
theorem rAgg_no : rAgg noRow = .agg zRow := rfl
set_option maxHeartbeats 2000000 in
theorem cfind_c (F : FuncId) (cs : Array Value) (p : RowC → Bool) (w : World) (hN : RowsIn w)
    (hT : ∀ k W, k < 34 → Below w.heap.size w W → Calls Tryd.prog F (#[rAgg (rowC k)] ++ cs) W fun e W' => e = .returned (.bool (p (rowC k))) ∧ Below W.heap.size W W') (hE : Go.Proofs.Enters Tryd.prog F) :
    Calls Tryd.prog 109 #[.func (.func F) #[] cs] w fun e w' => e = .returned (rVal (fstC p)) ∧ Below w.heap.size w w' := by
  have HT := Lib.hid hT
  have HN := Lib.hid hN
  clear hT hN
  go_enter Tryd.func109, Tryd.ntmps109
  go_wp2_with fail
  have h0 := CsAt.new w CrT zRow
  have hB0 : Below w.heap.size w (w.alloc (.cells zRow CrT)) := (Below.refl _ _).alloc (Nat.le_refl _) _
  generalize (w.alloc (.cells zRow CrT)) = w1 at *
  have HB1 := Lib.hid hB0
  have H0 := Lib.hid h0
  clear h0 hB0
  go_loopw [4, 5] (fun _ iv wr => ∃ k : Nat, k ≤ 34 ∧ iv = .int .i64 k ∧ (∀ j, j < k → p (rowC j) = false) ∧ Below w1.heap.size w1 wr) (fun _ iv _ => 34 - (intOf iv).toNat)
  case atStart => exact ⟨0, Nat.zero_le _, rfl, fun i h => by omega, Below.refl _ _⟩
  case round =>
    obtain ⟨k, hk, rfl, hn, hb⟩ := hrel
    have HN' := Lib.hid hn
    have HB := Lib.hid hb
    have HR := Lib.hid (H0.out.low hb)
    have hW := (HB1.out.trans (hb.mono HB1.out.size))
    have HW := Lib.hid hW
    clear hn hb hW
    by_cases hlt : k < 34
    · obtain ⟨c0, c1, c2⟩ := (HN.out.low HW.out).2 k hlt
      have hl2 : (k : Int) < 34 := by omega
      cases hp : p (rowC k)
      · have HC := Lib.hid (HT.out k wr hlt HW.out)
        have HP := Lib.hid hp
        rw [hp] at HC
        clear hp
        unfold rAgg at HC
        generalize (((rowC k).1 : Nat) : Int) = a at *
        generalize (((rowC k).2.2 : Nat) : Int) = m at *
        generalize cB (rowC k).2.1 = s at *
        go_wp2_with fail
        rw [hE]
        refine HC.out.mono ?_
        rintro e w2 ⟨rfl, hb2⟩
        have HB2 := Lib.hid (HB.out.trans (hb2.mono HB.out.size))
        clear hb2
        go_wp2_with fail
        go_roundw
        case rel => exact ⟨k + 1, by omega, by go_num, fun i hi => if e : i = k then e ▸ HP.out else HN'.out i (by omega), HB2.out⟩
        case measure => simp [intOf]; omega
      · have HC := Lib.hid (HT.out k wr hlt HW.out)
        have HP := Lib.hid (fst_hit hlt HN'.out hp)
        rw [hp] at HC
        clear hp
        have HA := Lib.hid (show rAgg (rowC k) = .agg #[.int .i64 ((rowC k).1 : Nat), .string (cB (rowC k).2.1), .int .u64 ((rowC k).2.2 : Nat)] from rfl)
        rw [HA.out] at HC
        have HX := Lib.hid (fun W (hb : Below wr.heap.size wr W) => (HN.out.low (HW.out.trans (hb.mono HW.out.size))).2 k hlt)
        generalize (((rowC k).1 : Nat) : Int) = a at *
        generalize (((rowC k).2.2 : Nat) : Int) = m at *
        generalize cB (rowC k).2.1 = s at *
        go_wp2_with fail
        rw [hE]
        refine HC.out.mono ?_
        rintro e w2 ⟨rfl, hb2⟩
        have hR2 := HR.out.low hb2
        obtain ⟨d0, d1, d2⟩ := HX.out w2 hb2
        have HB2 := Lib.hid (HW.out.trans (hb2.mono HW.out.size))
        have z0 := hR2.cell 0
        have z1 := hR2.cell 1
        have z2 := hR2.cell 2
        have y0 := hR2.frozen 0
        have y1 := hR2.frozen 1
        have y2 := hR2.frozen 2
        clear hb2 c0 c1 c2 hR2
        simp only [List.getElem?_toArray, List.getElem?_cons_zero, List.getElem?_cons_succ] at z0 z1 z2
        go_wp2_with fail
        refine bodyPost_ret (v := .tuple #[.agg #[.int .i64 a, .string s, .int .u64 m], .bool true]) (by simp [results, Tryd.results109, go_sem, z0, z1, z2]) rfl ⟨by rw [HP.out]; unfold rVal; rw [show (some (rowC k)).getD noRow = rowC k from rfl, HA.out]; rfl, ?_⟩
        exact ((HB2.out.setCell (by exact Nat.le_refl _) _).setCell (by exact Nat.le_refl _) _).setCell (by exact Nat.le_refl _) _
    · obtain rfl : k = 34 := by omega
      have HP := Lib.hid (fst_none HN'.out)
      have hR2 := HR.out
      have z0 := hR2.cell 0
      have z1 := hR2.cell 1
      have z2 := hR2.cell 2
      have y0 := hR2.frozen 0
      have y1 := hR2.frozen 1
      have y2 := hR2.frozen 2
      clear hR2
      simp only [List.getElem?_toArray, List.getElem?_cons_zero, List.getElem?_cons_succ] at z0 z1 z2
      go_wp2_with fail
      refine bodyPost_ret (v := .tuple #[.agg zRow, .bool false]) (by simp [results, Tryd.results109, go_sem, z0, z1, z2]) rfl ⟨by rw [HP.out]; rfl, ?_⟩
      exact ((HW.out.setCell (by exact Nat.le_refl _) _).setCell (by exact Nat.le_refl _) _).setCell (by exact Nat.le_refl _) _
end Go.Proofs.YtfjdalepaacmgaaDoor
