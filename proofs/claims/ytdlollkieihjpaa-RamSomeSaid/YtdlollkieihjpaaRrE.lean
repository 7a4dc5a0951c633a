/-
  The reference of layer 10: contracts of New, Copy.
-/
import Derived.Test.YtdlollkieihjpaaRrD
import Derived.Test.YtdlollkieihjpaaRmH
import Derived.Test.YtdlollkieihjpaaOpenL
namespace Go.Proofs.Ytdlollkieihjpaa
open Go.ChangeShapes Go.WideShapes Go.ChangeAt Go.RowKit Wd

theorem info_u8 : (Try.prog.info? 5).map (fun i => (i.zero, i.size, i.bytes)) = some (some (.int .u8 0), 1, 1) := by kernel_rfl
theorem parts_u8 : ∃ i, Try.prog.info? 5 = some i ∧ i.zero = some (.int .u8 0) ∧ i.size = 1 ∧ i.bytes = 1 := by
  obtain ⟨i, hi, hz⟩ := Option.map_eq_some_iff.1 info_u8
  simp only [Prod.mk.injEq] at hz
  exact ⟨i, hi, hz.1, hz.2.1, hz.2.2⟩
theorem nought_cells (n : Nat) : (madeCells (Value.int .u8 0).cells (64 * n * 1)).toList = (Rm.nought n).map (Value.int .u8) := by
  refine List.ext_getElem (by simp [madeCells, Rm.nought]) fun k h1 h2 => ?_
  simp [madeCells, Value.cells, Rm.nought, Nat.mod_one]
set_option maxHeartbeats 1000000 in
theorem rnew_c (n : Nat) (h1 : 1 ≤ n) (h2 : n ≤ 4096) (w : World) :
    Calls Try.prog 9 #[.int .i64 (n : Int)] w fun e w' => ∃ g cap, e = .returned (mV g n cap) ∧ w.heap.size ≤ g ∧ RefAt w' g 5 n (Rm.nought n) ∧ Below w.heap.size w w' := by
  obtain ⟨i0, hi, hz0, hz1, hz2⟩ := parts_u8
  have hB := (Below.refl w.heap.size w).alloc (Nat.le_refl _) (.cells #[.slice none 0 0] 34)
  have HC := Lib.hid (CsAt.new w 34 #[.slice none 0 0])
  have HB := Lib.hid hB
  clear hB
  have hw1 : IntKind.i64.wrap (64 * (n : Int)) = 64 * (n : Int) := by rw [IntKind.wrap_i64]; omega
  go_enter Try.func9, Try.ntmps9
  go_upto_region 1 with (fail)
  generalize w.alloc (.cells #[.slice none 0 0] 34) = w1 at *
  have hs1 := HB.out.size
  go_wp2_with (refine wpList_make_full _ rfl _ _ 24 rfl w.heap.size 5 i0 (.int .u8 0) 1 Try.underlying24 hi hz0 hz1 .i64 .i64 (64 * (n : Int)) (64 * (n : Int)) (64 * n) rfl rfl (by omega) (by omega) (by rw [hz2]; omega) (by unfold maxLen; omega) (by omega) ?_; intro w3 hown hgrow; have HO3 := Lib.hid hown; have HG3 := Lib.hid hgrow; have HC3 := Lib.hid (show CsAt w3 w.heap.size 34 #[.slice none 0 0] from (hgrow.block _ HC.out.lt (by simp)).trans HC.out); have c3 := HC3.out.cell 0; have f3 := HC3.out.frozen 0; clear hown hgrow)
  obtain ⟨g, cap, hv, hg, hR⟩ := RefAt.of_own HO3.out (nought_cells n) (Rm.nought_ok n) h1 h2
  have hlt := HC.out.lt
  obtain ⟨rfl, rfl⟩ : g = w1.heap.size ∧ cap = 64 * n := by simpa [eq_comm] using hv
  refine bodyPost_ret (results_cell_row Try.results9 _ _ _ _ _ _ _ rfl (CsAt.setc HC3.out 0 _) Try.underlying34 rfl (by kernel_rfl)) rfl ⟨_, _, rfl, hg, ?_, ?_⟩
  · exact hR.only ((Only.refl w.heap.size w3).setCell 0 _) (by omega)
  · exact (below_grown HB.out HG3.out hs1 (fun r h => by cases h)).setCell (by simp) _
set_option maxHeartbeats 1000000 in
theorem rcopy_c {w : World} {gb n : Nat} (cap : Nat) {t : TypeId} {B : List Int} (h : RefAt w gb t n B) (h1 : 1 ≤ n) :
    Calls Try.prog 13 #[mV gb n cap] w fun e w' => ∃ g cap', e = .returned (mV g n cap') ∧ w.heap.size ≤ g ∧ RefAt w' g 5 n B ∧ Below w.heap.size w w' := by
  obtain ⟨i0, hi, hz0, hz1, hz2⟩ := parts_u8
  have hB := ((Below.refl w.heap.size w).alloc (Nat.le_refl _) (.cells #[.slice (some ⟨gb, 0, none⟩) (64 * n) cap] 34)).alloc (by simp) (.cells #[.slice none 0 0] 34)
  have HH := Lib.hid (h.low hB)
  have HC := Lib.hid ((CsAt.new w 34 #[.slice (some ⟨gb, 0, none⟩) (64 * n) cap]).alloc (.cells #[.slice none 0 0] 34))
  have HR := Lib.hid (show CsAt ((w.alloc (.cells #[.slice (some ⟨gb, 0, none⟩) (64 * n) cap] 34)).alloc (.cells #[.slice none 0 0] 34)) (w.heap.size + 1) 34 #[.slice none 0 0] by
    simpa using CsAt.new (w.alloc (.cells #[.slice (some ⟨gb, 0, none⟩) (64 * n) cap] 34)) 34 #[.slice none 0 0])
  have HB := Lib.hid hB
  have hn := h.n1
  have hlt := h.lt
  clear h hB
  unfold mV
  go_enter Try.func13, Try.ntmps13
  go_upto_region 1 with (fail)
  generalize ((w.alloc (.cells #[.slice (some ⟨gb, 0, none⟩) (64 * n) cap] 34)).alloc (.cells #[.slice none 0 0] 34)) = w1 at *
  have hs1 := HR.out.lt
  have c0 := (HC.out.alloc (.cells #[] 5)).cell 0
  have HE := Lib.hid (show (w1.alloc (.cells #[] 5)).ownsRow w.heap.size 5 1 (.slice (some ⟨w1.heap.size, 0, none⟩) 0 0) 0 [] from
    ⟨rfl, .inr ⟨w1.heap.size, 0, #[], rfl, by omega, CsAt.new w1 5 #[], Nat.le_refl _, Nat.zero_le _, rfl, rfl⟩⟩)
  have HH2 := Lib.hid (HH.out.low ((Below.refl w1.heap.size w1).alloc (Nat.le_refl _) (.cells #[] 5)))
  have HB2 := Lib.hid (HB.out.alloc (by omega) (.cells #[] 5))
  have HR2 := Lib.hid (HR.out.alloc (.cells #[] 5))
  have hs2 : (w1.alloc (.cells #[] 5)).heap.size = w1.heap.size + 1 := by simp
  have HNW := Lib.hid (show ∀ (j : Nat) (u : Value), (B.map (Value.int .u8))[j]? = some u → (w1.alloc (.cells #[] 5)).cell? ((⟨gb, 0, none⟩ : Addr).add j) = some u by
    intro j u hj
    have hjl : j < B.length := by
      have := (List.getElem?_eq_some_iff.1 hj).1
      rwa [List.length_map] at this
    rw [add_plainL, Nat.zero_add, HH2.out.cell j (by rw [← HH2.out.ok.len]; exact hjl), ← hj, List.getElem?_map, List.getD, List.getElem?_eq_getElem hjl]
    rfl)
  have HS2 := Lib.hid hs2
  clear hs2
  go_wp2_with (at_builtin; refine wpList_append_own _ rfl _ _ 24 rfl w.heap.size 5 i0 (.int .u8 0) 1 1 Try.underlying24 hi hz0 hz1 hz2 rfl (by decide) _ _ _ rfl HE.out ⟨gb, 0, none⟩ (64 * n) cap (B.map (Value.int .u8)) rfl ?_ HNW.out ?_ ?_ ?_ ?_ ?_)
  · rw [List.length_map, HH2.out.ok.len, Nat.mul_one]
  · intro u hu; obtain ⟨x, -, rfl⟩ := List.mem_map.1 hu; rfl
  · unfold maxLen; omega
  · omega
  · rw [HS2.out]; omega
  intro v' w3 hown hgrow hnil
  obtain ⟨g, cap', rfl, hg, hR⟩ := RefAt.of_own (n := n) (by simpa only [Nat.zero_add, List.nil_append] using hown) rfl HH2.out.ok h1 hn
  have HR3 := Lib.hid hR
  have HG3 := Lib.hid hgrow
  have HC3 := Lib.hid (show CsAt w3 (w.heap.size + 1) 34 #[.slice none 0 0] from (hgrow.block _ HR2.out.lt (by simp [Value.ownBlock]; omega)).trans HR2.out)
  have c3 := HC3.out.cell 0
  have f3 := HC3.out.frozen 0
  have hne : g ≠ w.heap.size + 1 := by
    rintro rfl
    obtain ⟨Z, hZ⟩ := hR.row
    exact absurd (hZ.symm.trans HC3.out) (by simp)
  have HG4 := Lib.hid (below_grown HB2.out HG3.out (by rw [HS2.out]; omega) (fun r h => by simp [Value.ownBlock] at h; omega))
  clear hown hgrow hnil hR
  go_wp2_with fail
  refine bodyPost_ret (results_cell_row Try.results13 _ _ _ _ _ _ _ rfl (CsAt.setc HC3.out 0 _) Try.underlying34 rfl (by kernel_rfl)) rfl ⟨_, _, rfl, hg, ?_, ?_⟩
  · exact HR3.out.only ((Only.refl (w.heap.size + 1) w3).setCell 0 _) hne
  · exact HG4.out.setCell (by simp) _
end Go.Proofs.Ytdlollkieihjpaa
