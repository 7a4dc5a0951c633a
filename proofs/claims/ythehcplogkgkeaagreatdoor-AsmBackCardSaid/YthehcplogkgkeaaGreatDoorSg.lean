/-
  A slice of words that came in, opened; what the listed variables of AsmWords and AsmBack give (layer 6).
-/
import Derived.Test.YthehcplogkgkeaaGreatDoorSd
import Derived.Deep.Slices
set_option maxRecDepth 4000
namespace Go.Proofs.YthehcplogkgkeaaGreatDoor
open Go.ChangeShapes Go.WideShapes Go.ChangeAt Go.RowKit Wd

theorem add_plainW (b off j : Nat) : (⟨b, off, none⟩ : Addr).add j = ⟨b, off + j, none⟩ := by unfold Addr.add; split <;> simp_all
/-- What came in as words. -/
def IsW (w : World) (ao : Option Addr) (n : Nat) (l : List Nat) : Prop := l.length = n ∧ n ≤ 9223372036854775807 ∧ WordsAt w ao l ∧ ∀ X ∈ l, X < 4294967296
theorem open_words {H : Type} {enc : TypeId × Value → H} {w : World} {r : Reach} {b0 base : Nat} {spare : Nat → Bool} {held : Bool} {v : Value} {d : DataW H} {ps : List MemPlace}
    (hval : Value.okWide Tryz.prog w r b0 35 v) (hd : DataW.Trod enc Tryz.prog w base spare held 35 v d ps) : ∃ ao n cap l, v = .slice ao n cap ∧ IsW w ao n l := by
  obtain ⟨ao, n, cap, rfl⟩ := okWide_slice Tryz.underlying35 hval
  obtain ⟨fuel, hf⟩ := hd
  rcases open_ints Tryz.underlying35 Tryz.underlying42 (by kernel_rfl) hf with ⟨hcs, _⟩ | ⟨a, len, cap', zs, hcs, hb, hl, hm, hz, -, hc, hw⟩
  · simp [Value.cells] at hcs
    obtain ⟨rfl, rfl, rfl⟩ := hcs
    exact ⟨_, _, _, [], rfl, rfl, by omega, fun j hj => absurd hj (by simp), fun X hX => absurd hX (by simp)⟩
  · simp [Value.cells] at hcs
    obtain ⟨rfl, rfl, rfl⟩ := hcs
    have hzn : n ≤ zs.length := by rw [hz]; split <;> omega
    have hbd : ∀ x ∈ zs, 0 ≤ x ∧ x ≤ 4294967295 := fun x hx => bounds_u32 (hw x hx)
    refine ⟨_, _, _, (zs.take n).map Int.toNat, rfl, by simp; omega, by unfold maxLen at hm; omega, fun j hj => ?_, fun X hX => ?_⟩
    · have hj' : j < n := by simp at hj; omega
      have hjz : j < zs.length := by omega
      have h1 := hc j hjz
      have hsp : a.spot = none := by
        have := World.cell?_spot (hc 0 (by omega))
        simpa [Addr.add] using this
      obtain ⟨b, off, sp⟩ := a
      simp only at hsp
      subst hsp
      refine ⟨b, off, rfl, ?_⟩
      rw [add_plainW] at h1
      rw [h1]
      have h2 := hbd zs[j] (List.getElem_mem _)
      simp [List.getD, hj', hjz]
      omega
    · simp only [List.mem_map] at hX
      obtain ⟨x, hx, rfl⟩ := hX
      have h2 := hbd x (List.mem_of_mem_take hx)
      omega
abbrev laidB : List (String × DataW Unit) := [("math/bits.deBruijn32tab", Rows.laid_math_bits_deBruijn32tab), ("math/bits.deBruijn64tab", Rows.laid_math_bits_deBruijn64tab), ("internal/strconv.uint64pow10", Rows.laid_internal_strconv_uint64pow10), ("roebuck/insn.fields", Rows.laid_roebuck_insn_fields), ("roebuck/insn.values", Rows.laid_roebuck_insn_values), ("unicode/utf8.acceptRanges", Rows.laid_unicode_utf8_acceptRanges), ("strconv.ErrRange", Rows.laid_strconv_ErrRange), ("strconv.ErrSyntax", Rows.laid_strconv_ErrSyntax), ("roebuck/regs.names", Rows.laid_roebuck_regs_names), ("roebuck/asm.orders", Rows.laid_roebuck_asm_orders), ("unicode/utf8.first", Rows.laid_unicode_utf8_first)]
theorem gValues6 : Tryz.prog.globalNamed "roebuck/insn.values" = some 1 := by kernel_rfl
theorem tValues6 : (Tryz.prog.globals[1]?).map (·.type) = some 126 := by kernel_rfl
theorem vals6 {H : Type} : (Rows.laid_roebuck_insn_values : DataW H) = .agg ((List.range 99).map fun k => .lit (.int .u32 ((valN k : Nat) : Int))) := by kernel_rfl
theorem values_of {W : World} {rest : List (String × DataW Unit)} (h : laidMet Tryz.prog (("roebuck/insn.values", Rows.laid_roebuck_insn_values) :: rest) W) : ∀ k, k < 99 → W.cell? ⟨1, k, none⟩ = some (.int .u32 (valN k : Nat)) := by
  obtain ⟨ps, ⟨g0, t0, cs, f0, p0, q0, hg0, ht0, hv0, hd0, _, _⟩, _, _⟩ := h
  obtain rfl := Option.some.inj (gValues6.symm.trans hg0)
  obtain rfl := Option.some.inj (tValues6.symm.trans ht0)
  rw [vals6] at hd0
  exact fun j hj => cells6 hg0 hv0 Tryz.underlying126 Tryz.underlying42 (by kernel_rfl) hd0 j hj
theorem of_laidB {W : World} (h : laidMetH Tryz.prog laidB W) (hs : W.ShapedOpen Tryz.prog) : MemW W := by
  rw [MakeChecks.laidMetH_plain _ _ _ (by kernel_rfl)] at h
  have h2 := h.tail.tail
  have h3 := h2.tail
  have h4 := h3.tail
  have h6 := h4.tail.tail
  have h7 := h6.tail
  have h8 := h7.tail
  have h9 := h8.tail
  obtain ⟨p, hp⟩ := syn_of h7
  obtain ⟨q, hq⟩ := rng_of h6
  have hf := fields_of h3
  exact ⟨⟨⟨names_of h8, hf, orders_of h9, pow_of h2⟩, ⟨⟨_, p, _, q, hp, hq⟩, pow_of h2⟩, max_of hs⟩, ⟨values_of h4, hf.flds, hf.size⟩⟩
theorem doorB_met (os : Os) (args : Array Value) : laidMetH Tryz.prog laidB (((World.doorLaid Tryz.prog 400 os).setRow 10 firstC).forCall (fun _ _ => 0) ⟨#[], args, []⟩).memory :=
  laidMetH_of_parts3 (fuel := 8) (laidMet_of_run' 8 (by kernel_rfl) (by kernel_rfl)) (by kernel_rfl) (by kernel_rfl)
end Go.Proofs.YthehcplogkgkeaaGreatDoor
