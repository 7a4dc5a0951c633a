/-
  Contracts of package line (layer 9): Of, Lanes, Blend, Diff, Words.
-/
import Derived.Test.YtdlollkieihjpaaLnB
import Derived.Test.YtdlollkieihjpaaRefA
import Derived.Laws.CopyOwn
import Derived.Deep.DeepCutAuto
import Derived.Deep.QuietTactic
import Derived.BigQuiet
namespace Go.Proofs.Ytdlollkieihjpaa
open Go.ChangeShapes Go.WideShapes Go.ChangeAt Go.RowKit Wd

/-- A slice of bytes that reads as a list. -/
structure SlAt (w : World) (p : Option Addr) (bs : List Int) : Prop where
  rng : ∀ x ∈ bs, 0 ≤ x ∧ x ≤ 255
  at_ : bs = [] ∨ ∃ b off, p = some ⟨b, off, none⟩ ∧ b < w.heap.size ∧ ∀ j, j < bs.length → w.cell? ⟨b, off + j, none⟩ = some (.int .u8 (bs.getD j 0))
theorem SlAt.low {w w' : World} {p : Option Addr} {bs : List Int} (h : SlAt w p bs) (hb : Below w.heap.size w w') : SlAt w' p bs :=
  ⟨h.rng, h.at_.imp id fun ⟨b, off, hp, hlt, hc⟩ => ⟨b, off, hp, Nat.lt_of_lt_of_le hlt hb.size, fun j hj => (hb.cell (p := ⟨b, off + j, none⟩) hlt).trans (hc j hj)⟩⟩
theorem below_dnL {B : Nat} {a w : World} (h : Below B a w) (n : Nat) : Below B a (w.drewN n) := h.trans ⟨rfl, rfl, rfl, Nat.le_refl _, fun _ _ => rfl⟩
/-- The cells of the bytes that are copied. -/
def cpL (bs : List Int) : List Value := (bs.take 64).map (Value.int .u8)
theorem cpL_len' (bs : List Int) : (cpL bs).length = min bs.length 64 := by simp [cpL]; omega
theorem cpL_len (bs : List Int) : (cpL bs).length = Nat.min bs.length 64 := cpL_len' bs
theorem cpL_at (bs : List Int) (j : Nat) (v : Value) (h : (cpL bs)[j]? = some v) : j < bs.length ∧ v = .int .u8 (bs.getD j 0) := by
  have hl : j < (cpL bs).length := (List.getElem?_eq_some_iff.1 h).1
  rw [cpL_len'] at hl
  have h1 : j < bs.length := by omega
  have h2 : j < 64 := by omega
  refine ⟨h1, ?_⟩
  simp only [cpL, List.getElem?_map, List.getElem?_take, if_pos h2, List.getElem?_eq_getElem h1, Option.map_some, Option.some.injEq] at h
  rw [← h, List.getD, List.getElem?_eq_getElem h1]
  rfl
theorem cpL_one (bs : List Int) : ∀ v ∈ cpL bs, v.oneCell' = true := by
  intro v hv
  simp only [cpL, List.mem_map] at hv
  obtain ⟨a, -, rfl⟩ := hv
  rfl
theorem cpL_splice (bs : List Int) : (splice ((List.replicate 64 (0 : Int)).map (Value.int .u8)) 0 (cpL bs)).toArray = aV .u8 (Ln.ofB bs) := by
  have hd : ((List.replicate 64 (0 : Int)).map (Value.int .u8)).drop (0 + (cpL bs).length) = (List.replicate (64 - bs.length) (0 : Int)).map (Value.int .u8) := by
    rw [← List.map_drop, List.drop_replicate, cpL_len']
    congr 2
    omega
  rw [splice, hd, List.take_zero, List.nil_append]
  simp [aV, Ln.ofB, cpL]
theorem zeros_cells : (aV .u8 (List.replicate 64 0)) = ((List.replicate 64 (0 : Int)).map (Value.int .u8)).toArray := rfl
theorem cpL_own (bs : List Int) : ((aV .u8 (List.replicate 64 0)).toList.take 0 ++ (cpL bs ++ (aV .u8 (List.replicate 64 0)).toList.drop (0 + (cpL bs).length))).toArray = aV .u8 (Ln.ofB bs) := cpL_splice bs
/-- Bytes are copied into a line of noughts. -/
theorem wpList_copy_line {P : Program} {w : World} {ops : Array Oper} {rest : List Oper} {o : Oper} {a : Act} {Q : Exit → Act → World → Prop} (hgd : o.guard = none) (d s : Operand) (dT sT : TypeId)
    (ho : o.op = .call { callee := .builtin .copy, args := #[d, s], argTypes := #[dT, sT] }) (elem : TypeId) (hu : P.underlying dT = some (.slice elem)) (hsz : (P.info? elem).map (·.size) = some 1)
    (g sCap : Nat) (p : Option Addr) (bs : List Int) (hd : a.eval d = .slice (some ⟨g, 0, none⟩) 64 64) (hs : a.eval s = .slice p bs.length sCap)
    (t : TypeId) (hg : RowAt .u8 w g t (List.replicate 64 0)) (hb : SlAt w p bs)
    (h : wpList P ops Q rest (a.put o.dst (goInt (cpL bs).length)) (w.setRow g (aV .u8 (Ln.ofB bs)))) : wpList P ops Q (o :: rest) a w := by
  rcases hb.at_ with rfl | ⟨b, off, rfl, -, hc⟩
  · refine wpList_copy_nothing hgd d s dT sT ho elem hu hsz _ _ 64 64 _ sCap hd hs (by rfl) ?_
    have e : w.setRow g (aV .u8 (Ln.ofB [])) = w := hg.self
    rw [e] at h
    exact h
  · refine wpList_copy_own hgd d s dT sT ho elem hu hsz g 0 64 64 _ _ sCap hd hs _ t hg (cpL bs) (cpL_len bs) (fun j v hv => ?_) (by rw [cpL_len', aV_size]; simp; omega) (cpL_one bs) ?_
    · obtain ⟨hj, rfl⟩ := cpL_at bs j v hv
      have := hc j hj
      rcases Nat.eq_zero_or_pos j with rfl | hj0
      · simpa [Addr.add] using this
      · have h0 : ¬ j = 0 := by omega
        simpa [Addr.add, h0] using this
    · rw [cpL_own]; exact h
set_option maxHeartbeats 1000000 in
theorem ofL_c (p : Option Addr) (cap : Nat) (bs : List Int) (w : World) (h : SlAt w p bs) :
    Calls Try.prog 29 #[.slice p bs.length cap] w fun e w' => e = .returned (.agg (aV .u8 (Ln.ofB bs))) ∧ Below w.heap.size w w' := by
  have HL := Lib.hid (Ln.ofB_is h.rng).1
  have hB := ((Below.refl w.heap.size w).alloc (Nat.le_refl _) (.cells (aV .u8 (List.replicate 64 0)) 49)).alloc (by simp) (.cells (aV .u8 (List.replicate 64 0)) 49)
  have HS := Lib.hid (h.low hB)
  have HB := Lib.hid hB
  have HR := Lib.hid ((RowAt.new .u8 w 49 (List.replicate 64 0)).alloc (.cells (aV .u8 (List.replicate 64 0)) 49))
  have HZ := Lib.hid (show RowAt .u8 ((w.alloc (.cells (aV .u8 (List.replicate 64 0)) 49)).alloc (.cells (aV .u8 (List.replicate 64 0)) 49)) (w.heap.size + 1) 49 (List.replicate 64 0) by
    simpa using RowAt.new .u8 (w.alloc (.cells (aV .u8 (List.replicate 64 0)) 49)) 49 (List.replicate 64 0))
  clear h hB
  go_enter Try.func29, Try.ntmps29
  go_upto_region 2 with (fail)
  rw [← zeros64]
  generalize (w.alloc (.cells (aV .u8 (List.replicate 64 0)) 49)).alloc (.cells (aV .u8 (List.replicate 64 0)) 49) = w1 at *
  go_upto_region 3 with (refine wpList_copy_line rfl _ _ 24 24 rfl 5 Try.underlying24 (by kernel_rfl) (w.heap.size + 1) _ _ bs rfl rfl 49 HZ.out HS.out ?_)
  have HZ' := Lib.hid (HZ.out.row (Ln.ofB bs))
  have HR' := Lib.hid (HR.out.rowFar (c := w.heap.size + 1) (by omega) (aV .u8 (Ln.ofB bs)))
  have HB' := Lib.hid (below_setRow HB.out (g := w.heap.size + 1) (by omega) (aV .u8 (Ln.ofB bs)))
  generalize w1.setRow (w.heap.size + 1) (aV .u8 (Ln.ofB bs)) = w2 at *
  clear HZ HR HB HS
  go_wp2_with (first | (refine wpList_load_row rfl 49 _ rfl (w.heap.size + 1) rfl 49 _ (0, 0) _ HZ'.out Try.underlying49 rfl (iL HL.out) ?_) | (refine wpList_store_row rfl 49 _ _ rfl w.heap.size _ rfl rfl 49 _ HR'.out (iL HL.out) (zeros_size HL.out) (aV_one _ _) ?_))
  exact bodyPost_ret (results_cell_row Try.results29 _ _ _ _ _ _ _ rfl (HR'.out.row _) Try.underlying49 rfl (iL HL.out)) rfl ⟨rfl, below_setRow HB'.out (by omega) _⟩

theorem cut_one (x : Int) (k : Nat) (hk : k < 64) : cutS x (k : Int) 1 = bi (tb x k) := by
  unfold cutS
  symm
  have hb := bi_range (tb x k)
  refine eq_word hb.1 (by omega) fun i hi => ?_
  rcases Nat.eq_zero_or_pos i with rfl | h
  · have e : (((k : Int) + ((0 : Nat) : Int)).toNat) = k := by omega
    have g : (((0 : Nat) : Int) < 1 ∧ 0 ≤ (k : Int) + ((0 : Nat) : Int)) := by omega
    rw [e, decide_eq_true g, Bool.true_and]
    cases tb x k <;> decide
  · have g : ¬ (((i : Nat) : Int) < 1 ∧ 0 ≤ (k : Int) + ((i : Nat) : Int)) := by omega
    rw [decide_eq_false g, Bool.false_and]
    show (bi (tb x k)).toNat.testBit i = false
    apply Nat.testBit_lt_two_pow
    have h2 : 2 ^ 1 ≤ 2 ^ i := Nat.pow_le_pow_right (by decide) h
    omega
theorem cut_yes (x : Int) (k : Nat) (hk : k < 64) : (cutS x (k : Int) 1 == 1) = tb x k := by
  rw [cut_one x k hk]
  cases tb x k <;> rfl
theorem sum_ones (f : Nat → Bool) (k : Nat) (hk : k < 64) : bits .or .u64 ((sumTo f k : Nat) : Int) (onesS (k : Int) 1) = ((2 ^ k + sumTo f k : Nat) : Int) := by
  have hs := sumTo_lt f k
  have h2 : 2 ^ k ≤ 2 ^ 63 := Nat.pow_le_pow_right (by decide) (by omega)
  have h3 : 2 ^ (k + 1) ≤ 2 ^ 64 := Nat.pow_le_pow_right (by decide) (by omega)
  have r := onesS_range (k : Int) 1
  have hor := or_range (x := ((sumTo f k : Nat) : Int)) (y := onesS (k : Int) 1) (by omega) (by omega) r.1 r.2
  refine Wd.ext hor.1 hor.2 (by omega) (by rw [Nat.pow_succ] at h3; omega) fun i hi => ?_
  rw [tb_or (by omega) (by omega) r.1 r.2]
  unfold onesS
  rw [tb_word]
  have hb : tb ((2 ^ k + sumTo f k : Nat) : Int) i = (decide (i = k) || tb ((sumTo f k : Nat) : Int) i) := by
    unfold tb
    rw [Int.toNat_natCast, Int.toNat_natCast]
    have e := Nat.testBit_two_pow_mul_add 1 hs i
    rw [Nat.mul_one] at e
    rw [e]
    by_cases c : i < k
    · have : ¬ i = k := by omega
      simp [c, this]
    · have c2 : (sumTo f k).testBit i = false := by
        apply Nat.testBit_lt_two_pow
        have : 2 ^ k ≤ 2 ^ i := Nat.pow_le_pow_right (by decide) (by omega)
        omega
      rw [if_neg c, c2]
      by_cases c3 : i = k
      · subst c3; simp
      · obtain ⟨d, hd⟩ : ∃ d, i - k = d + 1 := ⟨i - k - 1, by omega⟩
        rw [hd]
        simp [c3, Nat.testBit_succ]
  rw [hb, Bool.or_comm]
  congr 1
  rw [decide_eq_true hi, Bool.true_and]
  unfold inP
  exact decide_eq_decide.2 (by omega)
end Go.Proofs.Ytdlollkieihjpaa
