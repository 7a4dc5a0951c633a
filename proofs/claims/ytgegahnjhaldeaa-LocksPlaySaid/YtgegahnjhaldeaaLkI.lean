/-
  Contracts of slices.Sort and Compact of numbers that the call owns, of locks.Plan, Needs, Done.
-/
import Derived.Test.YtgegahnjhaldeaaLkH
namespace Go.Proofs.Ytgegahnjhaldeaa
open Go.ChangeShapes Go.WideShapes Go.ChangeAt Go.RowKit

theorem compact_none (p : Option Addr) (cap : Nat) (w : World) : Calls Try.prog 52 #[.slice p 0 cap] w fun e w' => e = .returned (.slice p 0 cap) ∧ w' = w := by
  go_enter Try.func52, Try.ntmps52
  go_wp2_with fail
  go_ret
  exact ⟨rfl, rfl⟩
theorem sortO_c (base : Nat) (v : Value) (xs : List Int) (w : World) (hI : w.ownsRow base 3 1 v xs.length (iV xs)) (hlen : xs.length ≤ 12) :
    Calls Try.prog 51 #[v] w fun e w' => e = .returned (.tuple #[]) ∧ w'.ownsRow base 3 1 v xs.length (iV (Srt.sorted xs xs.length)) ∧ Below base w w' := by
  by_cases h0 : xs.length = 0
  · obtain ⟨p, cap, rfl, -, -, -⟩ := own_form2 hI
    obtain rfl : xs = [] := List.length_eq_zero_iff.1 h0
    refine (sort_none p cap w).mono ?_
    rintro e w' ⟨rfl, rfl⟩
    exact ⟨rfl, hI, Below.refl _ _⟩
  · obtain ⟨g, cap, rfl, -, -, -⟩ := own_pos hI (by omega)
    refine (sort_c base g cap xs w ⟨hI⟩ (by omega) hlen).mono ?_
    rintro e w' ⟨rfl, hs⟩
    have := hs.row.own
    rw [Srt.sorted_len] at this
    exact ⟨rfl, this, hs.bel⟩
theorem compactO_c (base : Nat) (v : Value) (xs : List Int) (w : World) (hb : base ≤ w.heap.size) (hI : w.ownsRow base 3 1 v xs.length (iV xs)) (hlen : xs.length ≤ 1000000) :
    Calls Try.prog 52 #[v] w fun e w' => ∃ v', e = .returned v' ∧ w'.ownsRow base 3 1 v' (Srt.comp xs xs.length).length (iV (Srt.comp xs xs.length)) ∧ Below base w w' := by
  by_cases h0 : xs.length = 0
  · obtain ⟨p, cap, rfl, -, -, -⟩ := own_form2 hI
    obtain rfl : xs = [] := List.length_eq_zero_iff.1 h0
    refine (compact_none p cap w).mono ?_
    rintro e w' ⟨rfl, rfl⟩
    exact ⟨_, rfl, hI, Below.refl _ _⟩
  · obtain ⟨g, cap, rfl, -, -, -⟩ := own_pos hI (by omega)
    refine (compact_c base g cap xs w ⟨hI⟩ (by omega) hlen).mono ?_
    rintro e w' ⟨rfl, h1, h2⟩
    exact ⟨_, rfl, h1.own, h2⟩
/-- A job's cells. -/
abbrev jV (v : Value) (took gave : Int) (did : Bool) : Array Value := #[v, .int .i64 took, .int .i64 gave, .bool did]
theorem info_job : (Try.prog.info? 48).map (·.size) = some 4 := by kernel_rfl
theorem below_setRowL {B : Nat} {w w' : World} (h : Below B w w') {g : Nat} (hg : B ≤ g) (cs : Array Value) : Below B w (w'.setRow g cs) := by
  refine ⟨h.os, h.tape, h.output, ?_, fun k hk => ?_⟩
  · simpa [World.setRow] using h.size
  · rw [setRow_other w' g k cs (by omega)]
    exact h.block k hk
theorem own_farRow {w : World} {base : Nat} {e : TypeId} {size : Nat} {v : Value} {n : Nat} {xs : List Value} (h : w.ownsRow base e size v n xs) {c : Nat} (hc : c < base) (cs : Array Value) : (w.setRow c cs).ownsRow base e size v n xs := by
  refine ⟨h.1, h.2.imp id ?_⟩
  rintro ⟨g, cap, cur, rfl, h1, h2, h3⟩
  exact ⟨g, cap, cur, rfl, h1, (setRow_other w c g cs (by omega)).trans h2, h3⟩
set_option maxHeartbeats 2000000 in
theorem plan_c (p : Option Addr) (cap : Nat) (xs : List Int) (w : World) (hv : Vw w p (iV xs)) (hp : p = none → cap = 0) (hlen : xs.length ≤ 12) :
    Calls Try.prog 27 #[.slice p xs.length cap] w fun e w' => ∃ v, e = .returned (.agg (jV v 0 0 false)) ∧ w'.ownsRow w.heap.size 3 1 v (Srt.set xs).length (iV (Srt.set xs)) ∧ Below w.heap.size w w' := by
  have hb1 := alloc_below w (.cells (jV (.slice none 0 0) 0 0 false) 48)
  have HB := Lib.hid hb1
  have HC := Lib.hid (CsAt.new w 48 (jV (.slice none 0 0) 0 0 false))
  have HV := Lib.hid (hv.low hb1)
  clear hb1 hv
  go_enter Try.func27, Try.ntmps27
  go_upto_region 1 with (fail)
  generalize w.alloc (.cells (jV (.slice none 0 0) 0 0 false) 48) = w1 at *
  go_wp2_with fail
  refine (clone_w p cap xs w1 HV.out hp (by omega)).mono ?_
  rintro e w2 ⟨v, rfl, hown, hb2⟩
  have HO2 := Lib.hid hown
  have HB2 := Lib.hid hb2
  clear hown hb2
  go_wp2_with fail
  refine (sortO_c _ _ _ _ HO2.out hlen).mono ?_
  rintro e w3 ⟨rfl, hown, hb3⟩
  have HO3 := Lib.hid (show w3.ownsRow w1.heap.size 3 1 v (Srt.sorted xs xs.length).length (iV (Srt.sorted xs xs.length)) by rw [Srt.sorted_len]; exact hown)
  have HB3 := Lib.hid (HB2.out.trans hb3)
  clear hown hb3
  go_wp2_with fail
  refine (compactO_c w1.heap.size _ _ _ HB3.out.size HO3.out (by rw [Srt.sorted_len]; omega)).mono ?_
  rintro e w4 ⟨v4, rfl, hown, hb4⟩
  rw [Srt.sorted_len] at hown
  obtain ⟨p4, cap4, rfl, -, -, -⟩ := own_form2 hown
  have HO4 := Lib.hid (show w4.ownsRow w1.heap.size 3 1 (.slice p4 (Srt.set xs).length cap4) (Srt.set xs).length (iV (Srt.set xs)) from hown)
  have HB4 := Lib.hid (HB3.out.trans hb4)
  have HC4 := Lib.hid (HC.out.low HB4.out)
  have HE := Lib.hid (show Srt.comp (Srt.sorted xs xs.length) xs.length = Srt.set xs from rfl)
  rw [HE.out]
  clear hown hb4
  go_wp2_with (refine wpList_store_row rfl 48 _ _ rfl w.heap.size _ rfl rfl 48 _ HC4.out info_job rfl (by simp [Value.oneCell']) ?_)
  refine bodyPost_ret (results_cell_row Try.results27 _ _ w.heap.size _ _ _ _ rfl (HC4.out.row _) Try.underlying48 rfl info_job) rfl ⟨_, rfl, own_mono (own_farRow HO4.out HC.out.lt _) (Nat.le_of_lt HC.out.lt), below_setRowL (HB.out.trans (HB4.out.mono HB.out.size)) (Nat.le_refl _) _⟩
/-- A job lies there. -/
structure JobAt (W : World) (b off : Nat) (v : Value) (took gave : Int) (did : Bool) : Prop where
  c0 : W.cell? ⟨b, off, none⟩ = some v
  c1 : W.cell? ⟨b, off + 1, none⟩ = some (.int .i64 took)
  c2 : W.cell? ⟨b, off + 2, none⟩ = some (.int .i64 gave)
  c3 : W.cell? ⟨b, off + 3, none⟩ = some (.bool did)
  f1 : W.frozen? ⟨b, off + 1, none⟩ = false
  f2 : W.frozen? ⟨b, off + 2, none⟩ = false
  f3 : W.frozen? ⟨b, off + 3, none⟩ = false
theorem needs_nil (w : World) : Calls Try.prog 23 #[.pointer none] w fun e w' => e = .returned (.slice none 0 0) ∧ w = w' := by
  go_enter Try.func23, Try.ntmps23
  go_wp2_with fail
  go_ret
  exact ⟨rfl, rfl⟩
theorem needs_c (b off : Nat) (v : Value) (took gave : Int) (did : Bool) (base : Nat) (xs : List Int) (w : World) (hj : JobAt w b off v took gave did) (ho : w.ownsRow base 3 1 v xs.length (iV xs)) (hl : xs.length ≤ 900000) :
    Calls Try.prog 23 #[.pointer (some ⟨b, off, none⟩)] w fun e w' => ∃ v', e = .returned v' ∧ w'.ownsRow w.heap.size 3 1 v' xs.length (iV xs) ∧ Below w.heap.size w w' := by
  obtain ⟨p, cap, rfl, hv, -, hp⟩ := own_form2 ho
  have c0 := hj.c0
  have HX := Lib.hid (clone_c _ p cap xs w rfl hv hp hl)
  clear hj ho hv hp
  go_enter Try.func23, Try.ntmps23
  go_wp2_with fail
  refine HX.out.mono ?_
  rintro e w1 ⟨v', rfl, hown, hb⟩
  have HO := Lib.hid (And.intro hown hb)
  clear hown hb
  go_wp2_with fail
  go_ret
  exact ⟨_, rfl, HO.out.1, HO.out.2⟩
theorem done_nil (w : World) : Calls Try.prog 24 #[.pointer none] w fun e w' => e = .returned (.bool true) ∧ Below w.heap.size w w' := by
  go_enter Try.func24, Try.ntmps24
  go_wp2_with fail
  go_quiet (fail)
  have HB := Lib.hid (below_dnS (Below.refl w.heap.size w) nq)
  go_wp2_with fail
  go_ret
  exact ⟨rfl, HB.out⟩
theorem step_nil (lv : Value) (who : Int) (f : Value) (w : World) : Calls Try.prog 25 #[.pointer none, lv, .int .i64 who, f] w fun e w' => e = .returned (.int .i64 4) ∧ Below w.heap.size w w' := by
  go_enter Try.func25, Try.ntmps25
  go_wp2_with fail
  refine (done_nil _).mono ?_
  rintro e w1 ⟨rfl, hb⟩
  have HB := Lib.hid hb
  clear hb
  go_wp2_with fail
  go_ret
  exact ⟨rfl, HB.out⟩
end Go.Proofs.Ytgegahnjhaldeaa
