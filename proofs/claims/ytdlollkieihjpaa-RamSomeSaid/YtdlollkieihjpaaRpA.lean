/-
  The law RamPlays: what is not played.
-/
import Derived.Test.YtdlollkieihjpaaRdE
import Derived.Test.YtdlollkieihjpaaRdD
import Derived.Test.YtdlollkieihjpaaRmI
import Derived.Test.YtdlollkieihjpaaLive10
namespace Go.Proofs.Ytdlollkieihjpaa
open Go.ChangeShapes Go.WideShapes Go.ChangeAt Go.RowKit Wd

set_option maxHeartbeats 2000000 in
theorem plays_no {w : World} (x : Int) (ao : Option Addr) (n cap : Nat) (q : Deed) (hx : ¬ (1 ≤ x ∧ x ≤ 4096)) :
    Calls Try.prog 3 #[.int .i64 x, .slice ao n cap, .agg q.cells] w fun e w' => e = .returned (.bool true) ∧ Below w.heap.size w w' := by
  have HB := Lib.hid ((Below.refl w.heap.size w).alloc (Nat.le_refl _) (.cells q.cells 26))
  have HX := Lib.hid hx
  unfold Deed.cells at *
  by_cases h1 : x < 1
  · have g1 : decide (x < 1) = true := by simpa using h1
    clear hx
    go_enter Try.func3, Try.ntmps3
    go_wp2_with fail
    refine (new_no x HX.out _).mono ?_
    rintro e w2 ⟨rfl, rfl⟩
    go_wp2_with fail
    refine (live10_c _).mono ?_
    rintro e w2 ⟨rfl, hb⟩
    have HB2 := Lib.hid (HB.out.trans (hb.mono HB.out.size))
    clear hb
    go_wp2_with fail
    go_ret
    exact ⟨rfl, HB2.out⟩
  · have g1 : decide (x < 1) = false := by simpa using h1
    have g2 : decide (4096 < x) = true := by simp; omega
    clear hx
    go_enter Try.func3, Try.ntmps3
    go_wp2_with fail
    refine (new_no x HX.out _).mono ?_
    rintro e w2 ⟨rfl, rfl⟩
    go_wp2_with fail
    refine (live10_c _).mono ?_
    rintro e w2 ⟨rfl, hb⟩
    have HB2 := Lib.hid (HB.out.trans (hb.mono HB.out.size))
    clear hb
    go_wp2_with fail
    go_ret
    exact ⟨rfl, HB2.out⟩
set_option maxHeartbeats 2000000 in
theorem plays_big {w : World} (m : Nat) {ao : Option Addr} {n : Nat} (cap : Nat) {l : List Deed} (q : Deed) (h1 : 1 ≤ m) (h2 : m ≤ 4096) (hl : Deeds w ao n l) (hq : q.bs.length ≤ 9223372036854775807) (hbig : 30 < m ∨ greatB l = true ∨ 500 < q.bs.length) :
    Calls Try.prog 3 #[.int .i64 (m : Int), .slice ao n cap, .agg q.cells] w fun e w' => e = .returned (.bool true) ∧ Below w.heap.size w w' := by
  have hB := (Below.refl w.heap.size w).alloc (Nat.le_refl _) (.cells q.cells 26)
  have HB := Lib.hid hB
  have HC := Lib.hid (CsAt.new w 26 q.cells)
  have HL := Lib.hid hl
  have HBIG := Lib.hid hbig
  have g1 : decide ((m : Int) < 1) = false := by simp; omega
  have g2 : decide (4096 < (m : Int)) = false := by simp; omega
  clear hB hl hbig
  unfold Deed.cells at *
  go_enter Try.func3, Try.ntmps3
  go_wp2_with fail
  generalize w.alloc (.cells #[.int .i64 q.kind, .int .u64 q.ad, .int .i64 q.nn, .int .u64 q.v, .slice q.p q.bs.length q.cp] 26) = w1 at *
  refine (new_c m h1 h2 _).mono ?_
  rintro e w2 ⟨rfl, hr, hb⟩
  have HB2 := Lib.hid (HB.out.trans (hb.mono HB.out.size))
  have HC2 := Lib.hid (HC.out.low hb)
  have c4 := HC2.out.cell 4
  clear hb hr
  by_cases h30 : 30 < m
  · have g3 : decide (30 < (m : Int)) = true := by simp; omega
    go_wp2_with fail
    refine (live10_c _).mono ?_
    rintro e w3 ⟨rfl, hb⟩
    have HB3 := Lib.hid (HB2.out.trans (hb.mono HB2.out.size))
    clear hb
    go_wp2_with fail
    go_ret
    exact ⟨rfl, HB3.out⟩
  · have g3 : decide (30 < (m : Int)) = false := by simp; omega
    have HL2 := Lib.hid (HL.out.low HB2.out)
    go_wp2_with fail
    refine (great_c cap HL2.out).mono ?_
    rintro e w3 ⟨rfl, rfl⟩
    cases hg : greatB l
    · have hq5 : 500 < q.bs.length := by
        rcases HBIG.out with h | h | h
        · omega
        · rw [hg] at h; cases h
        · exact h
      have g4 : decide (500 < q.bs.length) = true := by simpa using hq5
      have HGG := Lib.hid hg
      clear hg
      go_wp2_with fail
      refine (live10_c _).mono ?_
      rintro e w3 ⟨rfl, hb⟩
      have HB3 := Lib.hid (HB2.out.trans (hb.mono HB2.out.size))
      clear hb
      go_wp2_with fail
      go_ret
      exact ⟨rfl, HB3.out⟩
    · have HGG := Lib.hid hg
      clear hg
      go_wp2_with fail
      refine (live10_c _).mono ?_
      rintro e w3 ⟨rfl, hb⟩
      have HB3 := Lib.hid (HB2.out.trans (hb.mono HB2.out.size))
      clear hb
      go_wp2_with fail
      go_ret
      exact ⟨rfl, HB3.out⟩
end Go.Proofs.Ytdlollkieihjpaa
