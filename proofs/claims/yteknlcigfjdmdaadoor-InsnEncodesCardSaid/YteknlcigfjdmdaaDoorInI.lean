/-
  Contracts of insn.read and of its own function.
-/
import Derived.Test.YteknlcigfjdmdaaDoorInH
import Derived.Deep.RegionHeld3
namespace Go.Proofs.YteknlcigfjdmdaaDoor
open Go.ChangeShapes Go.WideShapes Go.ChangeAt Go.RowKit Wd

/-- A format has what 'what' tells. -/
def lacksB (f : Nat) (what : Int) : Bool := bits .and .u8 ((fldL.getD f 0 : Nat) : Int) what == 0
def fieldS (f : Nat) (what x p s : Int) : Int := if lacksB f what then 0 else cutS x p s
theorem cutS_lt (x p : Int) (s : Nat) (hs : s ≤ 12) : 0 ≤ cutS x p s ∧ cutS x p s < 2 ^ s := by
  refine ⟨word_nonneg _, ?_⟩
  have e : cutS x p s = ((sumTo (fun k => decide ((k : Int) < s ∧ 0 ≤ p + k) && tb x (p + k).toNat) s : Nat) : Int) := by
    symm
    have hl := sumTo_lt (fun k => decide ((k : Int) < s ∧ 0 ≤ p + k) && tb x (p + k).toNat) s
    have hp : 2 ^ s ≤ 2 ^ 12 := Nat.pow_le_pow_right (by decide) hs
    refine eq_word (by omega) (by omega) fun i hi => ?_
    unfold tb
    rw [Int.toNat_natCast, testBit_sumTo]
    by_cases h : i < s
    · simp [h]
    · simp [h]
  rw [e]
  have hl := sumTo_lt (fun k => decide ((k : Int) < s ∧ 0 ≤ p + k) && tb x (p + k).toNat) s
  have : ((2 ^ s : Nat) : Int) = 2 ^ s := by simp
  omega
set_option maxHeartbeats 1000000 in
theorem read1_c (f : Nat) (hf : f < 15) (what p x : Int) (s : Nat) (hs : s ≤ 12) (pf pw : Nat) (W : World) (hv : VarsAt W) (hcf : W.cell? ⟨pf, 0, none⟩ = some (.int .i64 (f : Nat))) (hcw : W.cell? ⟨pw, 0, none⟩ = some (.int .u32 x))
    (hx0 : 0 ≤ x) (hx : x < 4294967296) (hp0 : 0 ≤ p) (hp : p < 64) :
    Calls Tryd.prog 30 #[.int .u8 what, .int .i64 p, .int .i64 s, .pointer (some ⟨pf, 0, none⟩), .pointer (some ⟨pw, 0, none⟩)] W fun e W' => e = .returned (.int .i64 (fieldS f what x p s)) ∧ W = W' := by
  have hfl := hv.flds f hf
  have hf2 : (f : Int) < 15 := by omega
  clear hv
  cases hl : lacksB f what
  · have HR := Lib.hid (show fieldS f what x p s = cutS x p s by unfold fieldS; rw [hl]; rfl)
    have hl2 : (bits .and .u8 ((fldL.getD f 0 : Nat) : Int) what == 0) = false := hl
    have hcl := cutS_lt x p s hs
    have hpw : (2 : Int) ^ s ≤ 4096 := by
      have : 2 ^ s ≤ 2 ^ 12 := Nat.pow_le_pow_right (by decide) hs
      have e : ((2 ^ s : Nat) : Int) = 2 ^ s := by simp
      omega
    have hc0 := hcl.1
    have hc1 : cutS x p s < 4096 := by omega
    clear hl hcl hpw
    generalize ((fldL.getD f 0 : Nat) : Int) = g at *
    have hx2 : x < 18446744073709551616 := by omega
    go_enter Tryd.func30, Tryd.ntmps30
    go_wp2_with fail
    refine (cut_c x p s _ hx0 hx2 (by omega) (by omega)).mono ?_
    rintro e w' ⟨rfl, rfl⟩
    go_wp2_with fail
    go_ret
    exact ⟨ret_u (by rw [HR.out]), rfl⟩
  · have HR := Lib.hid (show fieldS f what x p s = 0 by unfold fieldS; rw [hl]; rfl)
    have hl2 : (bits .and .u8 ((fldL.getD f 0 : Nat) : Int) what == 0) = true := hl
    clear hl
    generalize ((fldL.getD f 0 : Nat) : Int) = g at *
    go_enter Tryd.func30, Tryd.ntmps30
    go_wp2_with fail
    go_ret
    exact ⟨ret_u (by rw [HR.out]), rfl⟩
theorem read1_i (f : Nat) (hf : f < 15) (what p s x : Int) (pf pw : Nat) (W : World) (hv : VarsAt W) (hcf : W.cell? ⟨pf, 0, none⟩ = some (.int .i64 (f : Nat))) (hcw : W.cell? ⟨pw, 0, none⟩ = some (.int .u32 x))
    (hx0 : 0 ≤ x) (hx : x < 4294967296) (hp0 : 0 ≤ p) (hp : p < 64) (hs0 : 0 ≤ s) (hs : s ≤ 12) :
    Calls Tryd.prog 30 #[.int .u8 what, .int .i64 p, .int .i64 s, .pointer (some ⟨pf, 0, none⟩), .pointer (some ⟨pw, 0, none⟩)] W fun e W' => e = .returned (.int .i64 (fieldS f what x p s)) ∧ W = W' := by
  obtain ⟨n, rfl⟩ : ∃ n : Nat, s = (n : Int) := ⟨s.toNat, by omega⟩
  exact read1_c f hf what p x n (by omega) pf pw W hv hcf hcw hx0 hx hp0 hp
def rc (w : World) (b i : Nat) : Value := (w.cell? ⟨b, i, none⟩).getD undef
theorem rc_of {w : World} {b i : Nat} {v : Value} (h : w.cell? ⟨b, i, none⟩ = some v) : w.cell? ⟨b, i, none⟩ = some (rc w b i) := by unfold rc; rw [h]; rfl
abbrev RS (w : World) (b1 f : Nat) (x : Int) (w' : World) : Prop := Below w.heap.size w w' ∧ w'.cell? ⟨b1, 0, none⟩ = some (.int .i64 (f : Nat)) ∧ w'.cell? ⟨w.heap.size, 0, none⟩ = some (.int .u32 x) ∧ VarsAt w' ∧ w'.cell? ⟨w.heap.size + 1, 0, none⟩ = some (rc w' (w.heap.size + 1) 0) ∧ w'.cell? ⟨w.heap.size + 1, 1, none⟩ = some (rc w' (w.heap.size + 1) 1) ∧ w'.cell? ⟨w.heap.size + 1, 2, none⟩ = some (rc w' (w.heap.size + 1) 2) ∧ w'.cell? ⟨w.heap.size + 1, 3, none⟩ = some (rc w' (w.heap.size + 1) 3) ∧ w'.cell? ⟨w.heap.size + 1, 4, none⟩ = some (rc w' (w.heap.size + 1) 4) ∧ w'.cell? ⟨w.heap.size + 1, 5, none⟩ = some (rc w' (w.heap.size + 1) 5) ∧ w'.cell? ⟨w.heap.size + 1, 6, none⟩ = some (rc w' (w.heap.size + 1) 6) ∧ w'.cell? ⟨w.heap.size + 1, 7, none⟩ = some (rc w' (w.heap.size + 1) 7) ∧ w'.frozen? ⟨w.heap.size + 1, 0, none⟩ = false ∧ w'.frozen? ⟨w.heap.size + 1, 1, none⟩ = false ∧ w'.frozen? ⟨w.heap.size + 1, 2, none⟩ = false ∧ w'.frozen? ⟨w.heap.size + 1, 3, none⟩ = false ∧ w'.frozen? ⟨w.heap.size + 1, 4, none⟩ = false ∧ w'.frozen? ⟨w.heap.size + 1, 5, none⟩ = false ∧ w'.frozen? ⟨w.heap.size + 1, 6, none⟩ = false ∧ w'.frozen? ⟨w.heap.size + 1, 7, none⟩ = false
theorem RS.on {w w' w2 : World} {b1 f : Nat} {x : Int} (h : RS w b1 f x w') (hb : Below w'.heap.size w' w2) : RS w b1 f x w2 := by
  obtain ⟨h0, h1, h2, h3, c0, c1, c2, c3, c4, c5, c6, c7, d0, d1, d2, d3, d4, d5, d6, d7⟩ := h
  have hl : w.heap.size + 1 < w'.heap.size := lt_cell c0
  exact ⟨h0.trans (hb.mono h0.size), (hb.cell (p := ⟨b1, 0, none⟩) (lt_cell h1)).trans h1, (hb.cell (p := ⟨w.heap.size, 0, none⟩) (lt_cell h2)).trans h2, h3.low hb, rc_of ((hb.cell (p := ⟨w.heap.size + 1, 0, none⟩) hl).trans c0), rc_of ((hb.cell (p := ⟨w.heap.size + 1, 1, none⟩) hl).trans c1), rc_of ((hb.cell (p := ⟨w.heap.size + 1, 2, none⟩) hl).trans c2), rc_of ((hb.cell (p := ⟨w.heap.size + 1, 3, none⟩) hl).trans c3), rc_of ((hb.cell (p := ⟨w.heap.size + 1, 4, none⟩) hl).trans c4), rc_of ((hb.cell (p := ⟨w.heap.size + 1, 5, none⟩) hl).trans c5), rc_of ((hb.cell (p := ⟨w.heap.size + 1, 6, none⟩) hl).trans c6), rc_of ((hb.cell (p := ⟨w.heap.size + 1, 7, none⟩) hl).trans c7), (hb.frozen (p := ⟨w.heap.size + 1, 0, none⟩) hl).trans d0, (hb.frozen (p := ⟨w.heap.size + 1, 1, none⟩) hl).trans d1, (hb.frozen (p := ⟨w.heap.size + 1, 2, none⟩) hl).trans d2, (hb.frozen (p := ⟨w.heap.size + 1, 3, none⟩) hl).trans d3, (hb.frozen (p := ⟨w.heap.size + 1, 4, none⟩) hl).trans d4, (hb.frozen (p := ⟨w.heap.size + 1, 5, none⟩) hl).trans d5, (hb.frozen (p := ⟨w.heap.size + 1, 6, none⟩) hl).trans d6, (hb.frozen (p := ⟨w.heap.size + 1, 7, none⟩) hl).trans d7⟩
theorem RS.drew {w w' : World} {b1 f : Nat} {x : Int} (h : RS w b1 f x w') : RS w b1 f x w'.drew := h.on ((Below.refl _ _).drew)
theorem set_some {w : World} {b i j : Nat} {u v : Value} (h : w.cell? ⟨b, i, none⟩ = some u) : (w.setCell ⟨b, j, none⟩ v).cell? ⟨b, i, none⟩ = some (rc (w.setCell ⟨b, j, none⟩ v) b i) := by
  by_cases e : j = i
  · subst e; exact rc_of (World.cell?_setCell_same' _ _ _ (by rw [h]; rfl))
  · exact rc_of ((World.cell?_setCell_other (w := w) (a := ⟨b, j, none⟩) (b := ⟨b, i, none⟩) (v := v) (fun e' => e (by cases e'; rfl))).trans h)
theorem RS.set {w w' : World} {b1 f : Nat} {x : Int} (hne : w.heap.size + 1 ≠ b1) (h : RS w b1 f x w') (j : Nat) (v : Value) (hv2 : 2 ≤ w.heap.size) : RS w b1 f x (w'.setCell ⟨w.heap.size + 1, j, none⟩ v) := by
  obtain ⟨h0, h1, h2, h3, c0, c1, c2, c3, c4, c5, c6, c7, d0, d1, d2, d3, d4, d5, d6, d7⟩ := h
  refine ⟨h0.setCell (p := ⟨w.heap.size + 1, j, none⟩) (by simp) v, (World.cell?_setCell_far _ _ _ _ hne).trans h1, (World.cell?_setCell_far _ _ _ _ (by simp)).trans h2, ?_, set_some c0, set_some c1, set_some c2, set_some c3, set_some c4, set_some c5, set_some c6, set_some c7, by rw [World.frozen?_setCell]; exact d0, by rw [World.frozen?_setCell]; exact d1, by rw [World.frozen?_setCell]; exact d2, by rw [World.frozen?_setCell]; exact d3, by rw [World.frozen?_setCell]; exact d4, by rw [World.frozen?_setCell]; exact d5, by rw [World.frozen?_setCell]; exact d6, by rw [World.frozen?_setCell]; exact d7⟩
  exact h3.on (B := 2) ((Below.refl 2 w').setCell (p := ⟨w.heap.size + 1, j, none⟩) (by show 2 ≤ w.heap.size + 1; omega) v) (Nat.le_refl _)
theorem read1_s (w : World) (f : Nat) (hf : f < 15) (what p s x : Int) (b1 : Nat) (W : World) (h : RS w b1 f x W) (hx0 : 0 ≤ x) (hx : x < 4294967296) (hp0 : 0 ≤ p) (hp : p < 64) (hs0 : 0 ≤ s) (hs : s ≤ 12) :
    Calls Tryd.prog 30 #[.int .u8 what, .int .i64 p, .int .i64 s, .pointer (some ⟨b1, 0, none⟩), .pointer (some ⟨w.heap.size, 0, none⟩)] W fun e W' => e = .returned (.int .i64 (fieldS f what x p s)) ∧ W = W' :=
  read1_i f hf what p s x b1 w.heap.size W h.2.2.2.1 h.2.1 h.2.2.1 hx0 hx hp0 hp hs0 hs
theorem res_new (w : World) (x : Int) (t s : TypeId) : ((w.alloc (.cells #[.int .u32 x] s)).alloc (.cells #[.int .i64 0, .int .i64 0, .int .i64 0, .int .i64 0, .int .i64 0, .int .i64 0, .bool false, .bool false] t)).cell? ⟨w.heap.size, 0, none⟩ = some (.int .u32 x) ∧ ((w.alloc (.cells #[.int .u32 x] s)).alloc (.cells #[.int .i64 0, .int .i64 0, .int .i64 0, .int .i64 0, .int .i64 0, .int .i64 0, .bool false, .bool false] t)).cell? ⟨w.heap.size + 1, 0, none⟩ = some (.int .i64 0) ∧ ((w.alloc (.cells #[.int .u32 x] s)).alloc (.cells #[.int .i64 0, .int .i64 0, .int .i64 0, .int .i64 0, .int .i64 0, .int .i64 0, .bool false, .bool false] t)).cell? ⟨w.heap.size + 1, 1, none⟩ = some (.int .i64 0) ∧ ((w.alloc (.cells #[.int .u32 x] s)).alloc (.cells #[.int .i64 0, .int .i64 0, .int .i64 0, .int .i64 0, .int .i64 0, .int .i64 0, .bool false, .bool false] t)).cell? ⟨w.heap.size + 1, 2, none⟩ = some (.int .i64 0) ∧ ((w.alloc (.cells #[.int .u32 x] s)).alloc (.cells #[.int .i64 0, .int .i64 0, .int .i64 0, .int .i64 0, .int .i64 0, .int .i64 0, .bool false, .bool false] t)).cell? ⟨w.heap.size + 1, 3, none⟩ = some (.int .i64 0) ∧ ((w.alloc (.cells #[.int .u32 x] s)).alloc (.cells #[.int .i64 0, .int .i64 0, .int .i64 0, .int .i64 0, .int .i64 0, .int .i64 0, .bool false, .bool false] t)).cell? ⟨w.heap.size + 1, 4, none⟩ = some (.int .i64 0) ∧ ((w.alloc (.cells #[.int .u32 x] s)).alloc (.cells #[.int .i64 0, .int .i64 0, .int .i64 0, .int .i64 0, .int .i64 0, .int .i64 0, .bool false, .bool false] t)).cell? ⟨w.heap.size + 1, 5, none⟩ = some (.int .i64 0) ∧ ((w.alloc (.cells #[.int .u32 x] s)).alloc (.cells #[.int .i64 0, .int .i64 0, .int .i64 0, .int .i64 0, .int .i64 0, .int .i64 0, .bool false, .bool false] t)).cell? ⟨w.heap.size + 1, 6, none⟩ = some (.bool false) ∧ ((w.alloc (.cells #[.int .u32 x] s)).alloc (.cells #[.int .i64 0, .int .i64 0, .int .i64 0, .int .i64 0, .int .i64 0, .int .i64 0, .bool false, .bool false] t)).cell? ⟨w.heap.size + 1, 7, none⟩ = some (.bool false) ∧ ((w.alloc (.cells #[.int .u32 x] s)).alloc (.cells #[.int .i64 0, .int .i64 0, .int .i64 0, .int .i64 0, .int .i64 0, .int .i64 0, .bool false, .bool false] t)).frozen? ⟨w.heap.size + 1, 0, none⟩ = false ∧ ((w.alloc (.cells #[.int .u32 x] s)).alloc (.cells #[.int .i64 0, .int .i64 0, .int .i64 0, .int .i64 0, .int .i64 0, .int .i64 0, .bool false, .bool false] t)).frozen? ⟨w.heap.size + 1, 1, none⟩ = false ∧ ((w.alloc (.cells #[.int .u32 x] s)).alloc (.cells #[.int .i64 0, .int .i64 0, .int .i64 0, .int .i64 0, .int .i64 0, .int .i64 0, .bool false, .bool false] t)).frozen? ⟨w.heap.size + 1, 2, none⟩ = false ∧ ((w.alloc (.cells #[.int .u32 x] s)).alloc (.cells #[.int .i64 0, .int .i64 0, .int .i64 0, .int .i64 0, .int .i64 0, .int .i64 0, .bool false, .bool false] t)).frozen? ⟨w.heap.size + 1, 3, none⟩ = false ∧ ((w.alloc (.cells #[.int .u32 x] s)).alloc (.cells #[.int .i64 0, .int .i64 0, .int .i64 0, .int .i64 0, .int .i64 0, .int .i64 0, .bool false, .bool false] t)).frozen? ⟨w.heap.size + 1, 4, none⟩ = false ∧ ((w.alloc (.cells #[.int .u32 x] s)).alloc (.cells #[.int .i64 0, .int .i64 0, .int .i64 0, .int .i64 0, .int .i64 0, .int .i64 0, .bool false, .bool false] t)).frozen? ⟨w.heap.size + 1, 5, none⟩ = false ∧ ((w.alloc (.cells #[.int .u32 x] s)).alloc (.cells #[.int .i64 0, .int .i64 0, .int .i64 0, .int .i64 0, .int .i64 0, .int .i64 0, .bool false, .bool false] t)).frozen? ⟨w.heap.size + 1, 6, none⟩ = false ∧ ((w.alloc (.cells #[.int .u32 x] s)).alloc (.cells #[.int .i64 0, .int .i64 0, .int .i64 0, .int .i64 0, .int .i64 0, .int .i64 0, .bool false, .bool false] t)).frozen? ⟨w.heap.size + 1, 7, none⟩ = false := by
  refine ⟨?_, ?_, ?_, ?_, ?_, ?_, ?_, ?_, ?_, ?_, ?_, ?_, ?_, ?_, ?_, ?_, ?_⟩ <;> simp [go_sem, World.cell?_alloc_past]
def readV (f : Nat) (op x : Int) : Value := (.agg #[.int .i64 op, .int .i64 (fieldS f 1 x 7 5), .int .i64 (fieldS f 2 x 15 5), .int .i64 (fieldS f 4 x 20 5), .int .i64 (immD (f : Nat) x), .int .i64 (fieldS f 8 x 20 12), .bool (fieldS f 16 x 26 1 == 1), .bool (fieldS f 16 x 25 1 == 1)])
set_option maxHeartbeats 8000000 in
set_option maxRecDepth 100000 in
theorem read_c (op x : Int) (w : World) (hv : VarsAt w) (hx0 : 0 ≤ x) (hx : x < 4294967296) :
    Calls Tryd.prog 14 #[.int .i64 op, .int .u32 x] w fun e w' => e = .returned (readV (fmtN op) op x) ∧ Below w.heap.size w w' := by
  have HV := Lib.hid hv
  clear hv
  have hfl := fmtN_lt op
  go_enter Tryd.func14, Tryd.ntmps14
  go_wp2_with fail
  refine (formatOf_c _ _).mono ?_
  rintro e w1 ⟨rfl, hb⟩
  generalize hff : fmtN op = f at *
  have HFF := Lib.hid hff
  clear hff
  have HS0 := Lib.hid (show RS w w1.heap.size f x (w1.alloc (.cells #[.int .i64 (f : Nat)] 54)) from by
    have hn := res_new w x 25 22
    have hz : ((w.alloc (.cells #[.int .u32 x] 22)).alloc (.cells #[.int .i64 0, .int .i64 0, .int .i64 0, .int .i64 0, .int .i64 0, .int .i64 0, .bool false, .bool false] 25)).heap.size = w.heap.size + 2 := by simp
    have hB : Below w.heap.size w ((w.alloc (.cells #[.int .u32 x] 22)).alloc (.cells #[.int .i64 0, .int .i64 0, .int .i64 0, .int .i64 0, .int .i64 0, .int .i64 0, .bool false, .bool false] 25)) := ((Below.refl _ w).alloc (Nat.le_refl _) _).alloc (by simp) _
    generalize ((w.alloc (.cells #[.int .u32 x] 22)).alloc (.cells #[.int .i64 0, .int .i64 0, .int .i64 0, .int .i64 0, .int .i64 0, .int .i64 0, .bool false, .bool false] 25)) = wa at *
    have hb2 : Below wa.heap.size wa (w1.alloc (.cells #[.int .i64 (f : Nat)] 54)) := hb.alloc hb.size _
    obtain ⟨h2, c0, c1, c2, c3, c4, c5, c6, c7, d0, d1, d2, d3, d4, d5, d6, d7⟩ := hn
    have hl : w.heap.size + 1 < wa.heap.size := lt_cell c0
    exact ⟨hB.trans (hb2.mono hB.size), by simp [go_sem], (hb2.cell (p := ⟨w.heap.size, 0, none⟩) (lt_cell h2)).trans h2, (HV.out.low hB).low hb2, rc_of ((hb2.cell (p := ⟨w.heap.size + 1, 0, none⟩) hl).trans c0), rc_of ((hb2.cell (p := ⟨w.heap.size + 1, 1, none⟩) hl).trans c1), rc_of ((hb2.cell (p := ⟨w.heap.size + 1, 2, none⟩) hl).trans c2), rc_of ((hb2.cell (p := ⟨w.heap.size + 1, 3, none⟩) hl).trans c3), rc_of ((hb2.cell (p := ⟨w.heap.size + 1, 4, none⟩) hl).trans c4), rc_of ((hb2.cell (p := ⟨w.heap.size + 1, 5, none⟩) hl).trans c5), rc_of ((hb2.cell (p := ⟨w.heap.size + 1, 6, none⟩) hl).trans c6), rc_of ((hb2.cell (p := ⟨w.heap.size + 1, 7, none⟩) hl).trans c7), (hb2.frozen (p := ⟨w.heap.size + 1, 0, none⟩) hl).trans d0, (hb2.frozen (p := ⟨w.heap.size + 1, 1, none⟩) hl).trans d1, (hb2.frozen (p := ⟨w.heap.size + 1, 2, none⟩) hl).trans d2, (hb2.frozen (p := ⟨w.heap.size + 1, 3, none⟩) hl).trans d3, (hb2.frozen (p := ⟨w.heap.size + 1, 4, none⟩) hl).trans d4, (hb2.frozen (p := ⟨w.heap.size + 1, 5, none⟩) hl).trans d5, (hb2.frozen (p := ⟨w.heap.size + 1, 6, none⟩) hl).trans d6, (hb2.frozen (p := ⟨w.heap.size + 1, 7, none⟩) hl).trans d7⟩)
  have hne : w.heap.size + 1 ≠ w1.heap.size := by have := hb.size; simp at this; omega
  have hv2 := HV.out.size
  clear hb
  go_wp2_with fail
  go_region_held3 (fun w' => Below w.heap.size w w' ∧ w'.cell? ⟨w1.heap.size, 0, none⟩ = some (.int .i64 (f : Nat)) ∧ w'.cell? ⟨w.heap.size, 0, none⟩ = some (.int .u32 x) ∧ VarsAt w' ∧ w'.cell? ⟨w.heap.size + 1, 0, none⟩ = some (rc w' (w.heap.size + 1) 0) ∧ w'.cell? ⟨w.heap.size + 1, 1, none⟩ = some (rc w' (w.heap.size + 1) 1) ∧ w'.cell? ⟨w.heap.size + 1, 2, none⟩ = some (rc w' (w.heap.size + 1) 2) ∧ w'.cell? ⟨w.heap.size + 1, 3, none⟩ = some (rc w' (w.heap.size + 1) 3) ∧ w'.cell? ⟨w.heap.size + 1, 4, none⟩ = some (rc w' (w.heap.size + 1) 4) ∧ w'.cell? ⟨w.heap.size + 1, 5, none⟩ = some (rc w' (w.heap.size + 1) 5) ∧ w'.cell? ⟨w.heap.size + 1, 6, none⟩ = some (rc w' (w.heap.size + 1) 6) ∧ w'.cell? ⟨w.heap.size + 1, 7, none⟩ = some (rc w' (w.heap.size + 1) 7) ∧ w'.frozen? ⟨w.heap.size + 1, 0, none⟩ = false ∧ w'.frozen? ⟨w.heap.size + 1, 1, none⟩ = false ∧ w'.frozen? ⟨w.heap.size + 1, 2, none⟩ = false ∧ w'.frozen? ⟨w.heap.size + 1, 3, none⟩ = false ∧ w'.frozen? ⟨w.heap.size + 1, 4, none⟩ = false ∧ w'.frozen? ⟨w.heap.size + 1, 5, none⟩ = false ∧ w'.frozen? ⟨w.heap.size + 1, 6, none⟩ = false ∧ w'.frozen? ⟨w.heap.size + 1, 7, none⟩ = false)
    (first | with_reducible exact HS0.out.drew | with_reducible exact RS.on (by assumption) (by assumption) | with_reducible assumption | with_reducible exact ((((((((RS.set hne (by assumption) 0 _ hv2).set hne 1 _ hv2).set hne 2 _ hv2).set hne 3 _ hv2).set hne 4 _ hv2).set hne 5 _ hv2).set hne 6 _ hv2).set hne 7 _ hv2))
    (first
      | (go_at_call 30; refine (read1_s w f hfl _ _ _ x w1.heap.size _ (by assumption) hx0 hx (by decide) (by decide) (by decide) (by decide)).mono ?_; rintro e wn' ⟨rfl, rfl⟩)
      | (go_at_call 28; refine (imm_c _ x _ hx0 hx).mono ?_; rintro e wn ⟨rfl, hb⟩))
  obtain ⟨z0, -, -, -, c0, c1, c2, c3, c4, c5, c6, c7, -, -, -, -, -, -, -, -⟩ : RS w w1.heap.size f x wn := RS.on HS0.out.drew hb
  have Z0 := Lib.hid z0
  rename_i hHeldEnd
  clear z0 HS0 hb hHeldEnd
  go_wp2_with fail
  refine bodyPost_ret (v := readV f op x) (by simp [results, Tryd.results14, go_sem, readV, c0, c1, c2, c3, c4, c5, c6, c7]) rfl ⟨by rw [HFF.out], ?_⟩
  exact (((((((Z0.out.setCell (by simp) _).setCell (by simp) _).setCell (by simp) _).setCell (by simp) _).setCell (by simp) _).setCell (by simp) _).setCell (by simp) _).setCell (by simp) _
end Go.Proofs.YteknlcigfjdmdaaDoor
