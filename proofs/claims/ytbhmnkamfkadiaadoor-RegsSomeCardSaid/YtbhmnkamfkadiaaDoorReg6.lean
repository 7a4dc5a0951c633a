/-
  The iterator of regs.Some: contracts of Some, Some$1 (of a file, of none), and of the functions that RegsSome hands to it.
-/
import Derived.Test.YtbhmnkamfkadiaaDoorReg5
import Derived.Deep.RegionHeld
namespace Go.Proofs.YtbhmnkamfkadiaaDoor
open Go.ChangeShapes Go.WideShapes Go.ChangeAt Go.RowKit

set_option maxHeartbeats 400000 in
theorem words_nil (w : World) : Calls Tryd.prog 15 #[.pointer none] w fun e w' => e = .returned (.agg (aV .u64 (List.replicate 32 0))) ∧ Below w.heap.size w w' := by
  have HI := Lib.hid (i31 (ws := List.replicate 32 0) (by decide))
  have HO := Lib.hid (aV_one .u64 (List.replicate 32 0))
  rw [zeros32] at HI HO ⊢
  go_enter Tryd.func15, Tryd.ntmps15
  go_wp2_with (refine wpList_storeNew rfl 31 _ _ rfl _ _ _ rfl rfl HI.out rfl HO.out ?_)
  exact bodyPost_ret (results_cell_row Tryd.results15 _ _ _ _ _ _ _ rfl (heap_alloc_last w _) Tryd.underlying31 rfl HI.out) rfl ⟨rfl, (Below.refl _ _).alloc (Nat.le_refl _) _⟩
set_option maxHeartbeats 400000 in
theorem some_c (p : Option Addr) (w : World) : Calls Tryd.prog 17 #[.pointer p] w fun e w' => e = .returned (.func (.func 23) #[] #[.pointer (some ⟨w.heap.size, 0, none⟩)]) ∧ w.alloc (.cells #[.pointer p] 43) = w' := by
  go_enter Tryd.func17, Tryd.ntmps17
  go_wp2_with fail
  go_ret
  exact ⟨rfl, rfl⟩
set_option maxHeartbeats 400000 in
theorem some1_nil (y : Value) (pb : Nat) (w : World) (hc : w.cell? ⟨pb, 0, none⟩ = some (.pointer none)) : Calls Tryd.prog 23 #[y, .pointer (some ⟨pb, 0, none⟩)] w fun e w' => e = .returned (.tuple #[]) ∧ w = w' := by
  go_enter Tryd.func23, Tryd.ntmps23
  go_wp2_with fail
  go_loop [5] (fun t => ∃ k : Nat, k ≤ 32 ∧ t = .int .i64 k) (fun t => 32 - (intOf t).toNat)
  case atStart => exact ⟨0, by decide, rfl⟩
  case round =>
    obtain ⟨k, hk, rfl⟩ := hrel
    by_cases hlt : k < 32
    · have hl2 : (k : Int) < 32 := by omega
      go_wp2_with fail
      refine (get_nil _ _).mono ?_
      rintro e w1 ⟨rfl, rfl⟩
      go_wp2_with fail
      go_round
      case rel => exact ⟨k + 1, by omega, by go_num⟩
      case measure => simp [intOf]; omega
    · obtain rfl : k = 32 := by omega
      go_wp2_with fail
      exact bodyPost_end (v := .tuple #[]) (by simp [results, Tryd.results23, go_sem]) rfl ⟨rfl, rfl⟩
/-- How many registers but 0 are not 0, below a number. -/
def cntS (ws : List Int) : Nat → Nat
  | 0 => 0
  | k + 1 => cntS ws k + if 1 ≤ k ∧ ws.getD k 0 ≠ 0 then 1 else 0
theorem cntS_le (ws : List Int) : ∀ k, cntS ws k ≤ k
  | 0 => Nat.le_refl _
  | k + 1 => by have := cntS_le ws k; simp only [cntS]; split <;> omega
theorem cntS_mono (ws : List Int) (k : Nat) : ∀ j, cntS ws k ≤ cntS ws (k + j)
  | 0 => Nat.le_refl _
  | j + 1 => by have := cntS_mono ws k j; show _ ≤ cntS ws (k + j + 1); simp only [cntS]; omega
/-- How many are told. -/
def wantS (ws : List Int) (most : Int) : Int := if 0 < most ∧ most < (cntS ws 32 : Nat) then most else (cntS ws 32 : Nat)
/-- What stands in the cells when n registers have been told, the last one of them last. -/
structure SAt (W : World) (ws : List Int) (most : Int) (pn pf pl pw pm pb fb : Nat) (n last : Int) : Prop where
  n : W.cell? ⟨pn, 0, none⟩ = some (.int .i64 n)
  nf : W.frozen? ⟨pn, 0, none⟩ = false
  f : W.cell? ⟨pf, 0, none⟩ = some (.bool true)
  ff : W.frozen? ⟨pf, 0, none⟩ = false
  l : W.cell? ⟨pl, 0, none⟩ = some (.int .i64 last)
  lf : W.frozen? ⟨pl, 0, none⟩ = false
  w : RowAt .u64 W pw 31 ws
  m : W.cell? ⟨pm, 0, none⟩ = some (.int .i64 most)
  b : W.cell? ⟨pb, 0, none⟩ = some (.pointer (some ⟨fb, 0, none⟩))
  r : RowAt .u64 W fb 34 (ofR ws)
/-- The blocks are apart. -/
structure Apart (pn pf pl pw pm pb fb : Nat) : Prop where
  knf : pn ≠ pf
  knl : pn ≠ pl
  kfl : pf ≠ pl
  knw : pw ≠ pn
  kfw : pw ≠ pf
  klw : pw ≠ pl
  knm : pm ≠ pn
  kfm : pm ≠ pf
  klm : pm ≠ pl
  knb : pb ≠ pn
  kfb : pb ≠ pf
  klb : pb ≠ pl
  knr : fb ≠ pn
  kfr : fb ≠ pf
  klr : fb ≠ pl
abbrev sWorld (W : World) (pn pf pl : Nat) (n i : Int) : World := ((W.setCell ⟨pn, 0, none⟩ (.int .i64 (n + 1))).setCell ⟨pf, 0, none⟩ (.bool true)).setCell ⟨pl, 0, none⟩ (.int .i64 i)
theorem SAt.step {W : World} {ws : List Int} {most : Int} {pn pf pl pw pm pb fb : Nat} {n last : Int} (h : SAt W ws most pn pf pl pw pm pb fb n last) (ha : Apart pn pf pl pw pm pb fb) (i : Int) :
    SAt (sWorld W pn pf pl n i) ws most pn pf pl pw pm pb fb (n + 1) i := by
  have far : ∀ b o, b ≠ pn → b ≠ pf → b ≠ pl → (sWorld W pn pf pl n i).cell? ⟨b, o, none⟩ = W.cell? ⟨b, o, none⟩ := fun b o e1 e2 e3 => by
    rw [World.cell?_setCell_far _ _ _ _ (Ne.symm e3), World.cell?_setCell_far _ _ _ _ (Ne.symm e2), World.cell?_setCell_far _ _ _ _ (Ne.symm e1)]
  have fz : ∀ b o, (sWorld W pn pf pl n i).frozen? ⟨b, o, none⟩ = W.frozen? ⟨b, o, none⟩ := fun b o => by
    rw [World.frozen?_setCell, World.frozen?_setCell, World.frozen?_setCell]
  refine ⟨?_, (fz _ _).trans h.nf, ?_, (fz _ _).trans h.ff, ?_, (fz _ _).trans h.lf, ((h.w.far ha.knw _).far ha.kfw _).far ha.klw _, (far _ _ ha.knm ha.kfm ha.klm).trans h.m, (far _ _ ha.knb ha.kfb ha.klb).trans h.b, ((h.r.far ha.knr _).far ha.kfr _).far ha.klr _⟩
  · rw [World.cell?_setCell_far _ _ _ _ (Ne.symm ha.knl), World.cell?_setCell_far _ _ _ _ (Ne.symm ha.knf)]
    exact World.cell?_setCell_same' _ _ _ (by rw [h.n]; rfl)
  · rw [World.cell?_setCell_far _ _ _ _ (Ne.symm ha.kfl)]
    refine World.cell?_setCell_same' _ _ _ ?_
    rw [World.cell?_setCell_far _ _ _ _ ha.knf, h.f]; rfl
  · refine World.cell?_setCell_same' _ _ _ ?_
    rw [World.cell?_setCell_far _ _ _ _ ha.kfl, World.cell?_setCell_far _ _ _ _ ha.knl, h.l]; rfl
set_option maxHeartbeats 1000000 in
theorem some2_c (ws : List Int) (hl : ws.length = 32) (most : Int) (pn pf pl pw pm pb fb : Nat) (n last : Int) (k : Nat) (x : Int) (W : World) (h : SAt W ws most pn pf pl pw pm pb fb n last) (ha : Apart pn pf pl pw pm pb fb)
    (hn0 : 0 ≤ n) (hn1 : n < 32) (hk : k < 32) (hlast : last < k) (hx : ws.getD k 0 = x) (hx0 : x ≠ 0) :
    Calls Tryd.prog 19 #[.int .i64 k, .int .u64 x, .pointer (some ⟨pn, 0, none⟩), .pointer (some ⟨pf, 0, none⟩), .pointer (some ⟨pl, 0, none⟩), .pointer (some ⟨pw, 0, none⟩), .pointer (some ⟨pm, 0, none⟩)] W
      fun e W' => e = .returned (.bool (n + 1 != most)) ∧ W' = sWorld W pn pf pl n k := by
  have HS := Lib.hid h
  have HA := Lib.hid ha
  have hc := h.w.cell k (by rw [hl]; exact hk)
  rw [hx] at hc
  have d1 : decide (last < (k : Int)) = true := by simpa using hlast
  have d2 : decide ((k : Int) < 32) = true := by simp; omega
  have d3 : (x != 0) = true := by simpa using hx0
  have d4 : (x == x) = true := by simp
  have hk2 : (k : Int) < 32 := by omega
  have c1 := h.n
  have c2 := h.nf
  have W1 : ∀ b o, b ≠ pn → (W.setCell ⟨pn, 0, none⟩ (.int .i64 (n + 1))).cell? ⟨b, o, none⟩ = W.cell? ⟨b, o, none⟩ := fun b o e => World.cell?_setCell_far _ _ _ _ (Ne.symm e)
  have c3 : (W.setCell ⟨pn, 0, none⟩ (.int .i64 (n + 1))).cell? ⟨pf, 0, none⟩ = some (.bool true) := (W1 _ _ (Ne.symm ha.knf)).trans h.f
  have c4 : (W.setCell ⟨pn, 0, none⟩ (.int .i64 (n + 1))).cell? ⟨pl, 0, none⟩ = some (.int .i64 last) := (W1 _ _ (Ne.symm ha.knl)).trans h.l
  have c5 : (W.setCell ⟨pn, 0, none⟩ (.int .i64 (n + 1))).cell? ⟨pw, k, none⟩ = some (.int .u64 x) := (W1 _ _ ha.knw).trans hc
  have c6 : (W.setCell ⟨pn, 0, none⟩ (.int .i64 (n + 1))).frozen? ⟨pf, 0, none⟩ = false := by rw [World.frozen?_setCell]; exact h.ff
  have c7 : ((W.setCell ⟨pn, 0, none⟩ (.int .i64 (n + 1))).setCell ⟨pf, 0, none⟩ (.bool true)).cell? ⟨pl, 0, none⟩ = some (.int .i64 last) := by rw [World.cell?_setCell_far _ _ _ _ ha.kfl]; exact c4
  have c8 : ((W.setCell ⟨pn, 0, none⟩ (.int .i64 (n + 1))).setCell ⟨pf, 0, none⟩ (.bool true)).frozen? ⟨pl, 0, none⟩ = false := by rw [World.frozen?_setCell, World.frozen?_setCell]; exact h.lf
  have hst := h.step ha k
  have c9 := hst.n
  have c10 := hst.m
  clear hst W1 hx hl h ha HS HA hlast hx0 hc
  go_enter Tryd.func19, Tryd.ntmps19
  go_wp2_with fail
  go_ret
  exact ⟨rfl, rfl⟩
theorem getO (ws : List Int) (hl : ws.length = 32) (k : Nat) (hk : k < 32) : getR (ofR ws) k = if 1 ≤ k then ws.getD k 0 else 0 := by
  unfold getR ofR
  rw [if_pos (by omega), Int.toNat_natCast]
  by_cases h : 1 ≤ k
  · rw [if_pos h, List.getD, List.getElem?_set, if_neg (by omega)]; rfl
  · rw [if_neg h]
    obtain rfl : k = 0 := by omega
    rw [List.getD, List.getElem?_set, if_pos rfl, if_pos (by rw [hl]; decide)]; rfl
set_option maxHeartbeats 2000000 in
theorem some1_c (ws : List Int) (hl : ws.length = 32) (most : Int) (pn pf pl pw pm pb fb : Nat) (w0 W : World) (h : SAt W ws most pn pf pl pw pm pb fb 0 0) (ha : Apart pn pf pl pw pm pb fb) (hB : Below w0.heap.size w0 W)
    (b1 : w0.heap.size ≤ pn) (b2 : w0.heap.size ≤ pf) (b3 : w0.heap.size ≤ pl) :
    Calls Tryd.prog 23 #[.func (.func 19) #[] #[.pointer (some ⟨pn, 0, none⟩), .pointer (some ⟨pf, 0, none⟩), .pointer (some ⟨pl, 0, none⟩), .pointer (some ⟨pw, 0, none⟩), .pointer (some ⟨pm, 0, none⟩)], .pointer (some ⟨pb, 0, none⟩)] W
      fun e W' => e = .returned (.tuple #[]) ∧ (∃ last, SAt W' ws most pn pf pl pw pm pb fb (wantS ws most) last) ∧ Below w0.heap.size w0 W' := by
  have HL := Lib.hid hl
  have HO := Lib.hid ((ofR_len ws).trans hl)
  have HS0 := Lib.hid h
  have HA := Lib.hid ha
  have HB0 := Lib.hid hB
  clear h ha hB hl
  go_enter Tryd.func23, Tryd.ntmps23
  go_wp2_with fail
  go_loopw [5] (fun t wr => ∃ (k : Nat) (last : Int), k ≤ 32 ∧ t = .int .i64 k ∧ SAt wr ws most pn pf pl pw pm pb fb (cntS ws k : Nat) last ∧ (last < k ∨ last = 0) ∧ (0 < most → ((cntS ws k : Nat) : Int) < most) ∧ Below w0.heap.size w0 wr) (fun t _ => 32 - (intOf t).toNat)
  case atStart => exact ⟨0, 0, by decide, rfl, HS0.out, .inr rfl, fun h => h, HB0.out⟩
  case round =>
    obtain ⟨k, last, hk, rfl, hS, hlast, hmost, hb⟩ := hrel
    have HS := Lib.hid hS
    have HB := Lib.hid hb
    have HM := Lib.hid hmost
    have HLA := Lib.hid hlast
    have hcb := hS.b
    have hle := cntS_le ws k
    clear hb hmost hlast hS
    by_cases hlt : k < 32
    · have hl2 : (k : Int) < 32 := by omega
      have HG := Lib.hid (getO ws HL.out k hlt)
      have HC := Lib.hid (show cntS ws (k + 1) = cntS ws k + if 1 ≤ k ∧ ws.getD k 0 ≠ 0 then 1 else 0 from rfl)
      by_cases hnz : 1 ≤ k ∧ ws.getD k 0 ≠ 0
      · obtain ⟨x, hx⟩ : ∃ x, ws.getD k 0 = x := ⟨_, rfl⟩
        have HGX := Lib.hid (show getR (ofR ws) k = x by rw [HG.out, if_pos hnz.1, hx])
        have hx0 : (x != 0) = true := by rw [← hx]; simpa using hnz.2
        have hx1 : x ≠ 0 := by rw [← hx]; exact hnz.2
        have HC1 := Lib.hid (show cntS ws (k + 1) = cntS ws k + 1 by rw [HC.out, if_pos hnz])
        have HY := Lib.hid (some2_c ws HL.out most pn pf pl pw pm pb fb (cntS ws k : Nat) last k x _ HS.out HA.out (by omega) (by omega) hlt (by rcases HLA.out with h | h <;> omega) hx hx1)
        have hB5 : Below w0.heap.size w0 (sWorld wr pn pf pl (cntS ws k : Nat) k) := ((HB.out.setCell (p := ⟨pn, 0, none⟩) b1 _).setCell (p := ⟨pf, 0, none⟩) b2 _).setCell (p := ⟨pl, 0, none⟩) b3 _
        have HB5 := Lib.hid hB5
        have HS5 := Lib.hid (HS.out.step HA.out k)
        clear hB5 hx hx1 hnz HC HG
        by_cases hm : ((cntS ws k : Nat) : Int) + 1 = most
        · have em : (((cntS ws k : Nat) : Int) + 1 != most) = false := by simp [hm]
          have HW := Lib.hid (show wantS ws most = ((cntS ws k : Nat) : Int) + 1 by
            have h1 := cntS_mono ws (k + 1) (32 - (k + 1))
            rw [show k + 1 + (32 - (k + 1)) = 32 by omega, HC1.out] at h1
            unfold wantS
            split <;> omega)
          clear hm
          go_wp2_with fail
          refine (get_c _ _ _ HO.out _ _ HS.out.r).mono ?_
          rintro e w1 ⟨rfl, rfl⟩
          rw [HGX.out]
          go_wp2_with fail
          refine HY.out.mono ?_
          rintro e w1 ⟨rfl, rfl⟩
          go_wp2_with fail
          exact bodyPost_ret (v := .tuple #[]) (by simp [results, Tryd.results23, go_sem]) rfl ⟨rfl, ⟨_, by rw [HW.out]; exact HS5.out⟩, HB5.out⟩
        · have em : (((cntS ws k : Nat) : Int) + 1 != most) = true := by simpa using hm
          have HM5 := Lib.hid (show 0 < most → ((cntS ws (k + 1) : Nat) : Int) < most from fun h => by have := HM.out h; rw [HC1.out]; omega)
          clear hm
          go_wp2_with fail
          refine (get_c _ _ _ HO.out _ _ HS.out.r).mono ?_
          rintro e w1 ⟨rfl, rfl⟩
          rw [HGX.out]
          go_wp2_with fail
          refine HY.out.mono ?_
          rintro e w1 ⟨rfl, rfl⟩
          go_wp2_with fail
          go_roundw
          case rel => exact ⟨k + 1, k, by omega, by go_num, by rw [HC1.out]; exact HS5.out, .inl (by omega), HM5.out, HB5.out⟩
          case measure => simp [intOf]; omega
      · have HGX := Lib.hid (show getR (ofR ws) k = 0 by
          rw [HG.out]
          by_cases h1 : 1 ≤ k
          · rw [if_pos h1]; exact Classical.byContradiction fun hne => hnz ⟨h1, hne⟩
          · rw [if_neg h1])
        have HC1 := Lib.hid (show cntS ws (k + 1) = cntS ws k by rw [HC.out, if_neg hnz]; rfl)
        clear hnz HC HG
        go_wp2_with fail
        refine (get_c _ _ _ HO.out _ _ HS.out.r).mono ?_
        rintro e w1 ⟨rfl, rfl⟩
        rw [HGX.out]
        go_wp2_with fail
        go_roundw
        case rel => exact ⟨k + 1, last, by omega, by go_num, by rw [HC1.out]; exact HS.out, (by rcases HLA.out with h | h; exact .inl (by omega); exact .inr h), by rw [HC1.out]; exact HM.out, HB.out⟩
        case measure => simp [intOf]; omega
    · obtain rfl : k = 32 := by omega
      have HW := Lib.hid (show wantS ws most = (cntS ws 32 : Nat) by
        unfold wantS
        split
        · rename_i h; have := HM.out h.1; omega
        · rfl)
      go_wp2_with fail
      exact bodyPost_end (v := .tuple #[]) (by simp [results, Tryd.results23, go_sem]) rfl ⟨rfl, ⟨_, by rw [HW.out]; exact HS.out⟩, HB.out⟩
end Go.Proofs.YtbhmnkamfkadiaaDoor
