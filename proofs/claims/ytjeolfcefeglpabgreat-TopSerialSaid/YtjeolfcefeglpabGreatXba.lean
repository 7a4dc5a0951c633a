/-
  Contracts of shard: May. Contracts of shard: Writes, Conf, Ram, New, Needs, and what none does. Contract of shard: New.
-/
import Derived.Test.YtjeolfcefeglpabGreatXaz
set_option maxRecDepth 20000
namespace Go.Proofs.YtjeolfcefeglpabGreat
open Go.ChangeShapes Go.WideShapes Go.ChangeAt Go.RowKit Wd

/-- Number i, which isn't wanted, first. -/
theorem skipH {P : Program} {ops : Array Oper} {S : World → Prop} {md : Region.Mode} {Q : Exit → Act → World → Prop} {i : Nat} {oi : Oper} {fuel : Nat} {listed : Array Bool} {a : Act} {w : World} (b : Act) (hi : ops[i]? = some oi) (hs : Region.noSelect ops = true) (hf : Region.free md ops listed i = true) (hr : (Region.ready md ops listed).contains i = true)
    (hQ : ∀ c a w, Q (.panic c) (a.put oi.dst undef) w → Q (.panic c) a w) (hw : Region.wanted oi (yielded ops a.tmps) = false) (hS : S w) (hb : a.put oi.dst undef = b)
    (h : wpAnyH P md ops Q S fuel (listed.setIfInBounds i true) b w) : wpAnyH P md ops Q S (fuel + 1) listed a w :=
  wpAnyH_take hi hs hf hr hQ (Or.inr ⟨hw, rfl⟩) hS (hb ▸ h)
theorem pcIn_pieces (a : Ak) (ha : a.In) : PcIn (Sh.pcs a) := fun p hp => by
  have h := Sp.pieces_ok (c := a.cut) (n := a.size) (a := a.addr) (b := a.next) (by have := ha.addr; omega) (by have := ha.next; omega) p hp
  exact ⟨h.a0, h.a1, by have := h.n0; omega, by have := h.n1; omega⟩
set_option maxHeartbeats 4000000 in
theorem smay_c (a : Ak) (ha : a.In) {sb rb mb : Nat} {c : Cf} {B : List Int} {T : Rv.Tb} (w : World) (h : ShAt w sb rb mb c B T) :
    Calls Tryz.prog 28 #[.pointer (some ⟨sb, 0, none⟩), .agg (akC a)] w fun e w' => e = .returned (.bool (Sh.mayB c.lines.toNat a)) ∧ Below w.heap.size w w' := by
  have hb0 := box_below w (akC a) AKT
  have HS := Lib.hid (h.low hb0)
  have HA := Lib.hid (akAt_new w a)
  have HB := Lib.hid hb0
  have HF := Lib.hid (fun W => formed_c a ha W)
  have HX := Lib.hid (fun W => saccess_c a W)
  have HP := Lib.hid (fun W => pieces_c a.addr a.next a.cut a.size W (by have := ha.addr; omega) (by have := ha.next; omega))
  have HPI := Lib.hid (pcIn_pieces a ha)
  have hll := Sp.pieces_len a.addr a.next a.cut a.size
  have HM := Lib.hid (show Sh.mayB c.lines.toNat a = (formB a && (Sh.pcs a).all fun p => hasB c.lines.toNat p.a p.n) from rfl)
  generalize Sh.mayB c.lines.toNat a = mv at *
  clear h hb0
  go_enter Tryz.func28, Tryz.ntmps28
  go_upto_region 1 with fail
  generalize w.alloc (.cells (akC a) AKT) = w1 at *
  refine wp_region_noPanic ?_
  refine wp_region_held (S := fun W => ShAt W sb rb mb c B T ∧ AkAt W w.heap.size a ∧ Below w.heap.size w W) (by kernel_rfl) ?_
  have hS0 : ShAt w1.drew sb rb mb c B T ∧ AkAt w1.drew w.heap.size a ∧ Below w.heap.size w w1.drew := ⟨HS.out.drew, HA.out.low (Below.refl _ _).drew, HB.out.drew⟩
  refine takeH (fuel := 16) (i := 0) (.pointer (some ⟨sb, 0, none⟩)) ?_ rfl (by kernel_rfl) (by kernel_rfl) (by kernel_rfl) (fun _ _ _ h => h) (by kernel_rfl) (fun W hS => by go_simp) hS0 ?_ ?_
  rotate_left 1
  · go_simp
    exact rfl
  refine takeH (fuel := 15) (i := 1) (.bool true) ?_ rfl (by kernel_rfl) (by kernel_rfl) (by kernel_rfl) (fun _ _ _ h => h) (by kernel_rfl) (fun W hS => by go_simp) hS0 ?_ ?_
  rotate_left 1
  · go_simp
    exact rfl
  refine takeH (fuel := 14) (i := 2) (.bool true) ?_ rfl (by kernel_rfl) (by kernel_rfl) (by kernel_rfl) (fun _ _ _ h => h) (by kernel_rfl) (fun W hS => by go_simp) hS0 ?_ ?_
  rotate_left 1
  · go_simp
    exact rfl
  refine takeH (fuel := 13) (i := 3) (.agg (akC a)) ?_ rfl (by kernel_rfl) (by kernel_rfl) (by kernel_rfl) (fun _ _ _ h => h) (by kernel_rfl) (fun W hS => exec_load_row AKT _ rfl w.heap.size rfl AKT _ _ hS.2.1.cs Tryz.underlying58 rfl info_ak) hS0 ?_ ?_
  rotate_left 1
  · go_simp
    exact rfl
  refine wpAnyH_all (fuel := 12) (rs := [4]) (by kernel_rfl) (by decide) ?_
  intro i hi
  obtain rfl : i = 4 := by simpa using hi
  refine wpOp_callX 59 #[.agg (akC a)] rfl (by kernel_rfl) (by go_simp) ?_
  refine (HF.out w1.drew).mono ?_
  rintro e w2 ⟨rfl, hb2⟩
  have hS1 : ShAt w2 sb rb mb c B T ∧ AkAt w2 w.heap.size a ∧ Below w.heap.size w w2 := ⟨hS0.1.low hb2, hS0.2.1.low hb2, hS0.2.2.trans (hb2.mono hS0.2.2.size)⟩
  clear hS0 hb2 HS HA HB HF
  refine ⟨_, rfl, hS1, ?_⟩
  cases hf : formB a
  · have HE := Lib.hid (show mv = false by rw [HM.out, hf]; rfl)
    clear HM hf
    refine takeH (fuel := 11) (i := 5) (.bool false) ?_ rfl (by kernel_rfl) (by kernel_rfl) (by kernel_rfl) (fun _ _ _ h => h) (by kernel_rfl) (fun W hS => by go_simp) hS1 ?_ ?_
    rotate_left 1
    · go_simp
      exact rfl
    refine takeH (fuel := 10) (i := 6) (.bool false) ?_ rfl (by kernel_rfl) (by kernel_rfl) (by kernel_rfl) (fun _ _ _ h => h) (by kernel_rfl) (fun W hS => by go_simp) hS1 ?_ ?_
    rotate_left 1
    · go_simp
      exact rfl
    refine skipH (S := fun W => ShAt W sb rb mb c B T ∧ AkAt W w.heap.size a ∧ Below w.heap.size w W) (fuel := 9) (i := 7) ?_ rfl (by kernel_rfl) (by kernel_rfl) (by kernel_rfl) (fun _ _ _ h => h) (by kernel_rfl) hS1 ?_ ?_
    rotate_left 1
    · go_simp
      exact rfl
    refine skipH (S := fun W => ShAt W sb rb mb c B T ∧ AkAt W w.heap.size a ∧ Below w.heap.size w W) (fuel := 8) (i := 8) ?_ rfl (by kernel_rfl) (by kernel_rfl) (by kernel_rfl) (fun _ _ _ h => h) (by kernel_rfl) hS1 ?_ ?_
    rotate_left 1
    · go_simp
      exact rfl
    refine skipH (S := fun W => ShAt W sb rb mb c B T ∧ AkAt W w.heap.size a ∧ Below w.heap.size w W) (fuel := 7) (i := 9) ?_ rfl (by kernel_rfl) (by kernel_rfl) (by kernel_rfl) (fun _ _ _ h => h) (by kernel_rfl) hS1 ?_ ?_
    rotate_left 1
    · go_simp
      exact rfl
    refine skipH (S := fun W => ShAt W sb rb mb c B T ∧ AkAt W w.heap.size a ∧ Below w.heap.size w W) (fuel := 6) (i := 10) ?_ rfl (by kernel_rfl) (by kernel_rfl) (by kernel_rfl) (fun _ _ _ h => h) (by kernel_rfl) hS1 ?_ ?_
    rotate_left 1
    · go_simp
      exact rfl
    refine skipH (S := fun W => ShAt W sb rb mb c B T ∧ AkAt W w.heap.size a ∧ Below w.heap.size w W) (fuel := 5) (i := 11) ?_ rfl (by kernel_rfl) (by kernel_rfl) (by kernel_rfl) (fun _ _ _ h => h) (by kernel_rfl) hS1 ?_ ?_
    rotate_left 1
    · go_simp
      exact rfl
    refine skipH (S := fun W => ShAt W sb rb mb c B T ∧ AkAt W w.heap.size a ∧ Below w.heap.size w W) (fuel := 4) (i := 12) ?_ rfl (by kernel_rfl) (by kernel_rfl) (by kernel_rfl) (fun _ _ _ h => h) (by kernel_rfl) hS1 ?_ ?_
    rotate_left 1
    · go_simp
      exact rfl
    refine skipH (S := fun W => ShAt W sb rb mb c B T ∧ AkAt W w.heap.size a ∧ Below w.heap.size w W) (fuel := 3) (i := 13) ?_ rfl (by kernel_rfl) (by kernel_rfl) (by kernel_rfl) (fun _ _ _ h => h) (by kernel_rfl) hS1 ?_ ?_
    rotate_left 1
    · go_simp
      exact rfl
    refine skipH (S := fun W => ShAt W sb rb mb c B T ∧ AkAt W w.heap.size a ∧ Below w.heap.size w W) (fuel := 2) (i := 14) ?_ rfl (by kernel_rfl) (by kernel_rfl) (by kernel_rfl) (fun _ _ _ h => h) (by kernel_rfl) hS1 ?_ ?_
    rotate_left 1
    · go_simp
      exact rfl
    refine takeH (fuel := 1) (i := 15) (.bool false) ?_ rfl (by kernel_rfl) (by kernel_rfl) (by kernel_rfl) (fun _ _ _ h => h) (by kernel_rfl) (fun W hS => by go_simp) hS1 ?_ ?_
    rotate_left 1
    · go_simp
      exact rfl
    refine takeH (fuel := 0) (i := 16) (.bool false) ?_ rfl (by kernel_rfl) (by kernel_rfl) (by kernel_rfl) (fun _ _ _ h => h) (by kernel_rfl) (fun W hS => by go_simp) hS1 ?_ ?_
    rotate_left 1
    · go_simp
      exact rfl
    refine wpAnyH_done (by kernel_rfl) ?_ _
    refine NoPanic.normal ?_
    have HB2 := Lib.hid hS1.2.2
    clear hS1
    go_wp2_with fail
    go_ret
    exact ⟨by rw [HE.out]; rfl, HB2.out⟩
  · have HE := Lib.hid (show mv = (Sh.pcs a).all fun p => hasB c.lines.toNat p.a p.n by rw [HM.out, hf]; rfl)
    clear HM hf
    refine takeH (fuel := 11) (i := 5) (.bool true) ?_ rfl (by kernel_rfl) (by kernel_rfl) (by kernel_rfl) (fun _ _ _ h => h) (by kernel_rfl) (fun W hS => by go_simp) hS1 ?_ ?_
    rotate_left 1
    · go_simp
      exact rfl
    refine takeH (fuel := 10) (i := 6) (.bool true) ?_ rfl (by kernel_rfl) (by kernel_rfl) (by kernel_rfl) (fun _ _ _ h => h) (by kernel_rfl) (fun W hS => by go_simp) hS1 ?_ ?_
    rotate_left 1
    · go_simp
      exact rfl
    refine takeH (fuel := 9) (i := 7) (.pointer (some ⟨sb, 0, none⟩)) ?_ rfl (by kernel_rfl) (by kernel_rfl) (by kernel_rfl) (fun _ _ _ h => h) (by kernel_rfl) (fun W hS => by go_simp) hS1 ?_ ?_
    rotate_left 1
    · go_simp
      exact rfl
    refine takeH (fuel := 8) (i := 8) (.pointer (some ⟨sb, 0, none⟩)) ?_ rfl (by kernel_rfl) (by kernel_rfl) (by kernel_rfl) (fun _ _ _ h => h) (by kernel_rfl) (fun W hS => by go_simp) hS1 ?_ ?_
    rotate_left 1
    · go_simp
      exact rfl
    refine takeH (fuel := 7) (i := 9) (.pointer (some ⟨sb, 0, none⟩)) ?_ rfl (by kernel_rfl) (by kernel_rfl) (by kernel_rfl) (fun _ _ _ h => h) (by kernel_rfl) (fun W hS => by go_simp) hS1 ?_ ?_
    rotate_left 1
    · go_simp
      exact rfl
    refine takeH (fuel := 6) (i := 10) (.agg #[.pointer (some ⟨rb, 0, none⟩)]) ?_ rfl (by kernel_rfl) (by kernel_rfl) (by kernel_rfl) (fun _ _ _ h => h) (by kernel_rfl) (fun W hS => exec_load_mid (cs := [.pointer (some ⟨rb, 0, none⟩)]) MMT _ rfl sb 0 rfl _ hS.1.ramR Tryz.underlying87 rfl (by kernel_rfl)) hS1 ?_ ?_
    rotate_left 1
    · go_simp
      exact rfl
    refine takeH (fuel := 5) (i := 11) (.agg (akC a)) ?_ rfl (by kernel_rfl) (by kernel_rfl) (by kernel_rfl) (fun _ _ _ h => h) (by kernel_rfl) (fun W hS => exec_load_row AKT _ rfl w.heap.size rfl AKT _ _ hS.2.1.cs Tryz.underlying58 rfl info_ak) hS1 ?_ ?_
    rotate_left 1
    · go_simp
      exact rfl
    refine wpAnyH_all (fuel := 4) (rs := [12]) (by kernel_rfl) (by decide) ?_
    intro i hi
    obtain rfl : i = 12 := by simpa using hi
    refine wpOp_callX 30 #[.agg (akC a)] rfl (by kernel_rfl) (by go_simp) ?_
    refine (HX.out w2).mono ?_
    rintro e w3 ⟨rfl, hb3⟩
    have hS2 : ShAt w3 sb rb mb c B T ∧ AkAt w3 w.heap.size a ∧ Below w.heap.size w w3 := ⟨hS1.1.low hb3, hS1.2.1.low hb3, hS1.2.2.trans (hb3.mono hS1.2.2.size)⟩
    clear hS1 hb3 HX
    refine ⟨_, rfl, hS2, ?_⟩
    refine wpAnyH_all (fuel := 3) (rs := [13]) (by kernel_rfl) (by decide) ?_
    intro i hi
    obtain rfl : i = 13 := by simpa using hi
    refine wpOp_callX 36 #[.agg (axV a.addr a.next a.cut a.size)] rfl (by kernel_rfl) (by go_simp) ?_
    refine (HP.out w3).mono ?_
    rintro e w4 ⟨v4, rfl, hown, hb4⟩
    have hS3 : ShAt w4 sb rb mb c B T ∧ AkAt w4 w.heap.size a ∧ Below w.heap.size w w4 := ⟨hS2.1.low hb4, hS2.2.1.low hb4, hS2.2.2.trans (hb4.mono hS2.2.2.size)⟩
    have hown : w4.ownsRow w3.heap.size PCT 3 v4 (Sh.pcs a).length (Sp.cellsOf (Sh.pcs a)) := hown
    obtain ⟨p, cap, rfl, -, -, -⟩ := own_form hown
    have HO := Lib.hid hown
    clear hS2 hb4 HP hown
    have hll : (Sh.pcs a).length ≤ 4 := hll
    generalize Sh.pcs a = l at *
    refine ⟨_, rfl, hS3, ?_⟩
    refine wpAnyH_all (fuel := 2) (rs := [14]) (by kernel_rfl) (by decide) ?_
    intro i hi
    obtain rfl : i = 14 := by simpa using hi
    refine wpOp_callX 60 #[.agg #[.pointer (some ⟨rb, 0, none⟩)], .slice p l.length cap] rfl (by kernel_rfl) (by go_simp) ?_
    refine (holds_c p cap w3.heap.size l w4 hS3.1.ram HO.out HPI.out hll).mono ?_
    rintro e w5 ⟨rfl, hb5⟩
    have hS4 : ShAt w5 sb rb mb c B T ∧ AkAt w5 w.heap.size a ∧ Below w.heap.size w w5 := ⟨hS3.1.low hb5, hS3.2.1.low hb5, hS3.2.2.trans (hb5.mono hS3.2.2.size)⟩
    clear hS3 hb5
    refine ⟨_, rfl, hS4, ?_⟩
    generalize (l.all fun p => hasB c.lines.toNat p.a p.n) = bv at *
    refine takeH (fuel := 1) (i := 15) (.bool bv) ?_ rfl (by kernel_rfl) (by kernel_rfl) (by kernel_rfl) (fun _ _ _ h => h) (by kernel_rfl) (fun W hS => by go_simp) hS4 ?_ ?_
    rotate_left 1
    · go_simp
      exact rfl
    refine takeH (fuel := 0) (i := 16) (.bool bv) ?_ rfl (by kernel_rfl) (by kernel_rfl) (by kernel_rfl) (fun _ _ _ h => h) (by kernel_rfl) (fun W hS => by go_simp) hS4 ?_ ?_
    rotate_left 1
    · go_simp
      exact rfl
    refine wpAnyH_done (by kernel_rfl) ?_ _
    refine NoPanic.normal ?_
    have HB2 := Lib.hid hS4.2.2
    clear hS4
    go_wp2_with fail
    go_ret
    exact ⟨by rw [HE.out]; rfl, HB2.out⟩
end Go.Proofs.YtjeolfcefeglpabGreat
set_option maxRecDepth 20000
namespace Go.Proofs.YtjeolfcefeglpabGreat
open Go.ChangeShapes Go.WideShapes Go.ChangeAt Go.RowKit Wd

abbrev ANT : TypeId := 66
/-- An answer without mail. -/
def anC (d : Int) (g : Bool) : Array Value := #[.int .u64 d, .bool g, .bool false, .bool false, .bool false, .int .u64 0, .int .i64 0, .bool false, .bool false, .bool false, .int .u64 0, .int .i64 0, .bool false, .bool false, .bool false, .int .u64 0, .int .i64 0, .bool false, .bool false, .bool false, .int .u64 0, .int .i64 0, .bool false, .bool false, .bool false, .int .u64 0, .int .i64 0, .bool false, .bool false, .bool false, .int .u64 0, .int .i64 0, .bool false, .bool false, .bool false, .int .u64 0, .int .i64 0, .bool false, .bool false, .bool false, .int .u64 0, .int .i64 0]
theorem anC_size (d : Int) (g : Bool) : (anC d g).size = 42 := rfl
theorem anC_one (d : Int) (g : Bool) : (anC d g).all (·.oneCell') = true := by simp [anC, Value.oneCell']
theorem info_an : (Tryz.prog.info? ANT).map (·.size) = some 42 := by kernel_rfl
theorem zero_an : (#[.int .u64 0, .bool false, .bool false, .bool false, .bool false, .int .u64 0, .int .i64 0, .bool false, .bool false, .bool false, .int .u64 0, .int .i64 0, .bool false, .bool false, .bool false, .int .u64 0, .int .i64 0, .bool false, .bool false, .bool false, .int .u64 0, .int .i64 0, .bool false, .bool false, .bool false, .int .u64 0, .int .i64 0, .bool false, .bool false, .bool false, .int .u64 0, .int .i64 0, .bool false, .bool false, .bool false, .int .u64 0, .int .i64 0, .bool false, .bool false, .bool false, .int .u64 0, .int .i64 0] : Array Value) = anC 0 false := rfl
theorem anC_setD (d x : Int) (g : Bool) : (anC d g).setIfInBounds 0 (.int .u64 x) = anC x g := rfl
theorem anC_setG (d : Int) (g h : Bool) : (anC d g).setIfInBounds 1 (.bool h) = anC d h := rfl
theorem setAn {w : World} {b : Nat} {t : TypeId} {cs : Array Value} (h : CsAt w b t cs) (i : Nat) (v : Value) : CsAt (w.setCell ⟨b, i, none⟩ v) b t (cs.setIfInBounds i v) := heap_setCell_same w b i _ t _ h
set_option maxHeartbeats 2000000 in
theorem swrites_c (a : Ak) (cs : Array Value) (g : Bool) (hg : cs[1]? = some (.bool g)) (w : World) : Calls Tryz.prog 43 #[.agg (akC a), .agg cs] w fun e w' => e = .returned (.bool (Sh.wrB a.kind g)) ∧ Below w.heap.size w w' := by
  have hb1 := box_below w (akC a) AKT
  have HB := Lib.hid (hb1.trans ((box_below (w.alloc (.cells (akC a) AKT)) cs ANT).mono hb1.size))
  have HA := ((akAt_new w a).low (box_below (w.alloc (.cells (akC a) AKT)) cs ANT)).kind
  have hz : (w.alloc (.cells (akC a) AKT)).heap.size = w.heap.size + 1 := by simp
  have HG : ((w.alloc (.cells (akC a) AKT)).alloc (.cells cs ANT)).cell? ⟨w.heap.size + 1, 1, none⟩ = some (.bool g) := by rw [← hz]; exact ((CsAt.new _ ANT cs).cell 1).trans hg
  have HE := Lib.hid (show Sh.wrB a.kind g = (decide (a.kind = 3 ∨ a.kind = 4) || (decide (a.kind = 6 ∨ a.kind = 8) && g)) from rfl)
  generalize Sh.wrB a.kind g = r at *
  generalize a.kind = kd at *
  clear hb1 hg hz
  go_enter Tryz.func43, Tryz.ntmps43
  go_upto_region 1 with fail
  generalize (w.alloc (.cells (akC a) AKT)).alloc (.cells cs ANT) = w1 at *
  by_cases k3 : kd = 3
  · subst k3
    go_wp2_with fail
    go_ret
    exact ⟨by rw [HE.out]; rfl, HB.out⟩
  · by_cases k4 : kd = 4
    · subst k4
      go_wp2_with fail
      go_ret
      exact ⟨by rw [HE.out]; rfl, HB.out⟩
    · have g3 : (kd == 3) = false := by simpa using k3
      have g4 : (kd == 4) = false := by simpa using k4
      have h34 : decide (kd = 3 ∨ kd = 4) = false := decide_eq_false (by omega)
      rw [h34] at HE
      clear h34
      by_cases k6 : kd = 6
      · subst k6
        clear k3 k4
        go_wp2_with fail
        go_ret
        exact ⟨by rw [HE.out]; rfl, HB.out⟩
      · by_cases k8 : kd = 8
        · subst k8
          clear k3 k4 k6
          go_wp2_with fail
          go_ret
          exact ⟨by rw [HE.out]; rfl, HB.out⟩
        · have g6 : (kd == 6) = false := by simpa using k6
          have g8 : (kd == 8) = false := by simpa using k8
          have h68 : decide (kd = 6 ∨ kd = 8) = false := decide_eq_false (by omega)
          rw [h68] at HE
          clear h68 k3 k4 k6 k8
          go_wp2_with fail
          go_ret
          exact ⟨by rw [HE.out]; rfl, HB.out⟩
theorem sram_nil (w : World) : Calls Tryz.prog 18 #[.pointer none] w fun e w' => e = .returned (.pointer none) ∧ w = w' := by
  go_enter Tryz.func18, Tryz.ntmps18
  go_wp2_with fail
  go_ret
  exact ⟨rfl, rfl⟩
theorem sram_c {sb rb mb : Nat} {c : Cf} {B : List Int} {T : Rv.Tb} (w : World) (h : ShAt w sb rb mb c B T) : Calls Tryz.prog 18 #[.pointer (some ⟨sb, 0, none⟩)] w fun e w' => e = .returned (.pointer (some ⟨rb, 0, none⟩)) ∧ w = w' := by
  have c0 := h.c0
  clear h
  go_enter Tryz.func18, Tryz.ntmps18
  go_wp2_with fail
  go_ret
  exact ⟨rfl, rfl⟩
theorem smay_nil (a : Ak) (w : World) : Calls Tryz.prog 28 #[.pointer none, .agg (akC a)] w fun e w' => e = .returned (.bool false) ∧ Below w.heap.size w w' := by
  have HB := Lib.hid (box_below w (akC a) AKT)
  go_enter Tryz.func28, Tryz.ntmps28
  go_upto_region 1 with fail
  generalize w.alloc (.cells (akC a) AKT) = w1 at *
  go_quiet (fail)
  have HB2 := Lib.hid (below_dnI HB.out nq)
  go_wp2_with fail
  go_ret
  exact ⟨rfl, HB2.out⟩
set_option maxHeartbeats 2000000 in
theorem sneeds_nil (a : Ak) (w : World) : Calls Tryz.prog 10 #[.pointer none, .agg (akC a)] w fun e w' => e = .returned (.slice none 0 0) ∧ Below w.heap.size w w' := by
  have HB := Lib.hid (box_below w (akC a) AKT)
  have HA := Lib.hid (akAt_new w a)
  go_enter Tryz.func10, Tryz.ntmps10
  go_upto_region 1 with fail
  generalize w.alloc (.cells (akC a) AKT) = w1 at *
  go_wp2_with (refine wpList_load_row rfl AKT _ rfl w.heap.size rfl AKT (akC a) (0, 0) _ HA.out.cs Tryz.underlying58 rfl info_ak ?_)
  refine (smay_nil a w1).mono ?_
  rintro e w2 ⟨rfl, hb2⟩
  have HB2 := Lib.hid (HB.out.trans (hb2.mono HB.out.size))
  clear hb2
  go_wp2_with fail
  go_ret
  exact ⟨rfl, HB2.out⟩
/-- The stripes that an ask needs. -/
def Sh.needS (c : Cf) (a : Ak) : List Int := if Sh.mayB c.lines.toNat a then Srt.set (stL (Sh.pcs a) c.stripes) else []
set_option maxHeartbeats 4000000 in
theorem sneeds_c (a : Ak) (ha : a.In) {sb rb mb : Nat} {c : Cf} {B : List Int} {T : Rv.Tb} (w : World) (h : ShAt w sb rb mb c B T) :
    Calls Tryz.prog 10 #[.pointer (some ⟨sb, 0, none⟩), .agg (akC a)] w fun e w' => ∃ v, e = .returned v ∧ w'.ownsRow w.heap.size 3 1 v (Sh.needS c a).length (iV (Sh.needS c a)) ∧ Below w.heap.size w w' := by
  have hb0 := box_below w (akC a) AKT
  have HS := Lib.hid (h.low hb0)
  have HA := Lib.hid (akAt_new w a)
  have HB := Lib.hid hb0
  have HM := Lib.hid (fun W (H : ShAt W sb rb mb c B T) => smay_c a ha W H)
  have HX := Lib.hid (fun W => saccess_c a W)
  have HP := Lib.hid (fun W => stripes_c a.addr a.next a.cut a.size c.stripes W (by have := ha.addr; omega) (by have := ha.next; omega) (by have := h.conf; omega))
  have HN := Lib.hid (show Sh.needS c a = if Sh.mayB c.lines.toNat a then Srt.set (stL (Sh.pcs a) c.stripes) else [] from rfl)
  generalize Sh.needS c a = ns at *
  generalize Sh.mayB c.lines.toNat a = mv at *
  have HSZ := Lib.hid (show w.heap.size ≤ (w.alloc (.cells (akC a) AKT)).heap.size by simp)
  clear h hb0
  go_enter Tryz.func10, Tryz.ntmps10
  go_upto_region 1 with fail
  generalize w.alloc (.cells (akC a) AKT) = w1 at *
  go_wp2_with (refine wpList_load_row rfl AKT _ rfl w.heap.size rfl AKT (akC a) (0, 0) _ HA.out.cs Tryz.underlying58 rfl info_ak ?_)
  refine (HM.out w1 HS.out).mono ?_
  rintro e w2 ⟨rfl, hb2⟩
  have HS2 := Lib.hid (HS.out.low hb2)
  have HA2 := Lib.hid (HA.out.low hb2)
  have HB2 := Lib.hid (HB.out.trans (hb2.mono HB.out.size))
  clear hb2 HS HA HB HM
  cases mv
  · have HE := Lib.hid (show ns = [] from HN.out)
    go_wp2_with fail
    go_ret
    refine ⟨_, rfl, ?_, HB2.out⟩
    rw [HE.out]
    exact World.ownsRow_nil _ _ _ _
  · have HE := Lib.hid (show ns = Srt.set (stL (Sh.pcs a) c.stripes) from HN.out)
    clear HN
    go_upto_region 3 with fail
    refine wp_region_noPanic ?_
    refine wp_region_held (S := fun W => ShAt W sb rb mb c B T ∧ AkAt W w.heap.size a ∧ Below w.heap.size w W) (by kernel_rfl) ?_
    have hS0 : ShAt w2.drew sb rb mb c B T ∧ AkAt w2.drew w.heap.size a ∧ Below w.heap.size w w2.drew := ⟨HS2.out.drew, HA2.out.low (Below.refl _ _).drew, HB2.out.drew⟩
    refine takeH (fuel := 8) (i := 0) (.agg (akC a)) ?_ rfl (by kernel_rfl) (by kernel_rfl) (by kernel_rfl) (fun _ _ _ h => h) (by kernel_rfl) (fun W hS => exec_load_row AKT _ rfl w.heap.size rfl AKT _ _ hS.2.1.cs Tryz.underlying58 rfl info_ak) hS0 ?_ ?_
    rotate_left 1
    · go_simp
      exact rfl
    refine takeH (fuel := 7) (i := 2) (.pointer (some ⟨sb, 0, none⟩)) ?_ rfl (by kernel_rfl) (by kernel_rfl) (by kernel_rfl) (fun _ _ _ h => h) (by kernel_rfl) (fun W hS => by go_simp) hS0 ?_ ?_
    rotate_left 1
    · go_simp
      exact rfl
    refine takeH (fuel := 6) (i := 3) (.pointer (some ⟨sb, 0, none⟩)) ?_ rfl (by kernel_rfl) (by kernel_rfl) (by kernel_rfl) (fun _ _ _ h => h) (by kernel_rfl) (fun W hS => by go_simp) hS0 ?_ ?_
    rotate_left 1
    · go_simp
      exact rfl
    refine takeH (fuel := 5) (i := 4) (.pointer (some ⟨sb, 1, none⟩)) ?_ rfl (by kernel_rfl) (by kernel_rfl) (by kernel_rfl) (fun _ _ _ h => h) (by kernel_rfl) (fun W hS => by go_simp) hS0 ?_ ?_
    rotate_left 1
    · go_simp
      exact rfl
    refine takeH (fuel := 4) (i := 5) (.pointer (some ⟨sb, 2, none⟩)) ?_ rfl (by kernel_rfl) (by kernel_rfl) (by kernel_rfl) (fun _ _ _ h => h) (by kernel_rfl) (fun W hS => by go_simp) hS0 ?_ ?_
    rotate_left 1
    · go_simp
      exact rfl
    refine takeH (fuel := 3) (i := 6) (.int .i64 c.stripes) ?_ rfl (by kernel_rfl) (by kernel_rfl) (by kernel_rfl) (fun _ _ _ h => h) (by kernel_rfl) (fun W hS => by have k1 := hS.1.k1; go_simp) hS0 ?_ ?_
    rotate_left 1
    · go_simp
      exact rfl
    refine wpAnyH_all (fuel := 2) (rs := [1]) (by kernel_rfl) (by decide) ?_
    intro i hi
    obtain rfl : i = 1 := by simpa using hi
    refine wpOp_callX 30 #[.agg (akC a)] rfl (by kernel_rfl) (by go_simp) ?_
    refine (HX.out w2.drew).mono ?_
    rintro e w3 ⟨rfl, hb3⟩
    have hS2 : ShAt w3 sb rb mb c B T ∧ AkAt w3 w.heap.size a ∧ Below w.heap.size w w3 := ⟨hS0.1.low hb3, hS0.2.1.low hb3, hS0.2.2.trans (hb3.mono hS0.2.2.size)⟩
    clear hS0 hb3 HX HS2 HA2 HB2
    refine ⟨_, rfl, hS2, ?_⟩
    refine wpAnyH_all (fuel := 1) (rs := [7]) (by kernel_rfl) (by decide) ?_
    intro i hi
    obtain rfl : i = 7 := by simpa using hi
    refine wpOp_callX 29 #[.agg (axV a.addr a.next a.cut a.size), .int .i64 c.stripes] rfl (by kernel_rfl) (by go_simp) ?_
    refine (HP.out w3).mono ?_
    rintro e w4 ⟨v4, rfl, hown, hb4⟩
    have hS3 : ShAt w4 sb rb mb c B T ∧ AkAt w4 w.heap.size a ∧ Below w.heap.size w w4 := ⟨hS2.1.low hb4, hS2.2.1.low hb4, hS2.2.2.trans (hb4.mono hS2.2.2.size)⟩
    have HO := Lib.hid (show w4.ownsRow w.heap.size 3 1 v4 ns.length (iV ns) by rw [HE.out]; exact own_mono hown hS2.2.2.size)
    clear hS2 hb4 HP hown
    refine ⟨_, rfl, hS3, ?_⟩
    refine takeH (fuel := 0) (i := 8) (v4) ?_ rfl (by kernel_rfl) (by kernel_rfl) (by kernel_rfl) (fun _ _ _ h => h) (by kernel_rfl) (fun W hS => by go_simp) hS3 ?_ ?_
    rotate_left 1
    · go_simp
      exact rfl
    refine wpAnyH_done (by kernel_rfl) ?_ _
    refine NoPanic.normal ?_
    have HB3 := Lib.hid hS3.2.2
    clear hS3
    go_wp2_with fail
    go_ret
    exact ⟨_, rfl, HO.out, HB3.out⟩
end Go.Proofs.YtjeolfcefeglpabGreat
set_option maxRecDepth 20000
namespace Go.Proofs.YtjeolfcefeglpabGreat
open Go.ChangeShapes Go.WideShapes Go.ChangeAt Go.RowKit Wd

abbrev SHT : TypeId := 94
abbrev shC (rb : Nat) (c : Cf) : Array Value := #[.pointer (some ⟨rb, 0, none⟩), .int .i64 c.harts, .int .i64 c.stripes, .int .i64 c.lines, .int .i64 c.tlb, .int .u64 0, .bool false, .int .u64 0, .bool false, .int .u64 0, .bool false, .int .u64 0, .bool false, .int .u64 0, .bool false, .int .u64 0, .bool false, .int .u64 0, .bool false, .int .u64 0, .bool false]
theorem sh_new {w : World} {rb mb : Nat} {c : Cf} {B : List Int} (hc : rightS c = true) (h : RamAt w rb mb c.lines.toNat B) : ShAt (w.alloc (.cells (shC rb c) SHT)) w.heap.size rb mb c B Rv.none_ := by
  have hn := CsAt.new w SHT (shC rb c)
  have hb := box_below w (shC rb c) SHT
  refine ⟨hc, h.low hb, hn.cell 0, hn.cell 1, hn.cell 2, hn.cell 3, hn.cell 4, ⟨Rv.none_ok, ?_, ?_, fun j => hn.frozen j⟩, ?_, ?_⟩
  · intro k hk
    obtain rfl | rfl | rfl | rfl | rfl | rfl | rfl | rfl : k = 0 ∨ k = 1 ∨ k = 2 ∨ k = 3 ∨ k = 4 ∨ k = 5 ∨ k = 6 ∨ k = 7 := by omega
    all_goals exact hn.cell _
  · intro k hk
    obtain rfl | rfl | rfl | rfl | rfl | rfl | rfl | rfl : k = 0 ∨ k = 1 ∨ k = 2 ∨ k = 3 ∨ k = 4 ∨ k = 5 ∨ k = 6 ∨ k = 7 := by omega
    all_goals exact hn.cell _
  · have := h.lt; omega
  · have := h.mlt; omega
theorem snew_no (c : Cf) (hc : rightS c = false) (w : World) : Calls Tryz.prog 5 #[.agg (cfC c)] w fun e w' => e = .returned (.tuple #[.pointer none, .int .i64 1]) ∧ Below w.heap.size w w' := by
  have HB := Lib.hid (box_below w (cfC c) CFT)
  have HC := Lib.hid (CsAt.new w CFT (cfC c))
  have HR := Lib.hid (fun W => sright_c c W)
  go_enter Tryz.func5, Tryz.ntmps5
  go_upto_region 1 with fail
  generalize w.alloc (.cells (cfC c) CFT) = w1 at *
  go_wp2_with (refine wpList_load_row rfl CFT _ rfl w.heap.size rfl CFT (cfC c) (0, 0) _ HC.out Tryz.underlying26 rfl info_cf ?_)
  refine (HR.out w1).mono ?_
  rintro e w2 ⟨rfl, hb2⟩
  have HB2 := Lib.hid (HB.out.trans (hb2.mono HB.out.size))
  rw [hc]
  clear hb2 hc
  go_wp2_with fail
  go_ret2
  exact ⟨rfl, HB2.out⟩
set_option maxHeartbeats 2000000 in
theorem snew_c (c : Cf) (hc : rightS c = true) (w : World) : Calls Tryz.prog 5 #[.agg (cfC c)] w fun e w' => ∃ sb rb mb, e = .returned (.tuple #[.pointer (some ⟨sb, 0, none⟩), .int .i64 0]) ∧
    ShAt w' sb rb mb c (Rm.nought c.lines.toNat) Rv.none_ ∧ Below w.heap.size w w' ∧ w.heap.size ≤ sb ∧ w.heap.size ≤ rb ∧ w.heap.size ≤ mb := by
  have HB := Lib.hid (box_below w (cfC c) CFT)
  have HC := Lib.hid (CsAt.new w CFT (cfC c))
  have HR := Lib.hid (fun W => sright_c c W)
  have hcf := rightS_iff.1 hc
  have hl : ((c.lines.toNat : Nat) : Int) = c.lines := by omega
  have HNW := Lib.hid (fun W => new_c c.lines.toNat (by omega) (by omega) W)
  rw [hl] at HNW
  have HCR := Lib.hid hc
  clear hl hcf
  go_enter Tryz.func5, Tryz.ntmps5
  go_upto_region 1 with fail
  generalize w.alloc (.cells (cfC c) CFT) = w1 at *
  go_wp2_with (refine wpList_load_row rfl CFT _ rfl w.heap.size rfl CFT (cfC c) (0, 0) _ HC.out Tryz.underlying26 rfl info_cf ?_)
  refine (HR.out w1).mono ?_
  rintro e w2 ⟨rfl, hb2⟩
  have HB2 := Lib.hid (HB.out.trans (hb2.mono HB.out.size))
  have HC2 := Lib.hid (HC.out.low hb2)
  have k2 : w2.cell? ⟨w.heap.size, 2, none⟩ = some (.int .i64 c.lines) := HC2.out.cell 2
  rw [hc]
  clear hb2 HB HC hc
  go_wp2_with fail
  refine (HNW.out w2).mono ?_
  rintro e w3 ⟨rfl, hr3, hb3⟩
  have HR3 := Lib.hid hr3
  have HB3 := Lib.hid (HB2.out.trans (hb3.mono HB2.out.size))
  have HC3 := Lib.hid (HC2.out.low hb3)
  have HS := Lib.hid HB2.out.size
  have HS3 := Lib.hid HB3.out.size
  clear hr3 hb3 k2 HC2 HB2
  generalize w2.heap.size = s2 at *
  go_wp2_with (refine wpList_load_row rfl CFT _ rfl w.heap.size rfl CFT #[.int .i64 c.harts, .int .i64 c.stripes, .int .i64 c.lines, .int .i64 c.tlb] (0, 0) _ HC3.out Tryz.underlying26 rfl info_cf ?_)
  go_ret2
  exact ⟨w3.heap.size, s2 + 1, s2, rfl, sh_new HCR.out HR3.out, HB3.out.trans ((box_below w3 _ _).mono HB3.out.size), HS3.out, Nat.le_succ_of_le HS.out, HS.out⟩
end Go.Proofs.YtjeolfcefeglpabGreat
