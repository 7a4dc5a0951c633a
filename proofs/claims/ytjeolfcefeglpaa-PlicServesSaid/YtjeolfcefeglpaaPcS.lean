/-
  The law of layer 16: what was claimed is claimed by nobody till it is completed (PlicServes walked).
-/
import Derived.Test.YtjeolfcefeglpaaPcH
import Derived.Test.YtjeolfcefeglpaaOpenPc
import Derived.Deep.CutBlock
set_option maxRecDepth 20000
namespace Go.Proofs.Ytjeolfcefeglpaa
open Go.ChangeShapes Go.WideShapes Go.ChangeAt Go.RowKit

abbrev T61 : TypeId := 61
abbrev T69 : TypeId := 69
def onV (on : List Bool) : Array Value := (on.map Value.bool).toArray
theorem onV_get {on : List Bool} {i : Nat} (h : i < on.length) : (onV on)[i]? = some (.bool (on.getD i false)) := by
  simp [onV, List.getD, List.getElem?_eq_getElem h]
theorem onV_set (on : List Bool) (i : Nat) (q : Bool) : (onV on).setIfInBounds i (.bool q) = onV (on.set i q) := by simp [onV, List.map_set]
def off0 : List Bool := List.replicate 32 false
theorem zero_on (W : World) : (zeroValue T61).run Try.prog W = .ok (.agg (onV off0)) W := by kernel_rfl
namespace Pc
open Wd
/-- Who is on, as the law has it, has its wire on. -/
def Le (on : List Bool) (ws : List Int) : Prop := on.length = 32 ∧ ∀ i, 1 ≤ i → i < 32 → on.getD i false = true → tb (ws.getD 0 0) i = true
theorem le_zero : Le off0 zeros := ⟨rfl, fun i _ h2 h => by
  rw [List.getD, off0, List.getElem?_replicate, if_pos h2] at h; cases h⟩
theorem get_on {l : List Bool} {i : Nat} (h : i < l.length) (x : Bool) (j : Nat) : (l.set i x).getD j false = if i = j then x else l.getD j false := by
  by_cases e : i = j
  · subst e
    rw [List.getD, List.getElem?_set, if_pos rfl, if_pos h, if_pos rfl]; rfl
  · rw [List.getD, List.getElem?_set, if_neg e, if_neg e]; rfl
theorem le_same {on : List Bool} {ws vs : List Int} (h : Le on ws) (he : vs.getD 0 0 = ws.getD 0 0) : Le on vs := ⟨h.1, by rw [he]; exact h.2⟩
section
variable {n : Nat} {ws : List Int}
theorem read0 (h : Ok n ws) (off size : Int) : (readW n ws off size).getD 0 0 = ws.getD 0 0 := by
  unfold readW
  split
  · rw [claimP, tri_get h.len, if_pos rfl]
  · rfl
theorem write0 (h : Ok n ws) (off size v : Int) : (writeW n ws off size v).getD 0 0 = ws.getD 0 0 := by
  have ha := at_of (n := n) (off := off) (size := size)
  have hn := h.n8
  have hl := h.len
  unfold writeW
  split
  · rw [get_set (by omega), if_neg (by omega)]
  · split
    · rw [get_set (by omega), if_neg (by omega)]
    · split
      · rw [get_set (by omega), if_neg (by omega)]
      · split
        · rw [endP, tri_get h.len, if_pos rfl]
        · rfl
theorem le_wire (h : Ok n ws) {on : List Bool} (hl : Le on ws) {j : Nat} (h1 : 1 ≤ j) (h2 : j < 32) (q : Bool) : Le (on.set j q) (wireP ws (j : Int) q) := by
  refine ⟨by simp [hl.1], fun i i1 i2 hi => ?_⟩
  have ho := St.one (j : Int)
  have hA := h.wire.andNot ho.lo ho.hi
  have hj : decide (1 ≤ (j : Int) ∧ (j : Int) < 32) = true := by simp; omega
  rw [get_on (by rw [hl.1]; exact h2)] at hi
  unfold wireP
  cases q with
  | true =>
    rw [if_pos rfl, tri_get h.len, if_pos rfl, tb_or hA.lo hA.hi ho.lo ho.hi, tb_andNot h.wire.lo h.wire.hi ho.lo ho.hi, tb_one, hj]
    by_cases e : j = i
    · subst e; simp
    · rw [if_neg e] at hi
      rw [hl.2 i i1 i2 hi]
      simp
  | false =>
    rw [if_neg (by simp), tri_get h.len, if_pos rfl, tb_andNot h.wire.lo h.wire.hi ho.lo ho.hi, tb_one, hj]
    by_cases e : j = i
    · rw [if_pos e] at hi; cases hi
    · rw [if_neg e] at hi
      rw [hl.2 i i1 i2 hi]
      have : decide ((i : Int) = (j : Int)) = false := by simp; omega
      rw [this]; rfl
theorem none_both (h : Ok n ws) : Go.bits .and .u64 (ws.getD 2 0) (ws.getD 1 0) = 0 := by
  refine ext (and_range h.serv.lo h.serv.hi h.wait.lo h.wait.hi).1 (and_range h.serv.lo h.serv.hi h.wait.lo h.wait.hi).2 (by omega) (by omega) fun i _ => ?_
  rw [tb_and h.serv.lo h.serv.hi h.wait.lo h.wait.hi, tb_zero]
  have := h.apart i
  cases e : tb (ws.getD 1 0) i with
  | false => simp
  | true => rw [this e]; rfl
theorem none_0 (h : Ok n ws) : Go.bits .and .u64 (Go.bits .or .u64 (ws.getD 2 0) (ws.getD 1 0)) 1 = 0 := by
  have hr := or_range h.serv.lo h.serv.hi h.wait.lo h.wait.hi
  have h0 := (h.serv.or h.wait).at0
  rw [Ct.and_one hr.1 hr.2]
  rw [tb, Nat.testBit_zero] at h0
  simp only [decide_eq_false_iff_not] at h0
  have := Int.toNat_of_nonneg hr.1
  omega
theorem some_on (h : Ok n ws) {on : List Bool} (hl : Le on ws) {j : Nat} (h1 : 1 ≤ j) (h2 : j < 32) (hq : on.getD j false = true) :
    (Go.bits .and .u64 (Go.bits .or .u64 (ws.getD 2 0) (ws.getD 1 0) / 2 ^ j) 1 == 0) = false := by
  have hr := or_range h.serv.lo h.serv.hi h.wait.lo h.wait.hi
  have ht := div_tb hr.1 hr.2 j
  rw [tb_or h.serv.lo h.serv.hi h.wait.lo h.wait.hi, Bool.or_comm, h.cover j (hl.2 j h1 h2 hq)] at ht
  simp only [beq_iff_eq] at ht
  rw [ht]; rfl
/-- What a claim tells. -/
theorem claim_new (h : Ok n ws) {c : Nat} (hc : c < 16) {m : Nat} (hm : bst ws c 0 = m) (hp : 0 < m) :
    m < 32 ∧ (Go.bits .and .u64 (ws.getD 2 0 / 2 ^ m) 1 == 1) = false ∧ (claimP ws c).getD 2 0 = Go.bits .or .u64 (ws.getD 2 0) (one (m : Int)) ∧ one (m : Int) = 2 ^ m := by
  rcases bst_of h hc 0 with hb | ⟨b1, b2, b3, b4, b5⟩
  · omega
  · rw [hm] at b1 b2 b3 b4
    refine ⟨b2, ?_, ?_, ?_⟩
    · rw [div_tb h.serv.lo h.serv.hi, b4]
    · rw [claimP, tri_get h.len, if_neg (by omega), if_neg (by omega), if_pos rfl, hm]
    · have hlt : (2 : Int) ^ m < 18446744073709551616 := by
        have h3 : 2 ^ m < 2 ^ 64 := Nat.pow_lt_pow_right (by omega) (by omega)
        have h4 : ((2 ^ m : Nat) : Int) < ((2 ^ 64 : Nat) : Int) := by exact_mod_cast h3
        simpa using h4
      have hnn : (0 : Int) ≤ 2 ^ m := Int.pow_nonneg (by omega)
      refine ext (one_range _).1 (one_range _).2 hnn hlt fun i _ => ?_
      rw [tb_one, show decide (1 ≤ (m : Int) ∧ (m : Int) < 32) = true by simp; omega, Bool.and_true, tb, toNat_pow, Nat.testBit_two_pow]
      apply decide_eq_decide.2
      omega
end
end Pc
/-- What stands while PlicServes goes on. -/
structure SvS (w W : World) (bz bo : Nat) (ws : List Int) (on : List Bool) : Prop where
  z : PcAt W bz 2 ws
  o : CsAt W bo T61 (onV on)
  le : Pc.Le on ws
  ne : bz ≠ bo
  lz : w.heap.size ≤ bz
  lo : w.heap.size ≤ bo
  bel : Below w.heap.size w W
section
variable {w W W' : World} {bz bo : Nat} {ws vs : List Int} {on : List Bool}
theorem SvS.low (h : SvS w W bz bo ws on) (hb : Below W.heap.size W W') : SvS w W' bz bo ws on := ⟨h.z.low hb, h.o.low hb, h.le, h.ne, h.lz, h.lo, h.bel.trans (hb.mono h.bel.size)⟩
theorem SvS.och (h : SvS w W bz bo ws on) (hz : PcP W' (some ⟨bz, 0, none⟩) 2 vs) (ho : Och (some bz) W W') (he : vs.getD 0 0 = ws.getD 0 0) : SvS w W' bz bo vs on :=
  ⟨hz.of, h.o.och ho (by have := h.ne; simp; omega), Pc.le_same h.le he, h.ne, h.lz, h.lo, h.bel.trans (ho.below (B := w.heap.size) (fun c hc => by cases hc; exact h.lz) h.bel.size)⟩
end
set_option maxRecDepth 100000 in
set_option maxHeartbeats 8000000 in
theorem pserves_walk (w : World) (ao : Option Addr) (n cap : Nat) (l : List Dp) (hds : Dps w ao n l) :
    Calls Try.prog 8 #[.slice ao n cap] w fun e w' => e = .returned (.bool true) ∧ Below w.heap.size w w' := by
  have HDS := Lib.hid hds
  have hmx := hds.max
  clear hds
  by_cases hlong : 100 < n
  · have g0 : decide ((n : Int) > 100) = true := by simp; omega
    have HLV := Lib.hid (live16_c w)
    go_enter Try.func8, Try.ntmps8
    go_wp2_with fail
    refine HLV.out.mono ?_
    rintro e w1 ⟨rfl, hb1⟩
    have HB := Lib.hid hb1
    clear hb1
    go_wp2_with fail
    go_ret
    exact ⟨rfl, HB.out⟩
  · have g0 : decide ((n : Int) > 100) = false := by simp; omega
    have hz := zero_pt
    have hz2 := zero_on
    have HN := Lib.hid (show Calls Try.prog 24 #[.int .i64 2] w fun e w' => e = .returned (.agg (ctV 2 Pc.zeros)) ∧ Below w.heap.size w w' from pnew_c 2 w)
    go_enter Try.func8, Try.ntmps8
    go_wp2_with fail
    refine HN.out.mono ?_
    rintro e w1 ⟨rfl, hb1⟩
    go_upto_region 4 with (refine wpList_storeNew (w0 := w1) rfl PT _ _ rfl _ (ctV 2 Pc.zeros) _ rfl rfl (iPT rfl) rfl ctV_one ?_)
    have hb2 := hb1.alloc hb1.size (Obj.cells (ctV 2 Pc.zeros) PT)
    have hA2 := (show PcAt (w1.alloc (Obj.cells (ctV 2 Pc.zeros) PT)) w1.heap.size 2 Pc.zeros from ⟨CsAt.new w1 PT _, Pc.zeros_ok (by omega)⟩)
    have hle1 := hb1.size
    clear hb1 HN hz
    generalize w1.alloc (Obj.cells (ctV 2 Pc.zeros) PT) = w2 at *
    generalize w1.heap.size = bz at *
    go_upto_region 5 with fail
    have HS := Lib.hid (show SvS w (w2.alloc (Obj.cells (onV off0) T61)) bz w2.heap.size Pc.zeros off0 from ⟨hA2.low ((Below.refl _ _).alloc (Nat.le_refl _) _), CsAt.new _ _ _, Pc.le_zero, by have := hA2.lt; omega, hle1, hb2.size, hb2.alloc hb2.size _⟩)
    clear hb2 hA2 hz2 hle1
    generalize w2.alloc (Obj.cells (onV off0) T61) = w3 at *
    generalize w2.heap.size = bo at *
    go_wp2_with fail
    go_loopw [5] (fun i wr => ∃ (k : Nat) (ws : List Int) (on : List Bool), k ≤ n ∧ i = .int .i64 k ∧ SvS w wr bz bo ws on) (fun i _ => n - (intOf i).toNat)
    case atStart => exact ⟨0, Pc.zeros, off0, Nat.zero_le _, rfl, HS.out⟩
    case round =>
      obtain ⟨k, ws, on, hk, rfl, hs⟩ := hrel
      have HR := Lib.hid hs
      clear hs HS
      by_cases hlt : k < n
      · have e0 : decide ((k : Int) < (n : Int)) = true := by simp; omega
        obtain ⟨db, off, rfl, hdl, hcells⟩ := (HDS.out.low HR.out.bel).at_ (by omega)
        have c0 := hcells k hlt 0 (by omega)
        have c1 := hcells k hlt 1 (by omega)
        have c2 := hcells k hlt 2 (by omega)
        have c3 := hcells k hlt 3 (by omega)
        simp only [Dp.cells, Nat.add_zero, List.getElem?_toArray, List.getElem?_cons_zero, List.getElem?_cons_succ] at c0 c1 c2 c3
        have hin := HDS.out.each k hlt
        have hoff := hin.off
        have hsz := hin.size
        have hv := hin.v
        clear hcells hin
        generalize (l.getD k Dp.zero).kind = kd at *
        generalize (l.getD k Dp.zero).off = of_ at *
        generalize (l.getD k Dp.zero).size = sz at *
        generalize (l.getD k Dp.zero).v = vv at *
        have gk : (k : Int) < (n : Int) := by omega
        have hb4 : Below wr.heap.size wr (wr.alloc (Obj.cells #[.int .i64 kd, .int .u64 of_, .int .i64 sz, .int .u64 vv] T69)) := (Below.refl _ _).alloc (Nat.le_refl _) _
        have hr4 := CsAt.new wr T69 #[.int .i64 kd, .int .u64 of_, .int .i64 sz, .int .u64 vv]
        go_upto_region 9 with fail
        generalize wr.alloc (Obj.cells #[.int .i64 kd, .int .u64 of_, .int .i64 sz, .int .u64 vv] T69) = w4 at *
        have HR4 := Lib.hid hr4
        have HB4 := Lib.hid hb4
        have HS4 := Lib.hid (HR.out.low hb4)
        have hbx0 := HR.out.z.lt
        have hox0 := HR.out.o.lt
        clear hr4 hb4 HR c0 c1 c2 c3
        generalize wr.heap.size = xb at *
        go_wp2_with fail
        refine (pserved_c (some ⟨bz, 0, none⟩) 2 ws w4 HS4.out.z.at_ (fun h => by cases h)).mono ?_
        rintro e w5 ⟨rfl, rfl⟩
        obtain ⟨sv, hsv⟩ : ∃ x, ws.getD 2 0 = x := ⟨_, rfl⟩
        rw [hsv]
        have d0 : w5.cell? ⟨xb, 0, none⟩ = some (.int .i64 kd) := by rw [HR4.out.cell]; rfl
        have d1 : w5.cell? ⟨xb, 1, none⟩ = some (.int .u64 of_) := by rw [HR4.out.cell]; rfl
        have d2 : w5.cell? ⟨xb, 2, none⟩ = some (.int .i64 sz) := by rw [HR4.out.cell]; rfl
        have d3 : w5.cell? ⟨xb, 3, none⟩ = some (.int .u64 vv) := by rw [HR4.out.cell]; rfl
        go_wp2_with fail
        refine (rat16_c 2 of_ sz w5).mono ?_
        rintro e w6 ⟨rfl, rfl⟩
        obtain ⟨t, ht⟩ : ∃ t, Pc.at_ ((2 : Nat) : Int) of_ sz = t := ⟨_, rfl⟩
        rw [show Pc.at_ 2 of_ sz = t from ht, atV]
        obtain ⟨t1, c⟩ := t
        have hbx : bz < xb := hbx0
        have hox : bo < xb := hox0
        go_upto_block 2 with fail
        go_cut [] (fun wx => ∃ (vs : List Int) (on2 : List Bool), SvS w wx bz bo vs on2)
        case first =>
          by_cases k0 : kd = 0
          · have g1 : (kd == 0) = true := by simpa using k0
            clear k0
            go_wp2_with fail
            refine (pread_c (some ⟨bz, 0, none⟩) 2 ws of_ sz hoff.1 hoff.2 w6 HS4.out.z.at_).mono ?_
            rintro e w7 ⟨rfl, hA7, ho7⟩
            have HS7 := Lib.hid (HS4.out.och hA7 ho7 (Pc.read0 HS4.out.z.ok _ _))
            clear hA7 ho7
            by_cases t0 : t1 = 0
            · have HI := Lib.hid (show Pc.is ((2 : Nat) : Int) of_ sz = false from is_no (n := 2) (by rw [ht]; exact t0))
              rw [HI.out]
              clear t0 HI ht
              generalize Pc.readV 2 ws of_ sz = v at *
              go_wp2_with fail
              go_meet
              exact ⟨_, _, HS7.out⟩
            · have HI := Lib.hid (show Pc.is ((2 : Nat) : Int) of_ sz = true from is_yes (n := 2) (by rw [ht]; exact t0))
              rw [HI.out]
              by_cases t5 : t1 = 5
              · subst t5
                have hof := Pc.at_of (n := ((2 : Nat) : Int)) (off := of_) (size := sz)
                rw [ht] at hof
                have hc : c < 16 := by simp at hof; omega
                have HV := Lib.hid (show Pc.readV 2 ws of_ sz = Pc.bst ws c 0 by unfold Pc.readV; rw [ht]; rfl)
                have HWv := Lib.hid (show Pc.readW 2 ws of_ sz = Pc.claimP ws c by unfold Pc.readW; rw [ht]; rfl)
                rw [HV.out]
                rw [HWv.out] at HS7
                obtain ⟨m, hm⟩ : ∃ m, Pc.bst ws c 0 = m := ⟨_, rfl⟩
                rw [hm]
                by_cases m0 : 0 < m
                · obtain ⟨n1, n2, n3, n4⟩ := Pc.claim_new HS4.out.z.ok hc hm m0
                  have HN3 := Lib.hid n3
                  rw [hsv] at n2 HN3
                  rw [n4] at HN3
                  have p1 : decide ((m : Int) > 0) = true := by simp; omega
                  have p2 : decide ((m : Int) > 31) = false := by simp; omega
                  have p3 : min m 64 = m := by omega
                  have HP := Lib.hid (show (2 : Int) ^ m < 18446744073709551616 by rw [← n4]; exact (Pc.one_range _).2)
                  have p4 : IntKind.u64.wrap (2 ^ m) = 2 ^ m := by rw [IntKind.wrap_u64]; exact Int.emod_eq_of_lt (Int.pow_nonneg (by omega)) HP.out
                  clear n3 n4 hm HV HWv hof ht HI HP t0
                  go_wp2_with fail
                  refine (pserved_c (some ⟨bz, 0, none⟩) 2 (Pc.claimP ws c) w7 HS7.out.z.at_ (fun h => by cases h)).mono ?_
                  rintro e w8 ⟨rfl, rfl⟩
                  rw [HN3.out]
                  go_wp2_with fail
                  go_meet
                  exact ⟨_, _, HS7.out⟩
                · obtain rfl : m = 0 := by omega
                  clear hm HV HWv hof ht HI m0 t0
                  go_wp2_with fail
                  go_meet
                  exact ⟨_, _, HS7.out⟩
              · have g5 : ((t1 : Int) == 5) = false := by simp; omega
                clear t0 t5 HI ht
                generalize Pc.readV 2 ws of_ sz = v at *
                go_wp2_with fail
                go_meet
                exact ⟨_, _, HS7.out⟩
          · have g1 : (kd == 0) = false := by simpa using k0
            by_cases k1 : kd = 1
            · have g2 : (kd == 1) = true := by simpa using k1
              clear k0 k1
              go_wp2_with fail
              refine (pwrite_c (some ⟨bz, 0, none⟩) 2 ws of_ sz hoff.1 hoff.2 vv hv.1 (by omega) w6 HS4.out.z.at_).mono ?_
              rintro e w7 ⟨rfl, hA7, ho7⟩
              have HS7 := Lib.hid (HS4.out.och hA7 ho7 (Pc.write0 HS4.out.z.ok _ _ _))
              clear hA7 ho7
              generalize Pc.is _ of_ sz = q at *
              go_wp2_with fail
              go_meet
              exact ⟨_, _, HS7.out⟩
            · have g2 : (kd == 1) = false := by simpa using k1
              obtain ⟨q, hq⟩ : ∃ q, (vv % 2 == 1) = q := ⟨_, rfl⟩
              clear k0 k1
              go_wp2_with fail
              refine (pwire_c (some ⟨bz, 0, none⟩) 2 ws sz hsz.1 hsz.2 q w6 HS4.out.z.at_).mono ?_
              rintro e w7 ⟨rfl, hA7, ho7⟩
              have HR7 := Lib.hid (HR4.out.och ho7 (by simp [pb]; omega))
              by_cases hs : 1 ≤ sz ∧ sz < 32
              · have HI := Lib.hid (show Pc.wires 2 sz = true by unfold Pc.wires; simp; omega)
                have HW := Lib.hid (show Pc.wireW 2 ws sz q = Pc.wireP ws sz q by unfold Pc.wireW; rw [HI.out, if_pos rfl])
                rw [HI.out]
                rw [HW.out] at hA7
                obtain ⟨j, rfl⟩ := Int.eq_ofNat_of_zero_le (by omega : 0 ≤ sz)
                have hj1 : 1 ≤ j := by omega
                have hj2 : j < 32 := by omega
                have hO7 := HS4.out.o.och ho7 (by have := HS4.out.ne; simp [pb]; omega)
                have HO8 := Lib.hid (show CsAt (w7.setCell ⟨bo, j, none⟩ (.bool q)) bo T61 (onV (on.set j q)) by
                  unfold CsAt
                  rw [heap_setCell_same w7 bo j _ T61 _ hO7, onV_set])
                have HS8 := Lib.hid (show SvS w (w7.setCell ⟨bo, j, none⟩ (.bool q)) bz bo (Pc.wireP ws (j : Int) q) (on.set j q) from
                  ⟨⟨(heap_setCell_other w7 ⟨bo, j, none⟩ bz _ (by exact HS4.out.ne)).trans hA7.of.row, hA7.of.ok⟩, HO8.out, Pc.le_wire HS4.out.z.ok HS4.out.le hj1 hj2 q, HS4.out.ne, HS4.out.lz, HS4.out.lo,
                    (HS4.out.bel.trans (ho7.below (B := w.heap.size) (fun c hc => by cases hc; exact HS4.out.lz) HS4.out.bel.size)).setCell HS4.out.lo _⟩)
                have d2b : w7.cell? ⟨xb, 2, none⟩ = some (.int .i64 (j : Int)) := by rw [HR7.out.cell]; rfl
                have d3b : w7.cell? ⟨xb, 3, none⟩ = some (.int .u64 vv) := by rw [HR7.out.cell]; rfl
                have cO : w7.cell? ⟨bo, j, none⟩ = some (.bool (on.getD j false)) := by rw [hO7.cell]; exact onV_get (by rw [HS4.out.le.1]; exact hj2)
                have fO := hO7.frozen j
                have p1 : decide ((j : Int) ≥ 0) = true := by simp
                have p2 : decide ((j : Int) < 32) = true := by simp; omega
                have gj : (j : Int) < 32 := by omega
                clear hA7 ho7 hO7 HI HW hs d0 d1 d2 d3 HO8
                generalize on.getD j false = qo at *
                go_wp2_with fail
                go_meet
                exact ⟨_, _, HS8.out⟩
              · have HI := Lib.hid (show Pc.wires 2 sz = false by unfold Pc.wires; simp; omega)
                have HW := Lib.hid (show Pc.wireW 2 ws sz q = ws by unfold Pc.wireW; rw [HI.out, if_neg (by simp)])
                rw [HI.out]
                rw [HW.out] at hA7
                have HS7 := Lib.hid (HS4.out.och hA7 ho7 rfl)
                clear hA7 ho7 HI HW hs d0 d1 d2 d3
                go_wp2_with fail
                go_meet
                exact ⟨_, _, HS7.out⟩
        case rest =>
          obtain ⟨vs, on2, hs2⟩ := hcut
          have HS := Lib.hid hs2
          have HN1 := Lib.hid (Pc.none_both hs2.z.ok)
          have HN2 := Lib.hid (Pc.none_0 hs2.z.ok)
          have HON := Lib.hid (fun j h1 h2 h3 => Pc.some_on (j := j) hs2.z.ok hs2.le h1 h2 h3)
          clear hs2 HS4 HR4 hsv ht d0 d1 d2 d3
          have HSV := Lib.hid (fun W (hW : SvS w W bz bo vs on2) => pserved_c (some ⟨bz, 0, none⟩) 2 vs W hW.z.at_ (fun h => by cases h))
          have HWA := Lib.hid (fun W (hW : SvS w W bz bo vs on2) => pwaits_c (some ⟨bz, 0, none⟩) 2 vs W hW.z.at_ (fun h => by cases h))
          generalize vs.getD 2 0 = s2 at *
          generalize vs.getD 1 0 = w2_ at *
          have z1 := HN1.out
          have z2 := HN2.out
          go_wp2_with fail
          refine (HSV.out _ HS.out).mono ?_
          rintro e w8 ⟨rfl, rfl⟩
          go_wp2_with fail
          refine (HWA.out _ HS.out).mono ?_
          rintro e w9 ⟨rfl, rfl⟩
          go_wp2_with fail
          refine (HSV.out _ HS.out).mono ?_
          rintro e w10 ⟨rfl, rfl⟩
          go_wp2_with fail
          refine (HWA.out _ HS.out).mono ?_
          rintro e w11 ⟨rfl, rfl⟩
          go_wp2_with fail
          clear z1 z2
          have hwn := HS.out
          go_loopw [12] (fun iv wy => ∃ j : Nat, 1 ≤ j ∧ j ≤ 32 ∧ iv = .int .i64 j ∧ SvS w wy bz bo vs on2) (fun iv _ => 32 - (intOf iv).toNat)
          case atStart => exact ⟨1, by omega, by omega, rfl, hwn⟩
          case round =>
            obtain ⟨j, hj1, hj, rfl, hs3⟩ := hrel
            have HS3 := Lib.hid hs3
            clear hs3 hwn
            by_cases hj2 : j < 32
            · have e1 : decide ((j : Int) < 32) = true := by simp; omega
              have gj : (j : Int) < 32 := by omega
              have cO : wr.cell? ⟨bo, j, none⟩ = some (.bool (on2.getD j false)) := by rw [HS3.out.o.cell]; exact onV_get (by rw [HS3.out.le.1]; exact hj2)
              cases ho : on2.getD j false with
              | false =>
                rw [ho] at cO
                go_wp2_with fail
                go_roundw
                case rel => exact ⟨j + 1, by omega, by omega, by go_num, HS3.out⟩
                case measure => simp [intOf]; omega
              | true =>
                rw [ho] at cO
                have z3 := HON.out j hj1 hj2 ho
                have p3 : min j 64 = j := by omega
                go_wp2_with fail
                refine (HSV.out _ HS3.out).mono ?_
                rintro e w12 ⟨rfl, rfl⟩
                go_wp2_with fail
                refine (HWA.out _ HS3.out).mono ?_
                rintro e w13 ⟨rfl, rfl⟩
                go_wp2_with fail
                go_roundw
                case rel => exact ⟨j + 1, by omega, by omega, by go_num, HS3.out⟩
                case measure => simp [intOf]; omega
            · obtain rfl : j = 32 := by omega
              go_wp2_with fail
              go_roundw
              case rel => exact ⟨k + 1, _, _, by omega, by go_num, HS3.out⟩
              case measure => simp [intOf]; omega
      · obtain rfl : k = n := by omega
        have e0 : decide ((k : Int) < (k : Int)) = false := by simp
        have HLV := Lib.hid (live16_c wr)
        have HBL := Lib.hid HR.out.bel
        clear HR
        go_wp2_with fail
        refine HLV.out.mono ?_
        rintro e w5 ⟨rfl, hb5⟩
        have HB5 := Lib.hid (HBL.out.trans (hb5.mono HBL.out.size))
        clear hb5 HLV HBL
        go_wp2_with fail
        go_ret
        exact ⟨rfl, HB5.out⟩
end Go.Proofs.Ytjeolfcefeglpaa
