/-
  Contract of the reference of layer 11: Join. Contracts of shard: memory.holds, memory.number, lay. Contract of shard: lay.
-/
import Derived.Test.YtjeolfcefeglpabGreatXaf
import Derived.Test.YtjeolfcefeglpabGreatXax
import Derived.Test.YtjeolfcefeglpabGreatXay
set_option maxRecDepth 20000
namespace Go.Proofs.YtjeolfcefeglpabGreat
open Go.ChangeShapes Go.WideShapes Go.ChangeAt Go.RowKit Wd

end Go.Proofs.YtjeolfcefeglpabGreat
set_option maxRecDepth 20000
namespace Go.Proofs.YtjeolfcefeglpabGreat
open Go.ChangeShapes Go.WideShapes Go.ChangeAt Go.RowKit Wd

abbrev PCT : TypeId := 142
abbrev MMT : TypeId := 87
theorem vw_rangeP {w : World} {base : Nat} {p : Option Addr} {cap : Nat} {l : List Sp.P} (h : w.ownsRow base PCT 3 (.slice p l.length cap) l.length (Sp.cellsOf l)) {k : Nat} (hk : k < l.length) : ∃ g, p = some ⟨g, 0, none⟩ ∧ w.rangeAt g (k * 3) (l.getD k Sp.p0).cells := by
  obtain ⟨g, cap', hp, -, -, -⟩ := own_pos h (by omega)
  obtain ⟨rfl, rfl⟩ : p = some ⟨g, 0, none⟩ ∧ cap = cap' := by simpa using hp
  exact ⟨g, rfl, range_pc h k hk⟩
/-- Pieces whose numbers are in range. -/
def PcIn (l : List Sp.P) : Prop := ∀ p ∈ l, 0 ≤ p.a ∧ p.a < 18446744073709551616 ∧ -9223372036854775808 ≤ p.n ∧ p.n ≤ 9223372036854775807
theorem all_step {l : List Sp.P} {N k : Nat} : (l.take k).all (fun p => hasB N p.a p.n) = true → k < l.length → (hasB N (l.getD k Sp.p0).a (l.getD k Sp.p0).n = true → (l.take (k + 1)).all (fun p => hasB N p.a p.n) = true) ∧ (hasB N (l.getD k Sp.p0).a (l.getD k Sp.p0).n = false → l.all (fun p => hasB N p.a p.n) = false) := by
  intro h hk
  have e : l.getD k Sp.p0 = l[k] := by rw [List.getD_eq_getElem?_getD, List.getElem?_eq_getElem hk]; rfl
  rw [e]
  constructor
  · intro hh
    rw [List.take_succ_eq_append_getElem hk, List.all_append, h]
    simp [hh]
  · intro hh
    rw [← Bool.not_eq_true, List.all_eq_true]
    intro hc
    rw [hc _ (List.getElem_mem hk)] at hh
    cases hh
set_option maxHeartbeats 2000000 in
theorem holds_c (p : Option Addr) (cap base : Nat) (l : List Sp.P) {rb mb n : Nat} {B : List Int} (w : World) (hR : RamAt w rb mb n B) (hl : w.ownsRow base PCT 3 (.slice p l.length cap) l.length (Sp.cellsOf l)) (hi : PcIn l) (hll : l.length ≤ 4) :
    Calls Tryz.prog 60 #[.agg #[.pointer (some ⟨rb, 0, none⟩)], .slice p l.length cap] w fun e w' => e = .returned (.bool (l.all fun p => hasB n p.a p.n)) ∧ Below w.heap.size w w' := by
  have HB := Lib.hid (box_below w #[.pointer (some ⟨rb, 0, none⟩)] MMT)
  have HC := CsAt.new w MMT #[.pointer (some ⟨rb, 0, none⟩)]
  have c0 : (w.alloc (.cells #[.pointer (some ⟨rb, 0, none⟩)] MMT)).cell? ⟨w.heap.size, 0, none⟩ = some (.pointer (some ⟨rb, 0, none⟩)) := HC.cell 0
  have HC0 := Lib.hid c0
  have HR := Lib.hid hR
  have HL := Lib.hid hl
  have HI := Lib.hid hi
  clear hR hl hi HC c0
  go_enter Tryz.func60, Tryz.ntmps60
  go_upto_region 1 with fail
  generalize w.alloc (.cells #[.pointer (some ⟨rb, 0, none⟩)] MMT) = w1 at *
  go_wp2_with fail
  go_loopw [9] (fun iv wr => ∃ k : Nat, k ≤ l.length ∧ iv = .int .i64 k ∧ (l.take k).all (fun p => hasB n p.a p.n) = true ∧ Below w.heap.size w wr ∧ Below w1.heap.size w1 wr) (fun iv _ => l.length - (intOf iv).toNat)
  case atStart => exact ⟨0, Nat.zero_le _, rfl, rfl, HB.out, Below.refl _ _⟩
  case round =>
    obtain ⟨k, hk, rfl, hall, hbr, hb1⟩ := hrel
    have HBR := Lib.hid hbr
    have HB1 := Lib.hid hb1
    have HA := Lib.hid hall
    have m0 := (hb1.cell (p := ⟨w.heap.size, 0, none⟩) (World.block_lt_of_cell? _ _ HC0.out)).trans HC0.out
    clear hbr hb1 hall
    by_cases hlt : k < l.length
    · obtain ⟨g, rfl, hrg⟩ := vw_rangeP (own_low HL.out HBR.out) hlt
      have HRP := Lib.hid hrg
      have hq := HI.out (l.getD k Sp.p0) (Sh.getD_mem hlt)
      have HST := Lib.hid (all_step HA.out hlt)
      have hram := HR.out.low HBR.out
      generalize l.getD k Sp.p0 = q at *
      obtain ⟨qa, qn, qs⟩ := q
      have q0 : 0 ≤ qa ∧ qa < 18446744073709551616 := ⟨hq.1, hq.2.1⟩
      have q1 : -9223372036854775808 ≤ qn ∧ qn ≤ 9223372036854775807 := hq.2.2
      have hg : (k : Int) < l.length := by omega
      have HCN := CsAt.new wr PCT #[.int .u64 qa, .int .i64 qn, .int .i64 qs]
      have d0 := HCN.cell 0
      have d1 := HCN.cell 1
      have hbn := box_below wr #[.int .u64 qa, .int .i64 qn, .int .i64 qs] PCT
      have m1 := (hbn.cell (p := ⟨w.heap.size, 0, none⟩) (World.block_lt_of_cell? _ _ m0)).trans m0
      have hram2 := hram.low hbn
      have HRA := Lib.hid hram2
      have HW := Lib.hid (HBR.out.trans (hbn.mono HBR.out.size))
      have HW1 := Lib.hid (HB1.out.trans (hbn.mono HB1.out.size))
      clear hq hrg HCN hbn hram hram2 m0
      go_wp2_with (first
        | (refine wpList_load_mid rfl PCT _ rfl g (k * 3) rfl _ _ HRP.out Tryz.underlying142 rfl (by kernel_rfl) ?_)
        | (refine wpList_storeNew rfl PCT _ _ rfl #[.int .u64 0, .int .i64 0, .int .i64 0] #[.int .u64 qa, .int .i64 qn, .int .i64 qs] PCT rfl rfl (by kernel_rfl) rfl (pc_one _ _ _) ?_))
      refine (has_c (lines_c HRA.out) HRA.out.n1 qa qn q0 q1).mono ?_
      rintro e w5 ⟨rfl, rfl⟩
      generalize wr.alloc (.cells #[.int .u64 qa, .int .i64 qn, .int .i64 qs] PCT) = w5 at *
      cases hh : hasB n qa qn
      · have HE := Lib.hid (HST.out.2 hh)
        clear d0 d1
        go_wp2_with fail
        go_ret
        exact ⟨by rw [HE.out]; rfl, HW.out⟩
      · have HE := Lib.hid (HST.out.1 hh)
        clear d0 d1
        go_wp2_with fail
        go_roundw
        case rel => exact ⟨k + 1, by omega, by go_num, HE.out, HW.out, HW1.out⟩
        case measure => simp [intOf]; omega
    · obtain rfl : k = l.length := by omega
      have HE := Lib.hid (show (l.all fun p => hasB n p.a p.n) = true by have := HA.out; rwa [List.take_length] at this)
      go_wp2_with fail
      go_ret
      exact ⟨by rw [HE.out]; rfl, HBR.out⟩
theorem info_u64S : (Tryz.prog.info? 38).map (fun i => (i.zero, i.size, i.bytes)) = some (some (.int .u64 0), 1, 8) := by kernel_rfl
/-- What the pieces hold. -/
abbrev ldL (B : List Int) (n : Nat) (l : List Sp.P) : List Int := l.map fun p => ldV B n p.a p.n
theorem ldL_take (B : List Int) (n : Nat) {l : List Sp.P} {k : Nat} (hk : k < l.length) : (ldL B n l).take (k + 1) = (ldL B n l).take k ++ [ldV B n (l.getD k Sp.p0).a (l.getD k Sp.p0).n] := by
  rw [List.take_succ_eq_append_getElem (by simpa using hk)]
  congr 2
  rw [List.getElem_map, List.getD_eq_getElem?_getD, List.getElem?_eq_getElem hk]
  rfl
theorem ld_u64 {B : List Int} {n : Nat} (hB : Rm.Ok B n) (x m : Int) : 0 ≤ ldV B n x m ∧ ldV B n x m < 18446744073709551616 := by
  unfold ldV
  split
  · rename_i h
    have := hasN_iff.1 h
    exact num_u64 hB _ _ (by omega)
  · omega
set_option maxHeartbeats 4000000 in
theorem number_c (p : Option Addr) (cap base : Nat) (l : List Sp.P) {rb mb n : Nat} {B : List Int} (w : World) (hR : RamAt w rb mb n B) (hl : w.ownsRow base PCT 3 (.slice p l.length cap) l.length (Sp.cellsOf l)) (hi : PcIn l) (hll : l.length ≤ 4) :
    Calls Tryz.prog 38 #[.agg #[.pointer (some ⟨rb, 0, none⟩)], .slice p l.length cap] w fun e w' => e = .returned (.int .u64 (joinS l (ldL B n l) l.length)) ∧ Below w.heap.size w w' := by
  have HB := Lib.hid (box_below w #[.pointer (some ⟨rb, 0, none⟩)] MMT)
  have HC := CsAt.new w MMT #[.pointer (some ⟨rb, 0, none⟩)]
  have c0 : (w.alloc (.cells #[.pointer (some ⟨rb, 0, none⟩)] MMT)).cell? ⟨w.heap.size, 0, none⟩ = some (.pointer (some ⟨rb, 0, none⟩)) := HC.cell 0
  have HC0 := Lib.hid c0
  have HR := Lib.hid hR
  have HL := Lib.hid hl
  have HI := Lib.hid hi
  clear hR hl hi HC c0
  go_enter Tryz.func38, Tryz.ntmps38
  go_upto_region 1 with fail
  generalize w.alloc (.cells #[.pointer (some ⟨rb, 0, none⟩)] MMT) = w1 at *
  go_wp2_with fail
  go_loopw [5, 12] (fun lv iv wr => ∃ k : Nat, k ≤ l.length ∧ iv = .int .i64 k ∧ wr.ownsRow w1.heap.size 38 1 lv k (uV ((ldL B n l).take k)) ∧ Below w1.heap.size w1 wr) (fun _ iv _ => l.length - (intOf iv).toNat)
  case atStart => exact ⟨0, Nat.zero_le _, rfl, World.ownsRow_nil _ _ _ _, Below.refl _ _⟩
  case round =>
    obtain ⟨k, hk, rfl, hr, hb1⟩ := hrel
    have HR0 := Lib.hid hr
    have HB1 := Lib.hid hb1
    have HBR := Lib.hid (HB.out.trans (hb1.mono HB.out.size))
    have m0 := (hb1.cell (p := ⟨w.heap.size, 0, none⟩) (World.block_lt_of_cell? _ _ HC0.out)).trans HC0.out
    clear hb1 hr
    by_cases hlt : k < l.length
    · obtain ⟨g, rfl, hrg⟩ := vw_rangeP (own_low HL.out HBR.out) hlt
      have HRP := Lib.hid hrg
      have hq := HI.out (l.getD k Sp.p0) (Sh.getD_mem hlt)
      have HT := Lib.hid (ldL_take B n hlt)
      have hram := HR.out.low HBR.out
      generalize l.getD k Sp.p0 = q at *
      obtain ⟨qa, qn, qs⟩ := q
      have q0 : 0 ≤ qa ∧ qa < 18446744073709551616 := ⟨hq.1, hq.2.1⟩
      have q1 : -9223372036854775808 ≤ qn ∧ qn ≤ 9223372036854775807 := hq.2.2
      have hg : (k : Int) < l.length := by omega
      have HCN := CsAt.new wr PCT #[.int .u64 qa, .int .i64 qn, .int .i64 qs]
      have d0 := HCN.cell 0
      have d1 := HCN.cell 1
      have hbn := box_below wr #[.int .u64 qa, .int .i64 qn, .int .i64 qs] PCT
      have m1 := (hbn.cell (p := ⟨w.heap.size, 0, none⟩) (World.block_lt_of_cell? _ _ m0)).trans m0
      have HRA := Lib.hid (hram.low hbn)
      have HW1 := Lib.hid (HB1.out.trans (hbn.mono HB1.out.size))
      have HRW := Lib.hid (own_low HR0.out hbn)
      clear hq hrg HCN hbn hram m0 HR0
      go_wp2_with (first
        | (refine wpList_load_mid rfl PCT _ rfl g (k * 3) rfl _ _ HRP.out Tryz.underlying142 rfl (by kernel_rfl) ?_)
        | (refine wpList_storeNew rfl PCT _ _ rfl #[.int .u64 0, .int .i64 0, .int .i64 0] #[.int .u64 qa, .int .i64 qn, .int .i64 qs] PCT rfl rfl (by kernel_rfl) rfl (pc_one _ _ _) ?_))
      generalize wr.alloc (.cells #[.int .u64 qa, .int .i64 qn, .int .i64 qs] PCT) = w5 at *
      refine (load_c HRA.out qa qn q0 q1).mono ?_
      rintro e w6 ⟨rfl, hb6⟩
      have HW6 := Lib.hid (HW1.out.trans (hb6.mono HW1.out.size))
      have HRW6 := Lib.hid (own_low HRW.out hb6)
      have HS6 := Lib.hid HW6.out.size
      clear hb6 HRA HW1 HRW d0 d1 m1 HBR HB1
      generalize ldV B n qa qn = x at *
      go_wp2_with (at_builtin; refine wpList_push rfl _ _ 148 rfl w1.heap.size 38 _ 1 8 Tryz.underlying148 info_u64S rfl (by omega) (by omega) _ _ _ rfl HRW6.out #[.int .u64 x] rfl (by simp [Value.oneCell']) _ rfl rfl (by omega) HS6.out ?_)
      intro v' w' hown hbw
      have HR6 := Lib.hid (show w'.ownsRow w1.heap.size 38 1 v' (k + 1) (uV ((ldL B n l).take (k + 1))) by rw [HT.out, uV, List.map_append, List.map_take, List.map_map]; exact hown)
      have HB6 := Lib.hid (HW6.out.trans hbw)
      clear hown hbw
      go_wp2_with fail
      go_roundw
      case rel => exact ⟨k + 1, by omega, by go_num, HR6.out, HB6.out⟩
      case measure => simp [intOf]; omega
    · obtain rfl : k = l.length := by omega
      have hr := HR0.out
      rw [List.take_of_length_le (by simp)] at hr
      obtain ⟨p5, cap5, rfl, hu, -, -⟩ := own_form hr
      obtain ⟨p6, cap6, he, hv, -, -⟩ := own_form (own_low HL.out HBR.out)
      obtain ⟨rfl, rfl⟩ : p = p6 ∧ cap = cap6 := by simpa using he
      have HU := Lib.hid hu
      have HV := Lib.hid hv
      have hlen : (ldL B n l).length = l.length := by simp
      have HJ := join_c l (ldL B n l) p p5 cap cap5 wr HV.out HU.out (fun u hu => by
        obtain ⟨q, -, rfl⟩ := List.mem_map.1 hu
        exact ld_u64 HR.out.ok _ _) (by omega) (by rw [hlen]; omega)
      rw [hlen, Nat.min_self] at HJ
      have HJ := Lib.hid HJ
      clear hr he hu hv hlen m0
      go_wp2_with fail
      refine HJ.out.mono ?_
      rintro e w7 ⟨rfl, hb7⟩
      have HB7 := Lib.hid (HBR.out.trans (hb7.mono HBR.out.size))
      clear hb7
      go_wp2_with fail
      go_ret
      exact ⟨rfl, HB7.out⟩
/-- The piece's line. -/
theorem lay_step (B : List Int) (N : Nat) (v : Int) (l : List Sp.P) (T : Rv.Tb) (hart : Int) (k : Nat) :
    Sh.layP B N v l (k + 1) = stV (Sh.layP B N v l k) N (l.getD k Sp.p0).a (l.getD k Sp.p0).n (partV v (l.getD k Sp.p0).n (l.getD k Sp.p0).s) ∧ Sh.killP T hart l (k + 1) = Rv.kill (Sh.killP T hart l k) ((l.getD k Sp.p0).a / 64) hart := ⟨rfl, rfl⟩
theorem part_range (v n s : Int) : 0 ≤ partV v n s ∧ partV v n s < 18446744073709551616 := by
  unfold partV
  split
  · exact cutS_range _ _ _
  · omega
end Go.Proofs.YtjeolfcefeglpabGreat
set_option maxRecDepth 20000
namespace Go.Proofs.YtjeolfcefeglpabGreat
open Go.ChangeShapes Go.WideShapes Go.ChangeAt Go.RowKit Wd

theorem own_two {w w' : World} {base : Nat} {e : TypeId} {size : Nat} {v : Value} {n : Nat} {xs : List Value} {b c : Nat} (h : w.ownsRow base e size v n xs) (ht : Two b c w w') (hb : b < base) (hc : c < base) : w'.ownsRow base e size v n xs :=
  own_keep h fun k hk => ht.block k (h.lt k hk).2 (by have := (h.lt k hk).1; omega) (by have := (h.lt k hk).1; omega)
set_option maxHeartbeats 4000000 in
theorem lay_c (p : Option Addr) (cap base : Nat) (l : List Sp.P) {sb rb mb : Nat} {c : Cf} {B : List Int} {T : Rv.Tb} (hart v : Int) (w : World) (hS : ShAt w sb rb mb c B T) (hl : w.ownsRow base PCT 3 (.slice p l.length cap) l.length (Sp.cellsOf l))
    (hsb : sb < base) (hmb : mb < base) (hi : PcIn l) (hll : l.length ≤ 4) (hv : 0 ≤ v ∧ v < 18446744073709551616) :
    Calls Tryz.prog 44 #[.pointer (some ⟨sb, 0, none⟩), .int .i64 hart, .slice p l.length cap, .int .u64 v] w fun e w' =>
      e = .returned (.tuple #[]) ∧ ShAt w' sb rb mb c (Sh.layP B c.lines.toNat v l l.length) (Sh.killP T hart l l.length) ∧ Two sb mb w w' := by
  have HS0 := Lib.hid hS
  have HL := Lib.hid hl
  have HI := Lib.hid hi
  have HV := Lib.hid hv
  clear hS hl hi hv
  go_enter Tryz.func44, Tryz.ntmps44
  go_wp2_with fail
  go_loopw [12] (fun iv wr => ∃ k : Nat, k ≤ l.length ∧ iv = .int .i64 k ∧ ShAt wr sb rb mb c (Sh.layP B c.lines.toNat v l k) (Sh.killP T hart l k) ∧ Two sb mb w wr) (fun iv _ => l.length - (intOf iv).toNat)
  case atStart => exact ⟨0, Nat.zero_le _, rfl, HS0.out, Two.refl _ _ _⟩
  case round =>
    obtain ⟨k, hk, rfl, hsh, htw⟩ := hrel
    have HSH := Lib.hid hsh
    have HT := Lib.hid htw
    clear hsh htw
    by_cases hlt : k < l.length
    · obtain ⟨g, rfl, hrg⟩ := vw_rangeP (own_two HL.out HT.out hsb hmb) hlt
      have HRP := Lib.hid hrg
      have hq := HI.out (l.getD k Sp.p0) (Sh.getD_mem hlt)
      obtain ⟨e1, e2⟩ := lay_step B c.lines.toNat v l T hart k
      have hpr := part_range v (l.getD k Sp.p0).n (l.getD k Sp.p0).s
      generalize l.getD k Sp.p0 = q at *
      obtain ⟨qa, qn, qs⟩ := q
      have q0 : 0 ≤ qa ∧ qa < 18446744073709551616 := ⟨hq.1, hq.2.1⟩
      have q1 : -9223372036854775808 ≤ qn ∧ qn ≤ 9223372036854775807 := hq.2.2
      have HPR := Lib.hid (show 0 ≤ partV v qn qs ∧ partV v qn qs < 18446744073709551616 from hpr)
      have HE1 := Lib.hid e1
      have HE2 := Lib.hid e2
      have hg : (k : Int) < l.length := by omega
      have HP := Lib.hid (CsAt.new wr PCT (pcV qa qn qs))
      have hbn := box_below wr (pcV qa qn qs) PCT
      have HS := Lib.hid (HSH.out.low hbn)
      have HTW := Lib.hid (HT.out.trans (Two.of_below hbn))
      have HNE := Lib.hid (And.intro (show wr.heap.size ≠ sb by have := HSH.out.slt; omega) (show wr.heap.size ≠ mb by have := HSH.out.ram.mlt; omega))
      clear hq hrg hbn hpr e1 e2 HSH HT
      generalize Sh.layP B c.lines.toNat v l k = Bk at *
      generalize Sh.killP T hart l k = Tk at *
      go_upto_region 3 with (first
        | (refine wpList_load_mid rfl PCT _ rfl g (k * 3) rfl _ _ HRP.out Tryz.underlying142 rfl (by kernel_rfl) ?_)
        | (refine wpList_storeNew rfl PCT _ _ rfl #[.int .u64 0, .int .i64 0, .int .i64 0] (pcV qa qn qs) PCT rfl rfl (by kernel_rfl) rfl (pc_one _ _ _) ?_))
      clear HRP
      obtain ⟨pb, hpb⟩ : ∃ pb, pb = wr.heap.size := ⟨_, rfl⟩
      rw [← hpb] at HP HNE
      rw [← hpb]
      clear hpb
      generalize wr.alloc (.cells (pcV qa qn qs) PCT) = wr at *
      refine wp_region_steady_tail (fun W => Below wr.heap.size wr W) 12 (by kernel_rfl) (by kernel_rfl) (Below.refl _ _).drew ?_
      iterate 4
        refine steady_val ?_ ?_ (by kernel_rfl) (fun W hS => ?_) ?_ ?_
        rotate_left 2
        · go_simp
          exact rfl
        · go_simp
          exact rfl
      refine steady_val ?_ ?_ (by kernel_rfl) (fun W hS => ?_) ?_ ?_
      rotate_left 2
      · have m := (HS.out.low hS).c0; go_simp
        exact rfl
      · go_simp
        exact rfl
      refine steady_val ?_ ?_ (by kernel_rfl) (fun W hS => ?_) ?_ ?_
      rotate_left 2
      · go_simp
        exact rfl
      · go_simp
        exact rfl
      refine steady_val ?_ ?_ (by kernel_rfl) (fun W hS => ?_) ?_ ?_
      rotate_left 2
      · have d0 := (HP.out.low hS).cell 0; go_simp
        exact rfl
      · go_simp
        exact rfl
      refine steady_val ?_ ?_ (by kernel_rfl) (fun W hS => ?_) ?_ ?_
      rotate_left 2
      · go_simp
        exact rfl
      · go_simp
        exact rfl
      refine steady_val ?_ ?_ (by kernel_rfl) (fun W hS => ?_) ?_ ?_
      rotate_left 2
      · have d1 := (HP.out.low hS).cell 1; go_simp
        exact rfl
      · go_simp
        exact rfl
      refine steady_val ?_ ?_ (by kernel_rfl) (fun W hS => ?_) ?_ ?_
      rotate_left 2
      · go_simp
        exact rfl
      · go_simp
        exact rfl
      refine steady_val (.agg (pcV qa qn qs)) ?_ (by kernel_rfl) (fun W hS => exec_load_row PCT _ rfl pb rfl PCT _ _ (HP.out.low hS) Tryz.underlying142 rfl (by kernel_rfl)) ?_ ?_
      rotate_left 1
      · go_simp
        exact rfl
      refine steady_enter (.int .u64 (partV v qn qs)) 77 #[.int .u64 v, .agg (pcV qa qn qs)] ?_ (by kernel_rfl) (fun W hS => ?_) (fun W hS => (part_c v qa qn qs W HV.out).mono fun e w' hh => ⟨hh.1, hS.trans (hh.2.mono hS.size)⟩) ?_ ?_
      rotate_left 1
      · go_simp
      · go_simp
        exact rfl
      refine steady_nil ?_
      intro W3 hW
      simp only [List.drop_succ_cons, List.drop_zero]
      have HS3 := Lib.hid (HS.out.low hW)
      have HP3 := Lib.hid (HP.out.low hW)
      have HT3 := Lib.hid (HTW.out.trans (Two.of_below hW))
      clear hW HS HP HTW
      go_wp2_with fail
      refine (store_c HS3.out.ram qa qn (partV v qn qs) q0 q1 HPR.out).mono ?_
      rintro e w6 ⟨rfl, hr6, ho6⟩
      have HS6 := Lib.hid (HS3.out.laid hr6 ho6)
      have HP6 := Lib.hid (show CsAt w6 pb PCT (pcV qa qn qs) from (ho6.block pb HP3.out.lt HNE.out.2).trans HP3.out)
      have HT6 := Lib.hid (HT3.out.trans (Two.of_only ho6))
      clear hr6 ho6 HS3 HP3 HT3
      go_upto_region 4 with fail
      refine wp_region_steady_tail (fun W => Below w6.heap.size w6 W) 7 (by kernel_rfl) (by kernel_rfl) (Below.refl _ _).drew ?_
      iterate 4
        refine steady_val ?_ ?_ (by kernel_rfl) (fun W hS => ?_) ?_ ?_
        rotate_left 2
        · go_simp
          exact rfl
        · go_simp
          exact rfl
      refine steady_val ?_ ?_ (by kernel_rfl) (fun W hS => ?_) ?_ ?_
      rotate_left 2
      · have d0 := (HP6.out.low hS).cell 0; go_simp
        exact rfl
      · go_simp
        exact rfl
      refine steady_enter (.int .u64 (qa / 64)) 37 #[.int .u64 qa] ?_ (by kernel_rfl) (fun W hS => ?_) (fun W hS => (sline_c qa W q0.1 q0.2).mono fun e w' hh => ⟨hh.1, hh.2 ▸ hS⟩) ?_ ?_
      rotate_left 1
      · go_simp
      · go_simp
        exact rfl
      refine steady_val ?_ ?_ (by kernel_rfl) (fun W hS => ?_) ?_ ?_
      rotate_left 2
      · go_simp
        exact rfl
      · go_simp
        exact rfl
      refine steady_nil ?_
      intro W7 hW
      simp only [List.drop_succ_cons, List.drop_zero]
      have HS7 := Lib.hid (HS6.out.low hW)
      have HT7 := Lib.hid (HT6.out.trans (Two.of_below hW))
      clear hW HS6 HP6 HT6
      go_wp2_with fail
      refine (rkill_c sb 5 Tk (qa / 64) hart W7 HS7.out.tab).mono ?_
      rintro e w8 ⟨rfl, ht8, hm8⟩
      have HS8 := Lib.hid (HS7.out.set ht8 hm8)
      have HT8 := Lib.hid (HT7.out.trans (Two.of_mid hm8))
      clear ht8 hm8 HS7 HT7
      go_wp2_with fail
      go_roundw
      case rel => exact ⟨k + 1, by omega, by go_num, by rw [HE1.out, HE2.out]; exact HS8.out, HT8.out⟩
      case measure => simp [intOf]; omega
    · obtain rfl : k = l.length := by omega
      go_wp2_with fail
      go_end0
      exact ⟨rfl, HSH.out, HT.out⟩
end Go.Proofs.YtjeolfcefeglpabGreat
