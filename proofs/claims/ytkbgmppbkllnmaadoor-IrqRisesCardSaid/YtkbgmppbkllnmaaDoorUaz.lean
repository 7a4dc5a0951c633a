/-
  IrqNext walked.
-/
import Derived.Test.YtkbgmppbkllnmaaDoorUay
import Derived.Test.YtkbgmppbkllnmaaDoorUat
set_option maxRecDepth 20000
namespace Go.Proofs.YtkbgmppbkllnmaaDoor
open Go.ChangeShapes Go.WideShapes Go.ChangeAt Go.RowKit Wd Csr Sta Cf Cau

theorem OrderIn.chg {S : Nat → Prop} {w w' : World} (h : OrderIn w) (hc : Chg S w w') (hS : ¬ S 0) : OrderIn w' :=
  ⟨Nat.lt_of_lt_of_le h.1 hc.size, fun k hk => hc.cell (h.2 k hk) hS⟩
theorem next_zero (p l : Int) : nextG (fun _ _ => 0) p l = none := by
  have h : ∀ k, rowO (fun _ _ => 0) p l k = none := by
    intro k
    unfold rowO forM forS waitG
    have a : bits .and .u64 0 0 = 0 := by decide
    have b : bits .andNot .u64 0 0 = 0 := by decide
    have c : fstI 0 = none := by decide +kernel
    rw [a, b, a]
    simp [c]
  unfold nextG
  rw [h 0, h 1]
theorem wait_zero (l : Int) : waitG (fun _ _ => 0) l = 0 := by
  show bits .and .u64 0 0 = 0
  decide
theorem row_mem {gt : Int → Int → Int} {p l : Int} {k c : Nat} (h : rowO gt p l k = some c) : c ∈ ordK := by
  unfold rowO at h
  generalize letsS (gt 768 0) p (if k = 0 then 3 else 1) = b at h
  cases b
  · cases h
  · exact List.mem_of_find?_eq_some h
theorem next_mem {gt : Int → Int → Int} {p l : Int} {c : Nat} (h : nextG gt p l = some c) : c ∈ ordK := by
  unfold nextG at h
  split at h
  · rename_i d hd
    cases h
    exact row_mem hd
  · exact row_mem h
theorem next_i64 (gt : Int → Int → Int) (p l : Int) : I64 (((nextG gt p l).getD 0 : Nat) : Int) := by
  cases h : nextG gt p l with
  | none => exact ⟨by show (_ : Int) ≤ ((0 : Nat) : Int); omega, by show ((0 : Nat) : Int) ≤ _; omega⟩
  | some c =>
    have := ord_64 (next_mem h)
    exact ⟨by show (_ : Int) ≤ (c : Int); omega, by show (c : Int) ≤ _; omega⟩
theorem eq_selfR (b : Bool) {n : Int} (hn : I64 n) (W : World) : (binOp .eql RcT (.agg #[.bool b, .int .i64 n]) (.agg #[.bool b, .int .i64 n])).run Tryd.prog W = .ok (.bool true) W := by
  rw [eql_rc b b hn hn W]; simp
theorem eql_fl {s : S} (ok : Ok s) (w : World) : (binOp .eql FlT (.agg (fileV s)) (.agg (fileV s))).run Tryd.prog w = .ok (.bool true) w := by
  rw [Eqf.beql w 6 (by omega) FlT ksF (by kernel_rfl) (by kernel_rfl) _ _ (formed_fl s) (formed_fl s) (okL_F ok) (okL_F ok), Eqf.eqL_self (okL_F ok)]
/-- What stands in the laws of layer 24: the file, the reference's, the tables. -/
structure IqS (w W : World) (g gx : Nat) (s : S) : Prop where
  fl : FlAt W g s
  x : CsAt W gx RfT (refV s)
  n : RowsIn W
  k : KeptIn W
  o : OrderIn W
  hg : w.heap.size ≤ g
  far : g ≠ 2 ∧ g ≠ 1
  faro : g ≠ 0
  bel : Below w.heap.size w W
section
variable {w W W' : World} {g gx : Nat} {s s' : S}
theorem IqS.low (h : IqS w W g gx s) (hb : Below W.heap.size W W') : IqS w W' g gx s := ⟨h.fl.low hb, h.x.low hb, h.n.low hb, h.k.low hb, h.o.low hb, h.hg, h.far, h.faro, h.bel.trans (hb.mono h.bel.size)⟩
theorem IqS.drew (h : IqS w W g gx s) : IqS w W.drew g gx s := ⟨h.fl.drew, h.x, h.n, h.k, h.o, h.hg, h.far, h.faro, h.bel.drew⟩
theorem IqS.rd (h : IqS w W g gx s) : Reads (.pointer (some ⟨g, 0, none⟩)) (getS s) W := reads_file h.k h.fl
end
theorem IqS.new {w W : World} (hT : RowsIn w ∧ KeptIn w) (hO : OrderIn w) (hb : Below w.heap.size w W) {s : S} (ok : Ok s) :
    IqS w ((((W.alloc (.cells (fileV (zero 0)) FlT)).alloc (.cells (refV (zero 0)) RfT)).setRow W.heap.size (fileV s)).setRow (W.heap.size + 1) (refV s)) W.heap.size (W.heap.size + 1) s := by
  obtain ⟨h1, h2, h3⟩ := boxed W (fileV (zero 0)) (fileV s) (refV (zero 0)) (refV s)
  have hB := hb.trans (h3.mono hb.size)
  have hs := hb.size
  have ho := hO.1
  exact ⟨⟨h1, ok⟩, h2, hT.1.low hB, hT.2.low hB, hO.low hB, hs, new_far hT.1 hT.2 hs, by omega, hB⟩
def lvI : S := setS (new 0) 772 136
theorem lvI_0 : nextG (getS lvI) 0 136 = some 3 := by decide +kernel
theorem lvI_3 : nextG (getS lvI) 3 136 = none := by decide +kernel
theorem lvI_w : (waitG (getS lvI) 136 != 0) = true := by decide +kernel
set_option maxHeartbeats 8000000 in
theorem live24_c (w : World) (hT : RowsIn w ∧ KeptIn w) (hO : OrderIn w) : Calls Tryd.prog 20 #[] w fun e w' => e = .returned (.bool true) ∧ Below w.heap.size w w' := by
  have HT := Lib.hid hT
  have HO := Lib.hid hO
  have HNW := Lib.hid (fnew_c 0 ⟨by omega, by omega⟩ w hT.2)
  clear hT hO
  go_enter Tryd.func20, Tryd.ntmps20
  go_wp2_with fail
  refine HNW.out.mono ?_
  rintro e w1 ⟨rfl, hb1⟩
  have HB1 := Lib.hid hb1
  clear hb1 HNW
  go_upto_region 2 with (first
    | (refine wpList_allocY rfl _ rfl FlT rfl (fileV (zero 0)) (zero_fl _) ?_)
    | (refine wpList_storeNew (w0 := w1) rfl FlT _ _ rfl (fileV (zero 0)) (fileV (new 0)) FlT rfl rfl (iFl _) (by rw [fileV_size, fileV_size]) (flV_one _) ?_))
  have HF1 := Lib.hid (show FlAt (w1.alloc (.cells (fileV (new 0)) FlT)) w1.heap.size (new 0) from ⟨CsAt.new w1 FlT (fileV (new 0)), new_ok ⟨by omega, by omega⟩⟩)
  have HB2 := Lib.hid (HB1.out.alloc HB1.out.size (.cells (fileV (new 0)) FlT))
  have HFR := Lib.hid (new_far HT.out.1 HT.out.2 HB1.out.size)
  have HGE := Lib.hid HB1.out.size
  have HFO := Lib.hid (show w1.heap.size ≠ 0 from fun e => by have := HO.out.1; have := HB1.out.size; omega)
  clear HB1
  generalize w1.alloc (.cells (fileV (new 0)) FlT) = w2 at *
  generalize w1.heap.size = g at *
  go_wp2_with fail
  refine (fset_c g 772 136 (new 0) ⟨by omega, by omega⟩ _ (HT.out.1.low HB2.out) (HT.out.2.low HB2.out) HF1.out).mono ?_
  rintro e w3 ⟨rfl, hq⟩
  have hb3 := HB2.out.trans (hq.chg.below HB2.out.size (fun k hk => by rw [show k = g from hk]; exact HGE.out))
  have HP := Lib.hid (show FlAt w3 g lvI ∧ KeptIn w3 ∧ OrderIn w3 ∧ Below w.heap.size w w3 from ⟨hq.fl, HT.out.2.low hb3, HO.out.low hb3, hb3⟩)
  clear hq hb3 HF1 HB2 HT HO
  have OKI := Lib.hid HP.out.1.ok
  have HN0 := Lib.hid (fun W (hf : FlAt W g lvI) (hk : KeptIn W) (ho : OrderIn W) => inext_c (.pointer (some ⟨g, 0, none⟩)) (getS lvI) (w64_file OKI.out) 0 136 ⟨by omega, by omega⟩ W (reads_file hk hf) ho)
  rw [lvI_0] at HN0
  have HN3 := Lib.hid (fun W (hf : FlAt W g lvI) (hk : KeptIn W) (ho : OrderIn W) => inext_c (.pointer (some ⟨g, 0, none⟩)) (getS lvI) (w64_file OKI.out) 3 136 ⟨by omega, by omega⟩ W (reads_file hk hf) ho)
  rw [lvI_3] at HN3
  have HWK := Lib.hid (fun W (hf : FlAt W g lvI) (hk : KeptIn W) => iwakes_c (.pointer (some ⟨g, 0, none⟩)) (getS lvI) 136 W (reads_file hk hf))
  rw [lvI_w] at HWK
  clear OKI
  generalize lvI = s at *
  unfold oI at HN0 HN3
  dsimp only [Option.isSome, Option.getD] at HN0 HN3
  go_wp2_with fail
  refine (HN0.out _ HP.out.1 HP.out.2.1 HP.out.2.2.1).mono ?_
  rintro e w4 ⟨rfl, hb⟩
  have HP4 := Lib.hid (show FlAt w4 g s ∧ KeptIn w4 ∧ OrderIn w4 ∧ Below w.heap.size w w4 from ⟨HP.out.1.low hb, HP.out.2.1.low hb, HP.out.2.2.1.low hb, HP.out.2.2.2.trans (hb.mono HP.out.2.2.2.size)⟩)
  clear hb HP HN0
  go_upto_region 4 with (first
    | (refine wpList_allocY rfl _ rfl CaT rfl #[.bool false, .int .i64 0] (zero_caI _) ?_)
    | (refine wpList_storeNew (w0 := w4) rfl CaT _ _ rfl #[.bool false, .int .i64 0] #[.bool true, .int .i64 (3 : Nat)] CaT rfl rfl info_caI rfl rfl ?_))
  have hb5 : Below w4.heap.size w4 (w4.alloc (.cells #[.bool true, .int .i64 (3 : Nat)] CaT)) := (Below.refl _ _).alloc (Nat.le_refl _) _
  have HC := Lib.hid (CsAt.new w4 CaT #[.bool true, .int .i64 (3 : Nat)])
  have HP5 := Lib.hid (show FlAt _ g s ∧ KeptIn _ ∧ OrderIn _ ∧ Below w.heap.size w _ from ⟨HP4.out.1.low hb5, HP4.out.2.1.low hb5, HP4.out.2.2.1.low hb5, HP4.out.2.2.2.trans (hb5.mono HP4.out.2.2.2.size)⟩)
  clear hb5 HP4
  generalize w4.alloc (.cells #[.bool true, .int .i64 (3 : Nat)] CaT) = w5 at *
  generalize w4.heap.size = gc at *
  go_wp2_with fail
  refine (HN3.out _ HP5.out.1 HP5.out.2.1 HP5.out.2.2.1).mono ?_
  rintro e w6 ⟨rfl, hb⟩
  have HP6 := Lib.hid (show FlAt w6 g s ∧ KeptIn w6 ∧ OrderIn w6 ∧ Below w.heap.size w w6 from ⟨HP5.out.1.low hb, HP5.out.2.1.low hb, HP5.out.2.2.1.low hb, HP5.out.2.2.2.trans (hb.mono HP5.out.2.2.2.size)⟩)
  have HC6 := Lib.hid (HC.out.low hb)
  clear hb HP5 HC HN3
  go_upto_region 5 with (first
    | (refine wpList_allocY rfl _ rfl CaT rfl #[.bool false, .int .i64 0] (zero_caI _) ?_)
    | (refine wpList_storeNew (w0 := w6) rfl CaT _ _ rfl #[.bool false, .int .i64 0] #[.bool false, .int .i64 (0 : Nat)] CaT rfl rfl info_caI rfl rfl ?_))
  have hb7 : Below w6.heap.size w6 (w6.alloc (.cells #[.bool false, .int .i64 (0 : Nat)] CaT)) := (Below.refl _ _).alloc (Nat.le_refl _) _
  have HC7 := Lib.hid (HC6.out.low hb7)
  have HP7 := Lib.hid (show FlAt _ g s ∧ KeptIn _ ∧ OrderIn _ ∧ Below w.heap.size w _ from ⟨HP6.out.1.low hb7, HP6.out.2.1.low hb7, HP6.out.2.2.1.low hb7, HP6.out.2.2.2.trans (hb7.mono HP6.out.2.2.2.size)⟩)
  clear hb7 HP6 HC6
  generalize w6.alloc (.cells #[.bool false, .int .i64 (0 : Nat)] CaT) = w7 at *
  have heq : (binOp .eql CaT (.agg #[.bool true, .int .i64 3]) (.agg #[.bool true, .int .i64 3])).run Tryd.prog w7 = .ok (.bool true) w7 := eq_self true ⟨by omega, by omega⟩ w7
  go_wp2_with (refine wpList_load_rowF (by kernel_rfl) CaT _ rfl gc rfl CaT _ (0, 0) _ HC7.out Tryd.underlying24 rfl info_caI ?_)
  refine (HWK.out _ HP7.out.1 HP7.out.2.1).mono ?_
  rintro e w8 ⟨rfl, hb⟩
  have HB8 := Lib.hid (HP7.out.2.2.2.trans (hb.mono HP7.out.2.2.2.size))
  clear hb
  go_wp2_with fail
  go_ret
  exact ⟨rfl, HB8.out⟩
set_option maxHeartbeats 16000000 in
theorem inext_walk (ao : Option Addr) (n cap : Nat) (l : List Df) (p ln : Int) (w : World) (hds : Dfs w ao n l) (hln : 0 ≤ ln ∧ ln ≤ 18446744073709551615) (hT : RowsIn w ∧ KeptIn w) (hO : OrderIn w) :
    Calls Tryd.prog 5 #[.slice ao n cap, .int .i64 p, .int .u64 ln] w fun e w' => e = .returned (.bool true) ∧ Below w.heap.size w w' := by
  have HT := Lib.hid hT
  have HO := Lib.hid hO
  have HLN := Lib.hid (lt64 hln)
  have HFI := Lib.hid (fun (W : World) (hb : Below w.heap.size w W) => files_c ao n cap l W (hds.low hb) ⟨hT.1.low hb, hT.2.low hb⟩)
  have HZN := Lib.hid (inext_c (.pointer none) (fun _ _ => 0) w64_zero p ln (lt64 hln) w (reads_nil w) hO)
  rw [next_zero] at HZN
  have HZW := Lib.hid (fun W => iwait_c (.pointer none) (fun _ _ => 0) ln W (reads_nil W))
  have HZK := Lib.hid (fun W => iwakes_c (.pointer none) (fun _ _ => 0) ln W (reads_nil W))
  rw [wait_zero] at HZW HZK
  rw [show ((0 : Int) != 0) = false from rfl] at HZK
  unfold oI at HZN
  dsimp only [Option.isSome, Option.getD] at HZN
  clear hds hT hO hln
  go_enter Tryd.func5, Tryd.ntmps5
  go_wp2_with fail
  refine HZN.out.mono ?_
  rintro e w1 ⟨rfl, hb⟩
  have HB1 := Lib.hid hb
  clear hb HZN
  go_upto_region 2 with (first
    | (refine wpList_allocY rfl _ rfl CaT rfl #[.bool false, .int .i64 0] (zero_caI _) ?_)
    | (refine wpList_storeNew (w0 := w1) rfl CaT _ _ rfl #[.bool false, .int .i64 0] #[.bool false, .int .i64 (0 : Nat)] CaT rfl rfl info_caI rfl rfl ?_))
  have HB2 := Lib.hid (HB1.out.alloc HB1.out.size (.cells #[.bool false, .int .i64 (0 : Nat)] CaT))
  clear HB1
  generalize w1.alloc (.cells #[.bool false, .int .i64 (0 : Nat)] CaT) = w2 at *
  go_wp2_with fail
  refine (HZW.out _).mono ?_
  rintro e w3 ⟨rfl, hb⟩
  have HB3 := Lib.hid (HB2.out.trans (hb.mono HB2.out.size))
  clear hb HB2 HZW
  go_wp2_with fail
  refine (HZK.out _).mono ?_
  rintro e w4 ⟨rfl, hb⟩
  have HB4 := Lib.hid (HB3.out.trans (hb.mono HB3.out.size))
  clear hb HB3 HZK
  by_cases hlong : 30 < n
  · have g0 : decide ((n : Int) > 30) = true := by simp; omega
    clear hlong
    go_wp2_with fail
    refine (live24_c _ ⟨HT.out.1.low HB4.out, HT.out.2.low HB4.out⟩ (HO.out.low HB4.out)).mono ?_
    rintro e w5 ⟨rfl, hb⟩
    have HB := Lib.hid (HB4.out.trans (hb.mono HB4.out.size))
    clear hb
    go_wp2_with fail
    go_ret
    exact ⟨rfl, HB.out⟩
  · have g0 : decide ((n : Int) > 30) = false := by simp; omega
    clear hlong
    go_upto_region 6 with fail
    go_wp2_with fail
    refine (HFI.out _ HB4.out).mono ?_
    rintro e w5 ⟨s, ok, al, rfl, hb⟩
    have HP := Lib.hid (IqS.new HT.out HO.out (HB4.out.trans (hb.mono HB4.out.size)) ok)
    clear hb al ok HB4 HFI HT HO
    go_upto_region 7 with (first
      | (refine wpList_allocY rfl _ rfl FlT rfl (fileV (zero 0)) (zero_fl _) ?_)
      | (refine wpList_allocY rfl _ rfl RfT rfl (refV (zero 0)) (zero_rf _) ?_)
      | (refine wpList_store_row rfl FlT _ _ rfl w5.heap.size (fileV s) rfl rfl FlT _ (boxA w5 _ _) (iFl _) (by rw [fileV_size, fileV_size]) (flV_one _) ?_)
      | (refine wpList_store_row rfl RfT _ _ rfl (w5.alloc (.cells (fileV (zero 0)) FlT)).heap.size (refV s) rfl rfl RfT _ (boxD w5 _ _ _) (iRf _) (by rw [refV_size, refV_size]) (rfV_one _) ?_))
    try simp only [World.size_alloc]
    generalize ((((w5.alloc (.cells (fileV (zero 0)) FlT)).alloc (.cells (refV (zero 0)) RfT)).setRow w5.heap.size (fileV s)).setRow (w5.heap.size + 1) (refV s)) = w6 at *
    generalize w5.heap.size + 1 = gx at *
    generalize w5.heap.size = g at *
    go_upto_region 8 with (first
      | (refine wpList_load_row rfl FlT _ rfl g rfl FlT _ (0, 0) _ HP.out.fl.r Tryd.underlying35 rfl (iFl _) ?_)
      | (refine wpList_allocY rfl _ rfl FlT rfl (fileV (zero 0)) (zero_fl _) ?_)
      | (refine wpList_storeNew (w0 := w6) rfl FlT _ _ rfl (fileV (zero 0)) (fileV s) FlT rfl rfl (iFl _) (by rw [fileV_size, fileV_size]) (flV_one _) ?_))
    have hb7 : Below w6.heap.size w6 (w6.alloc (.cells (fileV s) FlT)) := (Below.refl _ _).alloc (Nat.le_refl _) _
    have HP7 := Lib.hid (HP.out.low hb7)
    have HW7 := Lib.hid (CsAt.new w6 FlT (fileV s))
    clear hb7 HP
    generalize w6.alloc (.cells (fileV s) FlT) = w7 at *
    generalize w6.heap.size = gw at *
    have OK := Lib.hid HP7.out.fl.ok
    have HNX := Lib.hid (fun W (h : IqS w W g gx s) => inext_c (.pointer (some ⟨g, 0, none⟩)) (getS s) (w64_file OK.out) p ln HLN.out W h.rd h.o)
    have HRN := Lib.hid (fun W => rnext_c s OK.out p ln HLN.out W)
    have HWT := Lib.hid (fun W (h : IqS w W g gx s) => iwait_c (.pointer (some ⟨g, 0, none⟩)) (getS s) ln W h.rd)
    have HRW := Lib.hid (fun W => rwait_c s OK.out ln HLN.out W)
    have HWK := Lib.hid (fun W (h : IqS w W g gx s) => iwakes_c (.pointer (some ⟨g, 0, none⟩)) (getS s) ln W h.rd)
    have HI := Lib.hid (next_i64 (getS s) p ln)
    unfold oI at HNX HRN
    generalize (nextG (getS s) p ln).isSome = nb at *
    generalize (((nextG (getS s) p ln).getD 0 : Nat) : Int) = nn at *
    generalize waitG (getS s) ln = wt at *
    go_wp2_with fail
    refine (HNX.out _ HP7.out).mono ?_
    rintro e w8 ⟨rfl, hb⟩
    have HP8 := Lib.hid (HP7.out.low hb)
    have HW8 := Lib.hid (HW7.out.low hb)
    clear hb HP7 HW7 HNX
    go_upto_region 9 with (first
      | (refine wpList_allocY rfl _ rfl CaT rfl #[.bool false, .int .i64 0] (zero_caI _) ?_)
      | (refine wpList_storeNew (w0 := w8) rfl CaT _ _ rfl #[.bool false, .int .i64 0] #[.bool nb, .int .i64 nn] CaT rfl rfl info_caI rfl rfl ?_))
    have hb9 : Below w8.heap.size w8 (w8.alloc (.cells #[.bool nb, .int .i64 nn] CaT)) := (Below.refl _ _).alloc (Nat.le_refl _) _
    have HP9 := Lib.hid (HP8.out.low hb9)
    have HW9 := Lib.hid (HW8.out.low hb9)
    have HC9 := Lib.hid (CsAt.new w8 CaT #[.bool nb, .int .i64 nn])
    clear hb9 HP8 HW8
    generalize w8.alloc (.cells #[.bool nb, .int .i64 nn] CaT) = w9 at *
    generalize w8.heap.size = gc at *
    go_wp2_with (refine wpList_load_row rfl RfT _ rfl gx rfl RfT _ (0, 0) _ HP9.out.x Tryd.underlying38 rfl (iRf _) ?_)
    refine (HRN.out _).mono ?_
    rintro e wa ⟨rfl, hb⟩
    have HPA := Lib.hid (HP9.out.low hb)
    have HWA := Lib.hid (HW9.out.low hb)
    have HCA := Lib.hid (HC9.out.low hb)
    clear hb HP9 HW9 HC9 HRN
    go_upto_region 10 with (first
      | (refine wpList_allocY rfl _ rfl RcT rfl #[.bool false, .int .i64 0] (zero_rcI _) ?_)
      | (refine wpList_storeNew (w0 := wa) rfl RcT _ _ rfl #[.bool false, .int .i64 0] #[.bool nb, .int .i64 nn] RcT rfl rfl info_rcI rfl rfl ?_))
    have hbb : Below wa.heap.size wa (wa.alloc (.cells #[.bool nb, .int .i64 nn] RcT)) := (Below.refl _ _).alloc (Nat.le_refl _) _
    have HPB := Lib.hid (HPA.out.low hbb)
    have HWB := Lib.hid (HWA.out.low hbb)
    have HCB := Lib.hid (HCA.out.low hbb)
    have HDB := Lib.hid (CsAt.new wa RcT #[.bool nb, .int .i64 nn])
    clear hbb HPA HWA HCA
    generalize wa.alloc (.cells #[.bool nb, .int .i64 nn] RcT) = wb at *
    generalize wa.heap.size = gd at *
    go_wp2_with (refine wpList_load_row rfl RfT _ rfl gx rfl RfT _ (0, 0) _ HPB.out.x Tryd.underlying38 rfl (iRf _) ?_)
    refine (HRW.out _).mono ?_
    rintro e wc ⟨rfl, hb⟩
    have HPC := Lib.hid (HPB.out.low hb)
    have HWC := Lib.hid (HWB.out.low hb)
    have HCC := Lib.hid (HCB.out.low hb)
    have HDC := Lib.hid (HDB.out.low hb)
    clear hb HPB HWB HCB HDB HRW
    have heq := eq_selfR nb HI.out wc
    have hbb : (nb == nb) = true := by simp
    have hww : (wt == wt) = true := by simp
    go_wp2_with (first
      | (refine wpList_load_row rfl CaT _ rfl gc rfl CaT _ (0, 0) _ HCC.out Tryd.underlying24 rfl info_caI ?_)
      | (refine wpList_load_row rfl RcT _ rfl gd rfl RcT _ (0, 0) _ HDC.out Tryd.underlying41 rfl info_rcI ?_))
    refine (HWT.out _ HPC.out).mono ?_
    rintro e wd ⟨rfl, hb⟩
    have HPD := Lib.hid (HPC.out.low hb)
    have HWD := Lib.hid (HWC.out.low hb)
    clear hb HPC HWC HCC HDC HWT heq
    go_wp2_with fail
    refine (HWK.out _ HPD.out).mono ?_
    rintro e we ⟨rfl, hb⟩
    have HPE := Lib.hid (HPD.out.low hb)
    have HWE := Lib.hid (HWD.out.low hb)
    clear hb HPD HWD HWK
    obtain ⟨wz, hwz⟩ : ∃ z, (wt != 0) = z := ⟨_, rfl⟩
    rw [hwz]
    have hnz : (wz == wz) = true := by simp
    go_wp2_with (first
      | (refine wpList_load_rowF (by kernel_rfl) FlT _ rfl g rfl FlT _ (0, 0) _ HPE.out.fl.r Tryd.underlying35 rfl (iFl _) ?_)
      | (refine wpList_load_rowF (by kernel_rfl) FlT _ rfl gw rfl FlT _ (0, 0) _ HWE.out Tryd.underlying35 rfl (iFl _) ?_)
      | (refine wpList_cmpW (by kernel_rfl) .eql FlT _ _ _ rfl (fileV s) (fileV s) rfl rfl guard_fl _ (eql_fl OK.out _) ?_))
    refine (live24_c _ ⟨HPE.out.n, HPE.out.k⟩ HPE.out.o).mono ?_
    rintro e wf ⟨rfl, hb⟩
    have HPF := Lib.hid (HPE.out.low hb)
    clear hb
    go_wp2_with fail
    go_ret
    exact ⟨rfl, HPF.out.bel⟩
end Go.Proofs.YtkbgmppbkllnmaaDoor
