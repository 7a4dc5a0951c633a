/-
  BusFits walked.
-/
import Derived.Test.YtkknfhbaldeigaaBsD
import Derived.Test.YtkknfhbaldeigaaBuN
import Derived.Test.YtkknfhbaldeigaaBuH
import Derived.Test.YtkknfhbaldeigaaSteady
set_option maxRecDepth 20000
namespace Go.Proofs.Ytkknfhbaldeigaa
open Go.ChangeShapes Go.WideShapes Go.ChangeAt Go.RowKit

/-- A whole row loaded by an operation whose guard says yes. -/
theorem wpList_load_rowG {P : Program} {ops : Array Oper} {rest : List Oper} {o : Oper} {a : Act} {w : World} {Q : Exit → Act → World → Prop} (hw : Region.wanted o (yielded ops a.tmps) = true) (ty : TypeId) (x : Operand) (ho : o.op = .load ty x)
    (g : Nat) (hx : a.eval x = .pointer (some ⟨g, 0, none⟩)) (t : TypeId) (cs : Array Value) (fr : Nat × Nat) (d : TypeDesc) (hg : w.heap[g]? = some (.cells cs t fr))
    (hu : P.underlying ty = some d) (hd : (match d with | .struct _ | .array _ _ => true | _ => false) = true) (hi : (P.info? ty).map (·.size) = some cs.size)
    (h : wpList P ops Q rest (a.put o.dst (.agg cs)) w) : wpList P ops Q (o :: rest) a w :=
  wpList_step fun _ hK => by
    rw [if_pos hw]
    exact wp_load_row ty x ho g hx t cs fr d hg hu hd hi (hK _ _ h)
theorem wh_pos2 (n : Int) (a size : Int) : decide (0 < Bs.whN n a size) = decide (Bs.dev n a size < 3) := by
  apply decide_eq_decide.2
  unfold Bs.whN
  split <;> omega
/-- What stands while BusFits compares: what is asked, in its box. -/
structure BfS (w W : World) (k : Ak) : Prop where
  a : AkAt W w.heap.size k
  bel : Below w.heap.size w W
theorem BfS.low {w W W' : World} {k : Ak} (h : BfS w W k) (hb : Below W.heap.size W W') : BfS w W' k := ⟨h.a.low hb, h.bel.trans (hb.mono h.bel.size)⟩
theorem BfS.drew {w W : World} {k : Ak} (h : BfS w W k) : BfS w W.drew k := ⟨⟨h.a.cs⟩, h.bel.drew⟩
theorem BfS.alloc {w W : World} {k : Ak} (h : BfS w W k) (o : Obj) : BfS w (W.alloc o) k := h.low ((Below.refl _ _).alloc (Nat.le_refl _) _)
set_option maxHeartbeats 8000000 in
set_option maxRecDepth 100000 in
theorem bfits_walk (w : World) (h a : Int) (k : Ak) (hh : -9223372036854775808 ≤ h ∧ h ≤ 9223372036854775807) (ha : 0 ≤ a ∧ a ≤ 18446744073709551615) (hk : k.In) :
    Calls Try.prog 3 #[.int .i64 h, .int .u64 a, .agg k.cells] w fun e w' => e = .returned (.bool true) ∧ Below w.heap.size w w' := by
  have hS0 : BfS w (w.alloc (.cells k.cells AKT)) k := ⟨⟨CsAt.new w AKT k.cells⟩, (Below.refl _ _).alloc (Nat.le_refl _) _⟩
  have HS := Lib.hid hS0
  have hz := zero_an
  have HZD := Lib.hid (fun W => zbdo_c 0 k W)
  have HZM := Lib.hid (fun W => zbmay_c k W)
  have HLv := Lib.hid (fun W => live18_c W)
  have HF := Lib.hid (fun (j : Nat) (hj : j < 10) W => bfits_c h a j (by omega) W)
  have HW := Lib.hid (fun (j : Nat) W => rwhere_c h a j ha.1 ha.2 W)
  have HN := Lib.hid (fun W => bnew_c h W)
  have HPOS := Lib.hid (fun (j : Nat) => And.intro (wh_pos h a j) (wh_pos2 h a j))
  have HMY := Lib.hid (fun (n b : Nat) W hc => may_c n b k hk.size W hc)
  have HRN := Lib.hid (fun (n : Nat) hn W => rnewB_c n hn W)
  have HRM := Lib.hid (fun (n : Nat) (x : Array Value) hx W => rmayB_c n x hx k hk.addr W)
  have hnp : ∀ W : World, (binOp .neq 31 (.pointer none) (.pointer none)).run Try.prog W = .ok (.bool false) W := fun W => by kernel_rfl
  clear hS0 hk ha
  go_enter Try.func3, Try.ntmps3
  go_upto_region 1 with (fail)
  generalize w.alloc (.cells k.cells AKT) = w1 at *
  go_upto_region 2 with fail
  go_wp2_with (refine wpList_load_row rfl AKT _ rfl w.heap.size rfl AKT _ (0, 0) _ HS.out.a.cs Try.underlying30 rfl info_AK ?_)
  refine (HZD.out _).mono ?_
  rintro e w2 ⟨rfl, hb⟩
  replace HS := Lib.hid ((HS.out.low hb).alloc (Obj.cells (anB 0) ANT))
  clear hb
  go_upto_region 3 with (refine wpList_storeNew (w0 := w2) rfl ANT _ _ rfl (anB 0) (anB 0) ANT (by kernel_rfl) (by kernel_rfl) (iAN _) rfl (anB_one _) ?_)
  generalize w2.alloc (.cells (anB 0) ANT) = w3 at *
  clear hz
  go_wp2_with (refine wpList_load_rowG rfl AKT _ rfl w.heap.size rfl AKT _ (0, 0) _ HS.out.a.cs Try.underlying30 rfl info_AK ?_)
  refine (HZM.out _).mono ?_
  rintro e w4 ⟨rfl, hb⟩
  replace HS := Lib.hid (HS.out.low hb)
  clear hb
  go_wp2_with fail
  refine (zblines_c 0 _).mono ?_
  rintro e w5 ⟨rfl, rfl⟩
  go_wp2_with fail
  refine (zbtime_c _).mono ?_
  rintro e w6 ⟨rfl, rfl⟩
  go_wp2_with fail
  refine (zbout_c _).mono ?_
  rintro e w7 ⟨rfl, rfl⟩
  go_wp2_with fail
  refine (zbwaiting_c _).mono ?_
  rintro e w8 ⟨rfl, rfl⟩
  go_wp2_with fail
  refine (zbclone_c _).mono ?_
  rintro e w9 ⟨rfl, rfl⟩
  go_wp2_with fail
  refine (zbsame_c _).mono ?_
  rintro e w10 ⟨rfl, rfl⟩
  go_wp2_with fail
  go_loopw [10] (fun iv wr => ∃ j : Nat, j ≤ 10 ∧ iv = .int .i64 j ∧ BfS w wr k) (fun iv _ => 10 - (intOf iv).toNat)
  case atStart => exact ⟨0, by omega, rfl, HS.out⟩
  case round =>
    obtain ⟨j, hj, rfl, hs⟩ := hrel
    have HT := Lib.hid hs
    clear hs HS
    by_cases hlt : j < 10
    · have hl2 : (j : Int) < 10 := by omega
      have HFJ := Lib.hid (fun W => HF.out j hlt W)
      have HWJ := Lib.hid (fun W => HW.out j W)
      obtain ⟨p1, p2⟩ := HPOS.out j
      generalize Bs.whN h a j = d at *
      generalize decide (Bs.dev h a j < 3) = r at *
      have q1 : (r == r) = true := by simp
      clear HF HW HPOS
      go_wp2_with fail
      refine (HFJ.out _).mono ?_
      rintro e v1 ⟨rfl, hb⟩
      replace HT := Lib.hid (HT.out.low hb)
      clear hb
      go_wp2_with fail
      refine (HWJ.out _).mono ?_
      rintro e v2 ⟨rfl, rfl⟩
      go_wp2_with fail
      go_roundw
      case rel => exact ⟨j + 1, by omega, by go_num, HT.out⟩
      case measure => simp [intOf]; omega
    · obtain rfl : j = 10 := by omega
      go_wp2_with fail
      refine (HN.out _).mono ?_
      rintro e v1 ⟨hb, he⟩
      replace HT := Lib.hid (HT.out.low hb)
      clear hb HF HW HPOS
      rcases he with ⟨hno, rfl⟩ | ⟨hyes, F, b, rfl, hB, -, -⟩
      · have hb : h < 1 ∨ 8 < h := by
          unfold Bs.okH at hno
          simp at hno
          omega
        clear hno
        by_cases h1 : h < 1
        · have e1 : decide (h < 1) = true := by simpa using h1
          clear hb h1
          go_wp2_with fail
          refine (HLv.out _).mono ?_
          rintro e v2 ⟨rfl, hb⟩
          replace HT := Lib.hid (HT.out.low hb)
          clear hb
          go_wp2_with fail
          go_ret
          exact ⟨rfl, HT.out.bel⟩
        · have e1 : decide (h < 1) = false := by simpa using h1
          have e2 : decide (h > 8) = true := by simp; omega
          clear hb h1
          go_wp2_with fail
          refine (HLv.out _).mono ?_
          rintro e v2 ⟨rfl, hb⟩
          replace HT := Lib.hid (HT.out.low hb)
          clear hb
          go_wp2_with fail
          go_ret
          exact ⟨rfl, HT.out.bel⟩
      · have hr : 1 ≤ h ∧ h ≤ 8 := by unfold Bs.okH at hyes; simpa using hyes
        have e1 : decide (h < 1) = false := by simp; omega
        have e2 : decide (h > 8) = false := by simp; omega
        obtain ⟨n, rfl⟩ := Int.eq_ofNat_of_zero_le (by omega : 0 ≤ h)
        have HBN := Lib.hid (show v1.cell? ⟨b, 1, none⟩ = some (.int .i64 n) by have := hB.n1; simpa [Bs.new] using this)
        have hbl := hB.lt
        have HLO := Lib.hid (fun (W : World) (hb : Below v1.heap.size v1 W) => (hb.cell (p := ⟨b, 1, none⟩) hbl).trans HBN.out)
        have HMYn := Lib.hid (fun W hc => HMY.out n b W hc)
        have HRNn := Lib.hid (fun W => HRN.out n (by omega) W)
        have HRMn := Lib.hid (fun W => HRM.out n _ (xbV_0 n (x15V n (Ct.newW n)) (x16V n Pc.zeros) uxZ) W)
        generalize Bs.mayB n k = r at *
        generalize xbV n (x15V n (Ct.newW n)) (x16V n Pc.zeros) uxZ = x at *
        have q1 : (r == r) = true := by simp
        clear hr hyes hB hbl HMY HRN HRM hh
        go_upto_region 13 with fail
        refine wp_region_steady (fun W => BfS w W k ∧ Below v1.heap.size v1 W) (by kernel_rfl) (by kernel_rfl) ⟨HT.out.drew, (Below.refl _ _).drew⟩ ?_
        iterate 8
          refine steady_val ?_ ?_ (by kernel_rfl) (fun W hS => ?_) ?_ ?_
          rotate_left 2
          · go_simp
            exact rfl
          · go_simp
            exact rfl
        refine steady_val (.agg k.cells) ?_ (by kernel_rfl) (fun W hS => exec_load_row AKT _ rfl w.heap.size rfl AKT _ _ hS.1.a.cs Try.underlying30 rfl info_AK) ?_ ?_
        rotate_left 1
        · go_simp
          exact rfl
        refine steady_enter (.bool r) 6 #[.pointer (some ⟨b, 0, none⟩), .agg k.cells] ?_ (by kernel_rfl) (fun W hS => ?_) (fun W hS => (HMYn.out W (HLO.out W hS.2)).mono (by rintro e w' ⟨rfl, hb⟩; exact ⟨rfl, hS.1.low hb, hS.2.trans (hb.mono hS.2.size)⟩)) ?_ ?_
        rotate_left 1
        · go_simp
        · go_simp
          exact rfl
        refine steady_val ?_ ?_ (by kernel_rfl) (fun W hS => ?_) ?_ ?_
        rotate_left 2
        · go_simp
          exact rfl
        · go_simp
          exact rfl
        refine steady_enter (.agg x) 18 #[.int .i64 n] ?_ (by kernel_rfl) (fun W hS => ?_) (fun W hS => (HRNn.out W).mono (by rintro e w' ⟨rfl, hb⟩; exact ⟨rfl, hS.1.low hb, hS.2.trans (hb.mono hS.2.size)⟩)) ?_ ?_
        rotate_left 1
        · go_simp
        · go_simp
          exact rfl
        refine steady_val (.agg k.cells) ?_ (by kernel_rfl) (fun W hS => exec_load_row AKT _ rfl w.heap.size rfl AKT _ _ hS.1.a.cs Try.underlying30 rfl info_AK) ?_ ?_
        rotate_left 1
        · go_simp
          exact rfl
        refine steady_enter (.bool r) 17 #[.agg x, .agg k.cells] ?_ (by kernel_rfl) (fun W hS => ?_) (fun W hS => (HRMn.out W).mono (by rintro e w' ⟨rfl, hb⟩; exact ⟨rfl, hS.1.low hb, hS.2.trans (hb.mono hS.2.size)⟩)) ?_ ?_
        rotate_left 1
        · go_simp
        · go_simp
          exact rfl
        iterate 3
          refine steady_val ?_ ?_ (by kernel_rfl) (fun W hS => ?_) ?_ ?_
          rotate_left 2
          · go_simp
            exact rfl
          · go_simp
            exact rfl
        refine steady_enter (.bool true) 16 #[] ?_ (by kernel_rfl) (fun W hS => ?_) (fun W hS => (HLv.out W).mono (by rintro e w' ⟨rfl, hb⟩; exact ⟨rfl, hS.1.low hb, hS.2.trans (hb.mono hS.2.size)⟩)) ?_ ?_
        rotate_left 1
        · go_simp
        · go_simp
          exact rfl
        iterate 2
          refine steady_val ?_ ?_ (by kernel_rfl) (fun W hS => ?_) ?_ ?_
          rotate_left 2
          · go_simp
            exact rfl
          · go_simp
            exact rfl
        refine steady_nil ?_
        intro W hS
        have HE := Lib.hid hS.1
        clear hS
        go_wp2_with fail
        go_ret
        exact ⟨rfl, HE.out.bel⟩
end Go.Proofs.Ytkknfhbaldeigaa
