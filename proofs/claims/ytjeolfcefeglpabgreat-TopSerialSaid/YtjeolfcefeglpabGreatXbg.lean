/-
  Contract of the reference of layer 14: May. A number that was laid is what is read (layer 14, plain). The reference of layer 14: get, put.
-/
import Derived.Test.YtjeolfcefeglpabGreatXbf
import Derived.Deep.CutBlock
import Derived.Test.YtjeolfcefeglpabGreatXax
import Derived.Deep.MidRow
set_option maxRecDepth 20000
namespace Go.Proofs.YtjeolfcefeglpabGreat
open Go.ChangeShapes Go.WideShapes Go.ChangeAt Go.RowKit Wd

abbrev RMT : TypeId := 36
/-- What stands while May looks. -/
structure RmAt (w W : World) (c : Cf) (g n cap : Nat) (I : Nat → Bool) (L : Nat → Int) (a : Ak) : Prop where
  x : CsAt W w.heap.size SXT (sxC c g n cap I L)
  ak : AkAt W (w.heap.size + 1) a
  bel : Below w.heap.size w W
theorem RmAt.low {w W W' : World} {c : Cf} {g n cap : Nat} {I : Nat → Bool} {L : Nat → Int} {a : Ak} (h : RmAt w W c g n cap I L a) (hb : Below W.heap.size W W') : RmAt w W' c g n cap I L a := ⟨h.x.low hb, h.ak.low hb, h.bel.trans (hb.mono h.bel.size)⟩
theorem rm_new (w : World) (c : Cf) (g n cap : Nat) (I : Nat → Bool) (L : Nat → Int) (a : Ak) : RmAt w ((w.alloc (.cells (sxC c g n cap I L) SXT)).alloc (.cells (akC a) AKT)) c g n cap I L a := by
  have hb := box_below w (sxC c g n cap I L) SXT
  have hb2 := box_below (w.alloc (.cells (sxC c g n cap I L) SXT)) (akC a) AKT
  exact ⟨(CsAt.new w SXT _).low hb2, by simpa using akAt_new (w.alloc (.cells (sxC c g n cap I L) SXT)) a, hb.trans (hb2.mono hb.size)⟩
theorem szS_pos {a : Ak} (h : ¬ (a.kind = 2 ∨ a.kind = 3)) : (szR a = -1 ∧ szS a = 0) ∨ (0 < szS a ∧ szS a ≤ 8 ∧ szR a = szS a) := by
  have h48 := Sh.szS_48 a
  unfold szR
  rw [if_neg h]
  by_cases e : szS a = 0
  · rw [if_pos e]; omega
  · rw [if_neg e]; omega
theorem szS_48' (a : Ak) : szS a = 0 ∨ szS a = 4 ∨ szS a = 8 := Sh.szS_48 a
set_option maxHeartbeats 8000000 in
theorem rmay_no (a : Ak) (ha : a.In) (c : Cf) (g n cap : Nat) (I : Nat → Bool) (L : Nat → Int) (w : World) (hf : formB a = false) :
    Calls Tryz.prog 45 #[.agg (sxC c g n cap I L), .agg (akC a)] w fun e w' => e = .returned (.bool false) ∧ Below w.heap.size w w' := by
  have HR := Lib.hid (rm_new w c g n cap I L a)
  have HSZ := Lib.hid (fun W => rsize_c a W)
  go_enter Tryz.func45, Tryz.ntmps45
  go_upto_region 1 with fail
  generalize (w.alloc (.cells (sxC c g n cap I L) SXT)).alloc (.cells (akC a) AKT) = w1 at *
  go_wp2_with (refine wpList_load_row rfl AKT _ rfl (w.heap.size + 1) rfl AKT (akC a) (0, 0) _ HR.out.ak.cs Tryz.underlying58 rfl info_ak ?_)
  refine (HSZ.out w1).mono ?_
  rintro e w2 ⟨rfl, hb2⟩
  have HR2 := Lib.hid (HR.out.low hb2)
  have d1 := HR2.out.ak.addr
  have d3 := HR2.out.ak.cut
  have d4 := HR2.out.ak.size
  have had := ha.addr
  clear hb2 HR HSZ ha
  by_cases k : a.kind = 2 ∨ a.kind = 3
  · have e : szR a = 0 := by unfold szR; rw [if_pos k]
    rw [formB_ls k] at hf
    rw [e]
    clear e k
    generalize a.size = sz at *
    generalize a.cut = ct at *
    by_cases hp : powB sz = true
    · rw [hp, Bool.true_and] at hf
      have hp4 := Sh.pow_iff.1 hp
      by_cases hc : ct < 0
      · have gc : decide (ct < 0) = true := by simpa using hc
        clear hf hp hc
        rcases hp4 with rfl | rfl | rfl | rfl
        all_goals
          go_wp2_with fail
          go_ret
          exact ⟨rfl, HR2.out.bel⟩
      · have gc : decide (ct < 0) = false := by simpa using hc
        have gs : decide (ct ≥ sz) = true := by
          have : ¬ (1 ≤ sz ∧ sz ≤ 8 ∧ 0 ≤ ct ∧ ct < sz) := fun h => by rw [Sp.okA_iff.2 h] at hf; cases hf
          simp; omega
        clear hf hp hc
        rcases hp4 with rfl | rfl | rfl | rfl
        all_goals
          go_wp2_with fail
          go_ret
          exact ⟨rfl, HR2.out.bel⟩
    · have hn : ¬ (sz = 1 ∨ sz = 2 ∨ sz = 4 ∨ sz = 8) := fun h => hp (Sh.pow_iff.2 h)
      have g1 : (sz == 1) = false := by simp; omega
      have g2 : (sz == 2) = false := by simp; omega
      have g4 : (sz == 4) = false := by simp; omega
      have g8 : (sz == 8) = false := by simp; omega
      have q1 : (sz != 1) = true := by simp; omega
      have q2 : (sz != 2) = true := by simp; omega
      have q4 : (sz != 4) = true := by simp; omega
      have q8 : (sz != 8) = true := by simp; omega
      clear hn hp hf
      go_wp2_with fail
      go_ret
      exact ⟨rfl, HR2.out.bel⟩
  · rcases szS_pos k with ⟨e, e0⟩ | ⟨h0, h8, e⟩
    · rw [e]
      clear e e0 k hf
      go_wp2_with fail
      go_ret
      exact ⟨rfl, HR2.out.bel⟩
    · rw [formB_el k] at hf
      rw [e]
      clear e k
      generalize szS a = z at *
      generalize a.size = sz at *
      generalize a.cut = ct at *
      generalize a.addr = ad at *
      have gz : decide (z > 0) = true := by simpa using h0
      have gn : decide (z < 0) = false := by simp; omega
      have ge : (z == 0) = false := by simp; omega
      have gw : IntKind.u64.wrap z = z := by rw [IntKind.wrap_u64]; omega
      have HT : IntKind.u64.wrap (ad.tmod z) = ad % z := by
        rw [Int.tmod_eq_emod_of_nonneg had.1, IntKind.wrap_u64]
        have h1 := Int.emod_nonneg ad (show z ≠ 0 by omega)
        have h2 := Int.emod_lt_of_pos ad h0
        omega
      rw [decide_eq_true h0, Bool.true_and] at hf
      cases q4 : (sz == z)
      · have q5 : (sz != z) = true := by rw [bne, q4]; rfl
        clear HT hf
        go_wp2_with fail
        go_ret
        exact ⟨rfl, HR2.out.bel⟩
      · rw [q4, Bool.true_and] at hf
        have q5 : (sz != z) = false := by rw [bne, q4]; rfl
        cases q3 : (ct == 0)
        · have q6 : (ct != 0) = true := by rw [bne, q3]; rfl
          clear HT hf
          go_wp2_with fail
          go_ret
          exact ⟨rfl, HR2.out.bel⟩
        · rw [q3, Bool.true_and] at hf
          have q6 : (ct != 0) = false := by rw [bne, q3]; rfl
          have q7 : (ad % z != 0) = true := by rw [bne, hf]; rfl
          go_wp2_with fail
          go_ret
          exact ⟨rfl, HR2.out.bel⟩
/-- The reference's access, in its box. -/
structure RnAt (w W : World) (c : Cf) (g n cap : Nat) (I : Nat → Bool) (L : Nat → Int) (a : Ak) (b : Nat) : Prop where
  r : RmAt w W c g n cap I L a
  x : CsAt W b RAT (axV a.addr a.next a.cut a.size)
theorem RnAt.low {w W W' : World} {c : Cf} {g n cap : Nat} {I : Nat → Bool} {L : Nat → Int} {a : Ak} {b : Nat} (h : RnAt w W c g n cap I L a b) (hb : Below W.heap.size W W') : RnAt w W' c g n cap I L a b := ⟨h.r.low hb, h.x.low hb⟩
theorem in_step {N : Nat} {a : Ak} (ha : a.In) {k : Nat} (_hk : ∀ i, i < k → hasB N (Sp.byte a.addr a.next a.cut (i : Int)) 1 = true) (hlt : k < a.size.toNat) (hn : hasB N (Sp.byte a.addr a.next a.cut (k : Int)) 1 = false) : Sh.mayB N a = false := by
  rw [← Bool.not_eq_true, Sh.may_iff ha]
  rintro ⟨-, h⟩
  rw [h k hlt] at hn
  cases hn
set_option maxHeartbeats 8000000 in
theorem rmay_yes (a : Ak) (ha : a.In) (c : Cf) (g n cap : Nat) (hn : n ≤ 4096) (I : Nat → Bool) (L : Nat → Int) (w : World) (hf : formB a = true) :
    Calls Tryz.prog 45 #[.agg (sxC c g n cap I L), .agg (akC a)] w fun e w' => e = .returned (.bool (Sh.mayB n a)) ∧ Below w.heap.size w w' := by
  have HR := Lib.hid (rm_new w c g n cap I L a)
  have HSZ := Lib.hid (fun W => rsize_c a W)
  have HX := Lib.hid (fun W => raccess_c a W)
  have HF := Lib.hid (Sh.form_of hf)
  have HMI := Lib.hid (Sh.may_iff (N := n) ha)
  have HNO := Lib.hid (fun k hk hlt hq => in_step (N := n) ha (k := k) hk hlt hq)
  have HFB := Lib.hid hf
  go_enter Tryz.func45, Tryz.ntmps45
  go_upto_region 1 with fail
  generalize (w.alloc (.cells (sxC c g n cap I L) SXT)).alloc (.cells (akC a) AKT) = w1 at *
  go_wp2_with (refine wpList_load_row rfl AKT _ rfl (w.heap.size + 1) rfl AKT (akC a) (0, 0) _ HR.out.ak.cs Tryz.underlying58 rfl info_ak ?_)
  refine (HSZ.out w1).mono ?_
  rintro e w2 ⟨rfl, hb2⟩
  have HR2 := Lib.hid (HR.out.low hb2)
  have d1 := HR2.out.ak.addr
  have d3 := HR2.out.ak.cut
  have d4 := HR2.out.ak.size
  have had := ha.addr
  clear hb2 HR HSZ hf
  have hz0 : 0 ≤ szR a ∧ decide (szR a < 0) = false := by
    by_cases k : a.kind = 2 ∨ a.kind = 3
    · have e : szR a = 0 := by unfold szR; rw [if_pos k]
      rw [e]; decide
    · have h := HFB.out
      rw [formB_el k] at h
      simp only [Bool.and_eq_true, decide_eq_true_eq] at h
      rcases szS_pos k with ⟨e, e0⟩ | ⟨h0, h8, e⟩
      · omega
      · rw [e]; exact ⟨by omega, by simp; omega⟩
  have gz0 := hz0.2
  go_upto_region 4 with fail
  clear gz0
  go_cut [45] (fun s wx => s = .bool false ∧ wx = w2)
  case first =>
    by_cases k : a.kind = 2 ∨ a.kind = 3
    · have e : szR a = 0 := by unfold szR; rw [if_pos k]
      have hs := HF.out.size
      have ho := Sp.okA_iff.1 HF.out.cut
      have gq : (szR a == 0) = true := by rw [e]; rfl
      have gc : decide (a.cut < 0) = false := by simp; omega
      have gs : decide (a.cut ≥ a.size) = false := by simp; omega
      clear e k hz0 ho
      rcases hs with h | h | h | h
      all_goals
        rw [h] at d4 gs
        clear h
        go_wp2_with fail
        go_meet
        exact ⟨rfl, rfl⟩
    · have h := HFB.out
      rw [formB_el k] at h
      simp only [Bool.and_eq_true, decide_eq_true_eq] at h
      have ge : (szR a == 0) = false := by
        rcases szS_pos k with ⟨e, e0⟩ | ⟨h0, h8, e⟩
        · omega
        · rw [e]; simp; omega
      clear h k hz0
      go_wp2_with fail
      go_meet
      exact ⟨rfl, rfl⟩
  case rest =>
    obtain ⟨rfl, rfl⟩ := hcut
    go_upto_region 6 with fail
    go_cut [66] (fun s wx => s = .bool false ∧ wx = wc)
    case first =>
      by_cases k : a.kind = 2 ∨ a.kind = 3
      · have e : szR a = 0 := by unfold szR; rw [if_pos k]
        have gz : decide (szR a > 0) = false := by rw [e]; rfl
        clear e k hz0
        go_wp2_with fail
        go_meet
        exact ⟨rfl, rfl⟩
      · have h := HFB.out
        rw [formB_el k] at h
        rcases szS_pos k with ⟨e, e0⟩ | ⟨h0, h8, e⟩
        · rw [e0] at h; cases h
        · rw [← e] at h h0 h8
          have gz : decide (szR a > 0) = true := by simpa using h0
          have gw : IntKind.u64.wrap (szR a) = szR a := by rw [IntKind.wrap_u64]; omega
          have ge : (szR a == 0) = false := by simp; omega
          have HT : IntKind.u64.wrap (a.addr.tmod (szR a)) = a.addr % szR a := by
            rw [Int.tmod_eq_emod_of_nonneg had.1, IntKind.wrap_u64]
            have h1 := Int.emod_nonneg a.addr (show szR a ≠ 0 by omega)
            have h2 := Int.emod_lt_of_pos a.addr h0
            omega
          simp only [Bool.and_eq_true] at h
          obtain ⟨⟨⟨-, q4⟩, q3⟩, q7⟩ := h
          have q5 : (a.size != szR a) = false := by rw [bne, q4]; rfl
          have q6 : (a.cut != 0) = false := by rw [bne, q3]; rfl
          have q8 : (a.addr % szR a != 0) = false := by rw [bne, q7]; rfl
          clear e k hz0
          go_wp2_with fail
          go_meet
          exact ⟨rfl, rfl⟩
    case rest =>
      obtain ⟨rfl, rfl⟩ := hcut
      clear d1 d3 d4 had hz0
      generalize szR a = zr at *
      go_wp2_with (refine wpList_load_row rfl AKT _ rfl (w.heap.size + 1) rfl AKT (akC a) (0, 0) _ HR2.out.ak.cs Tryz.underlying58 rfl info_ak ?_)
      refine (HX.out wc).mono ?_
      rintro e w4 ⟨rfl, hb4⟩
      have hb5 := box_below w4 (axV a.addr a.next a.cut a.size) RAT
      have HN := Lib.hid (show RnAt w (w4.alloc (.cells (axV a.addr a.next a.cut a.size) RAT)) c g n cap I L a w4.heap.size from ⟨(HR2.out.low hb4).low hb5, CsAt.new w4 RAT _⟩)
      clear hb4 hb5 HR2 HX
      go_upto_region 9 with (refine wpList_storeNew rfl RAT _ _ rfl (axV 0 0 0 0) (axV a.addr a.next a.cut a.size) RAT rfl rfl (by kernel_rfl) rfl (ax_one _ _ _ _) ?_)
      generalize w4.alloc (.cells (axV a.addr a.next a.cut a.size) RAT) = w5 at *
      generalize w4.heap.size = xb at *
      go_wp2_with fail
      go_loopw [7] (fun iv wr => ∃ k : Nat, k ≤ a.size.toNat ∧ iv = .int .i64 k ∧ (∀ i, i < k → hasB n (Sp.byte a.addr a.next a.cut (i : Int)) 1 = true) ∧ Below w5.heap.size w5 wr) (fun iv _ => a.size.toNat - (intOf iv).toNat)
      case atStart => exact ⟨0, Nat.zero_le _, rfl, fun i h => by omega, Below.refl _ _⟩
      case round =>
        obtain ⟨k, hk, rfl, hin, hbr⟩ := hrel
        have HIN := Lib.hid hin
        have HBR := Lib.hid hbr
        have HNR := Lib.hid (HN.out.low hbr)
        have d4 := HNR.out.r.ak.size
        have hs8 := HF.out.size
        have hcut := Sp.okA_iff.1 HF.out.cut
        clear hin hbr
        by_cases hlt : k < a.size.toNat
        · have hg : (k : Int) < a.size := by omega
          have HBY := Lib.hid (fun W => rbyte_c a.addr a.next a.cut a.size (k : Int) W (by omega) (by omega) (by omega))
          have hbr := Sp.byte_range a.addr a.next a.cut (k : Int)
          have HHS := Lib.hid (fun W => rhas_c (w := W) g n cap hn (Sp.byte a.addr a.next a.cut (k : Int)) 1 hbr (by omega))
          have HBT := Lib.hid (HNO.out k HIN.out hlt)
          have HYES := Lib.hid (show hasB n (Sp.byte a.addr a.next a.cut (k : Int)) 1 = true → ∀ i, i < k + 1 → hasB n (Sp.byte a.addr a.next a.cut (i : Int)) 1 = true from fun hh i hi => if e : i = k then e ▸ hh else HIN.out i (by omega))
          have h88 : a.size ≤ 8 := by omega
          clear hbr hs8 hcut
          generalize hasB n (Sp.byte a.addr a.next a.cut (k : Int)) 1 = hb at *
          go_upto_region 12 with fail
          clear d4
          refine wp_region_steady (fun W => Below w5.heap.size w5 W) (by kernel_rfl) (by kernel_rfl) HBR.out.drew ?_
          refine steady_val ?_ ?_ (by kernel_rfl) (fun W hS => ?_) ?_ ?_
          rotate_left 2
          · go_simp
            exact rfl
          · go_simp
            exact rfl
          refine steady_val (mV g n cap) ?_ (by kernel_rfl) (fun W hS => exec_load_mid (cs := [.slice (some ⟨g, 0, none⟩) (64 * n) cap]) RMT _ rfl w.heap.size 4 rfl _ (sx_M (HN.out.low hS).r.x) Tryz.underlying36 rfl info_rm) ?_ ?_
          rotate_left 1
          · go_simp
            exact rfl
          refine steady_val (.agg (axV a.addr a.next a.cut a.size)) ?_ (by kernel_rfl) (fun W hS => exec_load_row RAT _ rfl xb rfl RAT _ _ (HN.out.low hS).x Tryz.underlying161 rfl (by kernel_rfl)) ?_ ?_
          rotate_left 1
          · go_simp
            exact rfl
          refine steady_val ?_ ?_ (by kernel_rfl) (fun W hS => ?_) ?_ ?_
          rotate_left 2
          · go_simp
            exact rfl
          · go_simp
            exact rfl
          refine steady_enter (.int .u64 (Sp.byte a.addr a.next a.cut (k : Int))) 82 #[.agg (axV a.addr a.next a.cut a.size), .int .i64 (k : Int)] ?_ (by kernel_rfl) (fun W hS => ?_) (fun W hS => (HBY.out W).mono fun e w' hh => ⟨hh.1, hS.trans (hh.2.mono hS.size)⟩) ?_ ?_
          rotate_left 1
          · go_simp
          · go_simp
            exact rfl
          refine steady_enter (.bool hb) 81 #[mV g n cap, .int .u64 (Sp.byte a.addr a.next a.cut (k : Int)), .int .i64 1] ?_ (by kernel_rfl) (fun W hS => ?_) (fun W hS => (HHS.out W).mono fun e w' hh => ⟨hh.1, hS.trans (hh.2.mono hS.size)⟩) ?_ ?_
          rotate_left 1
          · go_simp
          · go_simp
            exact rfl
          refine steady_val ?_ ?_ (by kernel_rfl) (fun W hS => ?_) ?_ ?_
          rotate_left 2
          · go_simp
            exact rfl
          · go_simp
            exact rfl
          refine steady_nil ?_
          intro W6 hW
          have HB6 := Lib.hid hW
          have HN6 := Lib.hid (HN.out.low hW)
          clear hW HBR HNR
          cases hb
          · have HE := Lib.hid (HBT.out rfl)
            go_wp2_with fail
            go_ret
            exact ⟨by rw [HE.out]; rfl, HN6.out.r.bel⟩
          · have HE := Lib.hid (HYES.out rfl)
            go_wp2_with fail
            go_roundw
            case rel => exact ⟨k + 1, by omega, by go_num, HE.out, HB6.out⟩
            case measure => simp [intOf]; omega
        · have hg : decide ((k : Int) < a.size) = false := by simp; omega
          have HE := Lib.hid (show Sh.mayB n a = true from HMI.out.2 ⟨HFB.out, fun i hi => HIN.out i (by omega)⟩)
          clear hs8 hcut
          go_wp2_with fail
          go_ret
          exact ⟨by rw [HE.out]; rfl, HNR.out.r.bel⟩
theorem rmay14_c (a : Ak) (ha : a.In) (c : Cf) (g n cap : Nat) (hn : n ≤ 4096) (I : Nat → Bool) (L : Nat → Int) (w : World) :
    Calls Tryz.prog 45 #[.agg (sxC c g n cap I L), .agg (akC a)] w fun e w' => e = .returned (.bool (Sh.mayB n a)) ∧ Below w.heap.size w w' := by
  by_cases hf : formB a = true
  · exact rmay_yes a ha c g n cap hn I L w hf
  · have hf : formB a = false := by simpa using hf
    have e : Sh.mayB n a = false := by unfold Sh.mayB; rw [hf]; rfl
    rw [e]
    exact rmay_no a ha c g n cap I L w hf
end Go.Proofs.YtjeolfcefeglpabGreat
set_option maxRecDepth 20000
namespace Go.Proofs.YtjeolfcefeglpabGreat
open Go.RowKit Wd

namespace Sh
theorem ld1 {B : List Int} {N : Nat} {x : Int} (h : hasB N x 1 = true) : ldV B N x 1 = B.getD (x - 2147483648).toNat 0 := by
  unfold ldV
  rw [if_pos (by unfold hasN; rw [h]; rfl), show (1 : Int).toNat = 1 from rfl]
  simp [Ln.num]
theorem ld_st1 {B : List Int} {N : Nat} (hB : Rm.Ok B N) {x y u : Int} (hx : hasB N x 1 = true) (hy : hasB N y 1 = true) (h0 : 0 ≤ u) (h1 : u < 256) : ldV (stV B N x 1 u) N y 1 = if y = x then u else ldV B N y 1 := by
  rw [ld1 hy, ld1 hy]
  unfold stV
  rw [if_pos (by unfold hasN; rw [hx]; rfl), show (1 : Int).toNat = 1 from rfl]
  have ix := hasB_iff.1 hx
  have iy := hasB_iff.1 hy
  rw [Rm.st_get hB _ _ _ _ (by omega)]
  by_cases e : y = x
  · subst e
    rw [if_pos (by omega), if_pos rfl, Nat.sub_self]
    unfold Ln.byteOf
    rw [Int.pow_zero, Int.ediv_one]
    omega
  · rw [if_neg (by omega), if_neg e]
theorem digit_one {q v : Int} (hp : 0 < q) : v % q + q * (v / q % 256) = v % (q * 256) := by
  have hv := Int.mul_ediv_add_emod v q
  have r1 := Int.emod_nonneg v (Int.ne_of_gt hp)
  have r2 := Int.emod_lt_of_pos v hp
  generalize v / q = d at *
  generalize v % q = r at *
  subst hv
  have e2 := Int.mul_ediv_add_emod d 256
  have r3 : 0 ≤ d % 256 := Int.emod_nonneg _ (by decide)
  have r4 : d % 256 ≤ 255 := by omega
  generalize d % 256 = f at *
  generalize d / 256 = e at *
  have r5 : q * f ≤ q * 255 := Int.mul_le_mul_of_nonneg_left r4 (Int.le_of_lt hp)
  have r6 : 0 ≤ q * f := Int.mul_nonneg (Int.le_of_lt hp) r3
  have e4 : q * d + r = (q * f + r) + (q * 256) * e := by
    rw [← e2, Int.mul_add, Int.mul_assoc q 256 e]
    generalize q * (256 * e) = X
    generalize q * f = Y
    omega
  rw [e4, Int.add_mul_emod_self_left]
  generalize q * f = Y at *
  rw [Int.emod_eq_of_lt (by omega) (by omega)]
  omega
theorem digits (v : Int) : ∀ n : Nat, numB (fun j => v / 256 ^ j % 256) n = v % 256 ^ n
  | 0 => by simp [numB]
  | n + 1 => by
    rw [numB, digits v n, Int.pow_succ]
    exact digit_one (Int.pow_pos (by decide))
/-- The bytes of a number in one place, in memory. -/
theorem lay_ld {B : List Int} {N : Nat} (hB : Rm.Ok B N) {a b v : Int} {n : Nat} (ha : 0 ≤ a ∧ a < 18446744073709551616) (hN : N ≤ 4096) (hn8 : n ≤ 8) (hin : inAll N a b 0 n) (i : Nat) (hi : i < n) : ∀ k, k ≤ n → ldV (layB B N a b 0 v k) N (Sp.byte a b 0 (i : Int)) 1 = if i < k then v / 256 ^ i % 256 else ldV B N (Sp.byte a b 0 (i : Int)) 1
  | 0, _ => by rw [if_neg (by omega)]; rfl
  | k + 1, hk => by
    have ih := lay_ld (b := b) (v := v) hB ha hN hn8 hin i hi k (by omega)
    rw [layB, ld_st1 (layB_ok hB _ _ _ _ _) (hin k (by omega)) (hin i hi) (by omega) (by omega), ih]
    have hk1 := hasB_iff.1 (hin k (by omega))
    have hi1 := hasB_iff.1 (hin i hi)
    have h00 := hasB_iff.1 (hin 0 (by omega))
    have e0 : Sp.byte a b 0 ((0 : Nat) : Int) = (a + ((0 : Nat) : Int)) % 18446744073709551616 := by unfold Sp.byte; rw [if_neg (by omega)]
    rw [e0] at h00
    have ek : Sp.byte a b 0 (k : Int) = (a + k) % 18446744073709551616 := by unfold Sp.byte; rw [if_neg (by omega)]
    have ei : Sp.byte a b 0 (i : Int) = (a + i) % 18446744073709551616 := by unfold Sp.byte; rw [if_neg (by omega)]
    rw [ek] at hk1
    rw [ei] at hi1
    rw [ek, ei]
    by_cases e : i = k
    · subst e
      rw [if_pos rfl, if_pos (by omega)]
    · rw [if_neg (by omega)]
      by_cases h : i < k
      · rw [if_pos h, if_pos (by omega)]
      · rw [if_neg h, if_neg (by omega)]
theorem lay_num {B : List Int} {N : Nat} (hB : Rm.Ok B N) {a b v : Int} {n : Nat} (ha : 0 ≤ a ∧ a < 18446744073709551616) (hN : N ≤ 4096) (hn8 : n ≤ 8) (hin : inAll N a b 0 n) : num (layB B N a b 0 v n) N a b 0 n = v % 256 ^ n := by
  unfold num
  rw [← digits v n]
  refine numB_congr n fun j hj => ?_
  unfold fB
  rw [lay_ld hB ha hN hn8 hin j hj n (Nat.le_refl _), if_pos hj]
end Sh
end Go.Proofs.YtjeolfcefeglpabGreat
set_option maxRecDepth 20000
namespace Go.Proofs.YtjeolfcefeglpabGreat
open Go.ChangeShapes Go.WideShapes Go.ChangeAt Go.RowKit Wd

namespace Sh
/-- A number from its byte i on. -/
theorem num_step {B : List Int} {N : Nat} (hB : Rm.Ok B N) (a b c : Int) {n i : Nat} (hi : i < n) : 256 * (num B N a b c n / 256 ^ (i + 1)) + ldV B N (Sp.byte a b c (i : Int)) 1 = num B N a b c n / 256 ^ i := by
  have hr := fB_range hB a b c
  obtain ⟨r, rfl⟩ : ∃ r, n = i + (1 + r) := ⟨n - i - 1, by omega⟩
  have hc := numB_cut hr i 1 r
  have he : numB (fun j => fB B N a b c (i + j)) 1 = ldV B N (Sp.byte a b c (i : Int)) 1 := by simp [numB, fB]
  rw [he] at hc
  rw [← hc]
  unfold num
  rw [Int.pow_succ, ← Int.ediv_ediv_of_nonneg (Int.le_of_lt (Int.pow_pos (by decide)))]
  rw [Int.pow_one]
  have h0 := Int.mul_ediv_add_emod (numB (fB B N a b c) (i + (1 + r)) / 256 ^ i) 256
  omega
theorem num_top {B : List Int} {N : Nat} (hB : Rm.Ok B N) (a b c : Int) (n : Nat) : num B N a b c n / 256 ^ n = 0 := by
  have h := numB_range (fB_range hB a b c) n
  exact Int.ediv_eq_zero_of_lt h.1 h.2
theorem Form.sz {a : Ak} (h : Form a) : ((a.size.toNat : Nat) : Int) = a.size ∧ a.size.toNat ≤ 8 ∧ 1 ≤ a.size.toNat ∧ a.cut ≤ 8 := by
  have h1 := h.size
  have h2 := Sp.okA_iff.1 h.cut
  omega
end Sh
/-- What stands while the reference reads or lays a number. -/
structure RsAt (w W : World) (c : Cf) (g n cap : Nat) (t : TypeId) (B : List Int) (T : Rv.Tb) (a : Ak) : Prop where
  x : CsAt W w.heap.size SXT (sxT c g n cap T)
  ak : AkAt W (w.heap.size + 1) a
  r : RefAt W g t n B
  o : Only g w W
  lt : g < w.heap.size
section
variable {w W W' : World} {c : Cf} {g n cap : Nat} {t : TypeId} {B B' : List Int} {T : Rv.Tb} {a : Ak}
theorem RsAt.low (h : RsAt w W c g n cap t B T a) (hb : Below W.heap.size W W') : RsAt w W' c g n cap t B T a := ⟨h.x.low hb, h.ak.low hb, h.r.low hb, h.o.trans (Only.of_below hb), h.lt⟩
theorem RsAt.only (h : RsAt w W c g n cap t B T a) (hr : RefAt W' g t n B') (ho : Only g W W') : RsAt w W' c g n cap t B' T a :=
  ⟨(ho.block _ h.x.lt (by have := h.lt; omega)).trans h.x, ⟨(ho.block _ h.ak.cs.lt (by have := h.lt; omega)).trans h.ak.cs⟩, hr, h.o.trans ho, h.lt⟩
theorem rs_new (hr : RefAt w g t n B) : RsAt w ((w.alloc (.cells (sxT c g n cap T) SXT)).alloc (.cells (akC a) AKT)) c g n cap t B T a := by
  have hb := box_below w (sxT c g n cap T) SXT
  have hb2 := box_below (w.alloc (.cells (sxT c g n cap T) SXT)) (akC a) AKT
  exact ⟨(CsAt.new w SXT _).low hb2, by simpa using akAt_new (w.alloc (.cells (sxT c g n cap T) SXT)) a, (hr.low hb).low hb2, Only.of_below (hb.trans (hb2.mono hb.size)), hr.lt⟩
end
set_option maxHeartbeats 8000000 in
theorem rget14_c (a : Ak) (hf : Sh.Form a) (c : Cf) (g n cap : Nat) {t : TypeId} {B : List Int} (T : Rv.Tb) (w : World) (hr : RefAt w g t n B) :
    Calls Tryz.prog 46 #[.agg (sxT c g n cap T), .agg (akC a)] w fun e w' => e = .returned (.int .u64 (Sh.nB B n a)) ∧ Below w.heap.size w w' := by
  have HR := Lib.hid (rs_new (c := c) (cap := cap) (T := T) (a := a) hr)
  have HBX := Lib.hid ((box_below w (sxT c g n cap T) SXT).trans ((box_below (w.alloc (.cells (sxT c g n cap T) SXT)) (akC a) AKT).mono (by simp)))
  obtain ⟨m, hm⟩ : ∃ m, a.size.toNat = m := ⟨_, rfl⟩
  have hsz := hf.sz
  rw [hm] at hsz
  have hms : a.size = (m : Int) := hsz.1.symm
  have hm8 := hsz.2.1
  have hct := hsz.2.2.2
  have HNB := Lib.hid (show Sh.nB B n a = Sh.num B n a.addr a.next a.cut m by unfold Sh.nB; rw [hm])
  have HRNG := Lib.hid (show 0 ≤ Sh.num B n a.addr a.next a.cut m ∧ Sh.num B n a.addr a.next a.cut m < 18446744073709551616 from Sh.num_range hr.ok _ _ _ hm8)
  have HST := Lib.hid (fun i (hi : i < m) => Sh.num_step hr.ok a.addr a.next a.cut hi)
  have HTOP := Lib.hid (Sh.num_top hr.ok a.addr a.next a.cut m)
  have HAC := Lib.hid (fun W => raccess_c a W)
  rw [HNB.out]
  clear hr hf hm hsz HNB
  generalize Sh.num B n a.addr a.next a.cut m = X at *
  have hn1 : (1 : Int) ≤ 9223372036854775807 := by omega
  go_enter Tryz.func46, Tryz.ntmps46
  go_upto_region 1 with fail
  generalize (w.alloc (.cells (sxT c g n cap T) SXT)).alloc (.cells (akC a) AKT) = w1 at *
  have d4 := HR.out.ak.size
  rw [hms] at d4
  go_wp2_with fail
  go_loopw [5, 6] (fun vv iv wr => ∃ j : Nat, j ≤ m ∧ iv = .int .i64 ((j : Int) - 1) ∧ vv = .int .u64 (X / 256 ^ j) ∧ RsAt w wr c g n cap t B T a ∧ Below w.heap.size w wr) (fun _ iv _ => (intOf iv + 1).toNat)
  case atStart => exact ⟨m, Nat.le_refl _, rfl, by rw [HTOP.out], HR.out, HBX.out⟩
  case round =>
    obtain ⟨j, hj, rfl, rfl, hs, hb⟩ := hrel
    have HS := Lib.hid hs
    have HB := Lib.hid hb
    clear hs hb HR HBX
    cases j with
    | zero =>
      have e0 : decide (((0 : Nat) : Int) - 1 ≥ 0) = false := by decide
      rw [show ((0 : Nat) : Int) - 1 = -1 from rfl] at e0 ⊢
      rw [show X / 256 ^ 0 = X by simp]
      go_wp2_with fail
      go_ret
      exact ⟨rfl, HB.out⟩
    | succ i =>
      rw [show ((i + 1 : Nat) : Int) - 1 = (i : Int) by omega]
      have e0 : decide ((i : Int) ≥ 0) = true := by simp
      have hst := HST.out i (by omega)
      have HBY := Lib.hid (fun W => rbyte_c a.addr a.next a.cut a.size (i : Int) W (by omega) (by omega) (by omega))
      have hyr := Sp.byte_range a.addr a.next a.cut (i : Int)
      have HLD := Lib.hid (fun W (h : RefAt W g t n B) => rload_c cap h (Sp.byte a.addr a.next a.cut (i : Int)) 1 (Sp.byte_range _ _ _ _) (by omega))
      have hq : 0 ≤ ldV B n (Sp.byte a.addr a.next a.cut (i : Int)) 1 := (Sh.ld_range HS.out.r.ok _).1
      have HR1 := Lib.hid (show 0 ≤ X / 256 ^ (i + 1) ∧ 0 ≤ X / 256 ^ i ∧ X / 256 ^ i < 18446744073709551616 from
        ⟨Int.ediv_nonneg HRNG.out.1 (Int.le_of_lt (Int.pow_pos (by decide))), Int.ediv_nonneg HRNG.out.1 (Int.le_of_lt (Int.pow_pos (by decide))), Int.lt_of_le_of_lt (Int.ediv_le_self _ HRNG.out.1) HRNG.out.2⟩)
      generalize Sp.byte a.addr a.next a.cut (i : Int) = at_ at *
      generalize ldV B n at_ 1 = q at *
      generalize hasN n at_ 1 = hv at *
      generalize X / 256 ^ (i + 1) = y at *
      have HX := Lib.hid hst
      obtain ⟨z, hz⟩ : ∃ z, X / 256 ^ i = z := ⟨_, rfl⟩
      have HZ := Lib.hid hz
      rw [hz] at HX HR1 hst
      clear hz
      have r1 := HR1.out
      have p1 : IntKind.u64.wrap (256 * y) = 256 * y := by rw [IntKind.wrap_u64]; omega
      have p2 : IntKind.u64.wrap (256 * y + q) = z := by
        have h := HX.out
        rw [IntKind.wrap_u64]
        omega
      clear hst
      go_upto_region 5 with fail
      refine wp_region_steady (fun W => RsAt w W c g n cap t B T a ∧ Below w.heap.size w W) (by kernel_rfl) (by kernel_rfl) ⟨HS.out.low (Below.refl _ _).drew, HB.out.drew⟩ ?_
      refine steady_val ?_ ?_ (by kernel_rfl) (fun W hS => ?_) ?_ ?_
      rotate_left 2
      · go_simp
        exact rfl
      · go_simp
        exact rfl
      refine steady_val (mV g n cap) ?_ (by kernel_rfl) (fun W hS => exec_load_mid (cs := [.slice (some ⟨g, 0, none⟩) (64 * n) cap]) RMT _ rfl w.heap.size 4 rfl _ (sx_M hS.1.x) Tryz.underlying36 rfl info_rm) ?_ ?_
      rotate_left 1
      · go_simp
        exact rfl
      refine steady_val (.agg (akC a)) ?_ (by kernel_rfl) (fun W hS => exec_load_row _ _ rfl _ rfl _ _ _ hS.1.ak.cs Tryz.underlying58 rfl info_ak) ?_ ?_
      rotate_left 1
      · go_simp
        exact rfl
      refine steady_enter (.agg (axV a.addr a.next a.cut a.size)) 80 #[.agg (akC a)] ?_ (by kernel_rfl) (fun W hS => ?_) (fun W hS => (HAC.out W).mono (by rintro e w' ⟨rfl, hb⟩; exact ⟨rfl, hS.1.low hb, hS.2.trans (hb.mono hS.2.size)⟩)) ?_ ?_
      rotate_left 1
      · go_simp
      · go_simp
        exact rfl
      refine steady_val ?_ ?_ (by kernel_rfl) (fun W hS => ?_) ?_ ?_
      rotate_left 2
      · go_simp
        exact rfl
      · go_simp
        exact rfl
      refine steady_enter (.int .u64 at_) 82 #[.agg (axV a.addr a.next a.cut a.size), .int .i64 (i : Int)] ?_ (by kernel_rfl) (fun W hS => ?_) (fun W hS => (HBY.out W).mono (by rintro e w' ⟨rfl, hb⟩; exact ⟨rfl, hS.1.low hb, hS.2.trans (hb.mono hS.2.size)⟩)) ?_ ?_
      rotate_left 1
      · go_simp
      · go_simp
        exact rfl
      refine steady_enter (.tuple #[.int .u64 q, .bool hv]) 83 #[mV g n cap, .int .u64 at_, .int .i64 1] ?_ (by kernel_rfl) (fun W hS => ?_) (fun W hS => (HLD.out W hS.1.r).mono (by rintro e w' ⟨rfl, hb⟩; exact ⟨rfl, hS.1.low hb, hS.2.trans (hb.mono hS.2.size)⟩)) ?_ ?_
      rotate_left 1
      · go_simp
      · go_simp
        exact rfl
      iterate 5
        refine steady_val ?_ ?_ (by kernel_rfl) (fun W hS => ?_) ?_ ?_
        rotate_left 2
        · go_simp
          exact rfl
        · go_simp
          exact rfl
      refine steady_nil ?_
      intro W hS
      have HS2 := Lib.hid hS
      clear hS HS HB
      go_wp2_with fail
      go_roundw
      case rel => exact ⟨i, by omega, rfl, by rw [HZ.out], HS2.out.1, HS2.out.2⟩
      case measure => simp [intOf]
end Go.Proofs.YtjeolfcefeglpabGreat
