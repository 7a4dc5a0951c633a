/-
  Contract of the reference of layer 14: May. What layer 14's statements ask of the chapter's example (live): true. Contract of the reference of layer 11: Stripes.
-/
import Derived.Test.YtabackklpemhpaaGreatJbf
import Derived.Deep.CutBlock
import Derived.Test.YtabackklpemhpaaGreatJbc
import Derived.Test.YtabackklpemhpaaGreatJay
set_option maxRecDepth 20000
namespace Go.Proofs.YtabackklpemhpaaGreat
open Go.ChangeShapes Go.WideShapes Go.ChangeAt Go.RowKit Wd

abbrev RMT : TypeId := 59
/-- What stands while May looks. -/
structure RmAt (w W : World) (c : Cf) (g n cap : Nat) (I : Nat → Bool) (L : Nat → Int) (a : Ak) : Prop where
  x : CsAt W w.heap.size SXT (sxC c g n cap I L)
  ak : AkAt W (w.heap.size + 1) a
  bel : Below w.heap.size w W
theorem RmAt.low {w W W' : World} {c : Cf} {g n cap : Nat} {I : Nat → Bool} {L : Nat → Int} {a : Ak} (h : RmAt w W c g n cap I L a) (hb : Below W.heap.size W W') : RmAt w W' c g n cap I L a := ⟨h.x.low hb, h.ak.low hb, h.bel.trans (hb.mono h.bel.size)⟩
theorem rm_new (w : World) (c : Cf) (g n cap : Nat) (I : Nat → Bool) (L : Nat → Int) (a : Ak) : RmAt w ((w.alloc (.cells (sxC c g n cap I L) SXT)).alloc (.cells (akC a) AKT)) c g n cap I L a := by
  have hb := box_below w (sxC c g n cap I L) SXT
  have hb2 := box_below (w.alloc (.cells (sxC c g n cap I L) SXT)) (akC a) AKT
  exact ⟨(CsAt.new w SXT _).low hb2, by simpa using akAt_new (w.alloc (.cells (sxC c g n cap I L) SXT)) a, hb.trans (hb2.mono hb.size)⟩
theorem szS_pos {a : Ak} (h : ¬ (a.kind = 2 ∨ a.kind = 3)) : (szR a = -1 ∧ szS a = 0) ∨ (0 < szS a ∧ szS a ≤ 8 ∧ szR a = szS a) := by
  have h48 := Sh.szS_48 a
  unfold szR
  rw [if_neg h]
  by_cases e : szS a = 0
  · rw [if_pos e]; omega
  · rw [if_neg e]; omega
theorem szS_48' (a : Ak) : szS a = 0 ∨ szS a = 4 ∨ szS a = 8 := Sh.szS_48 a
set_option maxHeartbeats 8000000 in
theorem rmay_no (a : Ak) (ha : a.In) (c : Cf) (g n cap : Nat) (I : Nat → Bool) (L : Nat → Int) (w : World) (hf : formB a = false) :
    Calls Tryz.prog 21 #[.agg (sxC c g n cap I L), .agg (akC a)] w fun e w' => e = .returned (.bool false) ∧ Below w.heap.size w w' := by
  have HR := Lib.hid (rm_new w c g n cap I L a)
  have HSZ := Lib.hid (fun W => rsize_c a W)
  go_enter Tryz.func21, Tryz.ntmps21
  go_upto_region 1 with fail
  generalize (w.alloc (.cells (sxC c g n cap I L) SXT)).alloc (.cells (akC a) AKT) = w1 at *
  go_wp2_with (refine wpList_load_row rfl AKT _ rfl (w.heap.size + 1) rfl AKT (akC a) (0, 0) _ HR.out.ak.cs Tryz.underlying32 rfl info_ak ?_)
  refine (HSZ.out w1).mono ?_
  rintro e w2 ⟨rfl, hb2⟩
  have HR2 := Lib.hid (HR.out.low hb2)
  have d1 := HR2.out.ak.addr
  have d3 := HR2.out.ak.cut
  have d4 := HR2.out.ak.size
  have had := ha.addr
  clear hb2 HR HSZ ha
  by_cases k : a.kind = 2 ∨ a.kind = 3
  · have e : szR a = 0 := by unfold szR; rw [if_pos k]
    rw [formB_ls k] at hf
    rw [e]
    clear e k
    generalize a.size = sz at *
    generalize a.cut = ct at *
    by_cases hp : powB sz = true
    · rw [hp, Bool.true_and] at hf
      have hp4 := Sh.pow_iff.1 hp
      by_cases hc : ct < 0
      · have gc : decide (ct < 0) = true := by simpa using hc
        clear hf hp hc
        rcases hp4 with rfl | rfl | rfl | rfl
        all_goals
          go_wp2_with fail
          go_ret
          exact ⟨rfl, HR2.out.bel⟩
      · have gc : decide (ct < 0) = false := by simpa using hc
        have gs : decide (ct ≥ sz) = true := by
          have : ¬ (1 ≤ sz ∧ sz ≤ 8 ∧ 0 ≤ ct ∧ ct < sz) := fun h => by rw [Sp.okA_iff.2 h] at hf; cases hf
          simp; omega
        clear hf hp hc
        rcases hp4 with rfl | rfl | rfl | rfl
        all_goals
          go_wp2_with fail
          go_ret
          exact ⟨rfl, HR2.out.bel⟩
    · have hn : ¬ (sz = 1 ∨ sz = 2 ∨ sz = 4 ∨ sz = 8) := fun h => hp (Sh.pow_iff.2 h)
      have g1 : (sz == 1) = false := by simp; omega
      have g2 : (sz == 2) = false := by simp; omega
      have g4 : (sz == 4) = false := by simp; omega
      have g8 : (sz == 8) = false := by simp; omega
      have q1 : (sz != 1) = true := by simp; omega
      have q2 : (sz != 2) = true := by simp; omega
      have q4 : (sz != 4) = true := by simp; omega
      have q8 : (sz != 8) = true := by simp; omega
      clear hn hp hf
      go_wp2_with fail
      go_ret
      exact ⟨rfl, HR2.out.bel⟩
  · rcases szS_pos k with ⟨e, e0⟩ | ⟨h0, h8, e⟩
    · rw [e]
      clear e e0 k hf
      go_wp2_with fail
      go_ret
      exact ⟨rfl, HR2.out.bel⟩
    · rw [formB_el k] at hf
      rw [e]
      clear e k
      generalize szS a = z at *
      generalize a.size = sz at *
      generalize a.cut = ct at *
      generalize a.addr = ad at *
      have gz : decide (z > 0) = true := by simpa using h0
      have gn : decide (z < 0) = false := by simp; omega
      have ge : (z == 0) = false := by simp; omega
      have gw : IntKind.u64.wrap z = z := by rw [IntKind.wrap_u64]; omega
      have HT : IntKind.u64.wrap (ad.tmod z) = ad % z := by
        rw [Int.tmod_eq_emod_of_nonneg had.1, IntKind.wrap_u64]
        have h1 := Int.emod_nonneg ad (show z ≠ 0 by omega)
        have h2 := Int.emod_lt_of_pos ad h0
        omega
      rw [decide_eq_true h0, Bool.true_and] at hf
      cases q4 : (sz == z)
      · have q5 : (sz != z) = true := by rw [bne, q4]; rfl
        clear HT hf
        go_wp2_with fail
        go_ret
        exact ⟨rfl, HR2.out.bel⟩
      · rw [q4, Bool.true_and] at hf
        have q5 : (sz != z) = false := by rw [bne, q4]; rfl
        cases q3 : (ct == 0)
        · have q6 : (ct != 0) = true := by rw [bne, q3]; rfl
          clear HT hf
          go_wp2_with fail
          go_ret
          exact ⟨rfl, HR2.out.bel⟩
        · rw [q3, Bool.true_and] at hf
          have q6 : (ct != 0) = false := by rw [bne, q3]; rfl
          have q7 : (ad % z != 0) = true := by rw [bne, hf]; rfl
          go_wp2_with fail
          go_ret
          exact ⟨rfl, HR2.out.bel⟩
/-- The reference's access, in its box. -/
structure RnAt (w W : World) (c : Cf) (g n cap : Nat) (I : Nat → Bool) (L : Nat → Int) (a : Ak) (b : Nat) : Prop where
  r : RmAt w W c g n cap I L a
  x : CsAt W b RAT (axV a.addr a.next a.cut a.size)
theorem RnAt.low {w W W' : World} {c : Cf} {g n cap : Nat} {I : Nat → Bool} {L : Nat → Int} {a : Ak} {b : Nat} (h : RnAt w W c g n cap I L a b) (hb : Below W.heap.size W W') : RnAt w W' c g n cap I L a b := ⟨h.r.low hb, h.x.low hb⟩
theorem in_step {N : Nat} {a : Ak} (ha : a.In) {k : Nat} (_hk : ∀ i, i < k → hasB N (Sp.byte a.addr a.next a.cut (i : Int)) 1 = true) (hlt : k < a.size.toNat) (hn : hasB N (Sp.byte a.addr a.next a.cut (k : Int)) 1 = false) : Sh.mayB N a = false := by
  rw [← Bool.not_eq_true, Sh.may_iff ha]
  rintro ⟨-, h⟩
  rw [h k hlt] at hn
  cases hn
set_option maxHeartbeats 8000000 in
theorem rmay_yes (a : Ak) (ha : a.In) (c : Cf) (g n cap : Nat) (hn : n ≤ 4096) (I : Nat → Bool) (L : Nat → Int) (w : World) (hf : formB a = true) :
    Calls Tryz.prog 21 #[.agg (sxC c g n cap I L), .agg (akC a)] w fun e w' => e = .returned (.bool (Sh.mayB n a)) ∧ Below w.heap.size w w' := by
  have HR := Lib.hid (rm_new w c g n cap I L a)
  have HSZ := Lib.hid (fun W => rsize_c a W)
  have HX := Lib.hid (fun W => raccess_c a W)
  have HF := Lib.hid (Sh.form_of hf)
  have HMI := Lib.hid (Sh.may_iff (N := n) ha)
  have HNO := Lib.hid (fun k hk hlt hq => in_step (N := n) ha (k := k) hk hlt hq)
  have HFB := Lib.hid hf
  go_enter Tryz.func21, Tryz.ntmps21
  go_upto_region 1 with fail
  generalize (w.alloc (.cells (sxC c g n cap I L) SXT)).alloc (.cells (akC a) AKT) = w1 at *
  go_wp2_with (refine wpList_load_row rfl AKT _ rfl (w.heap.size + 1) rfl AKT (akC a) (0, 0) _ HR.out.ak.cs Tryz.underlying32 rfl info_ak ?_)
  refine (HSZ.out w1).mono ?_
  rintro e w2 ⟨rfl, hb2⟩
  have HR2 := Lib.hid (HR.out.low hb2)
  have d1 := HR2.out.ak.addr
  have d3 := HR2.out.ak.cut
  have d4 := HR2.out.ak.size
  have had := ha.addr
  clear hb2 HR HSZ hf
  have hz0 : 0 ≤ szR a ∧ decide (szR a < 0) = false := by
    by_cases k : a.kind = 2 ∨ a.kind = 3
    · have e : szR a = 0 := by unfold szR; rw [if_pos k]
      rw [e]; decide
    · have h := HFB.out
      rw [formB_el k] at h
      simp only [Bool.and_eq_true, decide_eq_true_eq] at h
      rcases szS_pos k with ⟨e, e0⟩ | ⟨h0, h8, e⟩
      · omega
      · rw [e]; exact ⟨by omega, by simp; omega⟩
  have gz0 := hz0.2
  go_upto_region 4 with fail
  clear gz0
  go_cut [45] (fun s wx => s = .bool false ∧ wx = w2)
  case first =>
    by_cases k : a.kind = 2 ∨ a.kind = 3
    · have e : szR a = 0 := by unfold szR; rw [if_pos k]
      have hs := HF.out.size
      have ho := Sp.okA_iff.1 HF.out.cut
      have gq : (szR a == 0) = true := by rw [e]; rfl
      have gc : decide (a.cut < 0) = false := by simp; omega
      have gs : decide (a.cut ≥ a.size) = false := by simp; omega
      clear e k hz0 ho
      rcases hs with h | h | h | h
      all_goals
        rw [h] at d4 gs
        clear h
        go_wp2_with fail
        go_meet
        exact ⟨rfl, rfl⟩
    · have h := HFB.out
      rw [formB_el k] at h
      simp only [Bool.and_eq_true, decide_eq_true_eq] at h
      have ge : (szR a == 0) = false := by
        rcases szS_pos k with ⟨e, e0⟩ | ⟨h0, h8, e⟩
        · omega
        · rw [e]; simp; omega
      clear h k hz0
      go_wp2_with fail
      go_meet
      exact ⟨rfl, rfl⟩
  case rest =>
    obtain ⟨rfl, rfl⟩ := hcut
    go_upto_region 6 with fail
    go_cut [66] (fun s wx => s = .bool false ∧ wx = wc)
    case first =>
      by_cases k : a.kind = 2 ∨ a.kind = 3
      · have e : szR a = 0 := by unfold szR; rw [if_pos k]
        have gz : decide (szR a > 0) = false := by rw [e]; rfl
        clear e k hz0
        go_wp2_with fail
        go_meet
        exact ⟨rfl, rfl⟩
      · have h := HFB.out
        rw [formB_el k] at h
        rcases szS_pos k with ⟨e, e0⟩ | ⟨h0, h8, e⟩
        · rw [e0] at h; cases h
        · rw [← e] at h h0 h8
          have gz : decide (szR a > 0) = true := by simpa using h0
          have gw : IntKind.u64.wrap (szR a) = szR a := by rw [IntKind.wrap_u64]; omega
          have ge : (szR a == 0) = false := by simp; omega
          have HT : IntKind.u64.wrap (a.addr.tmod (szR a)) = a.addr % szR a := by
            rw [Int.tmod_eq_emod_of_nonneg had.1, IntKind.wrap_u64]
            have h1 := Int.emod_nonneg a.addr (show szR a ≠ 0 by omega)
            have h2 := Int.emod_lt_of_pos a.addr h0
            omega
          simp only [Bool.and_eq_true] at h
          obtain ⟨⟨⟨-, q4⟩, q3⟩, q7⟩ := h
          have q5 : (a.size != szR a) = false := by rw [bne, q4]; rfl
          have q6 : (a.cut != 0) = false := by rw [bne, q3]; rfl
          have q8 : (a.addr % szR a != 0) = false := by rw [bne, q7]; rfl
          clear e k hz0
          go_wp2_with fail
          go_meet
          exact ⟨rfl, rfl⟩
    case rest =>
      obtain ⟨rfl, rfl⟩ := hcut
      clear d1 d3 d4 had hz0
      generalize szR a = zr at *
      go_wp2_with (refine wpList_load_row rfl AKT _ rfl (w.heap.size + 1) rfl AKT (akC a) (0, 0) _ HR2.out.ak.cs Tryz.underlying32 rfl info_ak ?_)
      refine (HX.out wc).mono ?_
      rintro e w4 ⟨rfl, hb4⟩
      have hb5 := box_below w4 (axV a.addr a.next a.cut a.size) RAT
      have HN := Lib.hid (show RnAt w (w4.alloc (.cells (axV a.addr a.next a.cut a.size) RAT)) c g n cap I L a w4.heap.size from ⟨(HR2.out.low hb4).low hb5, CsAt.new w4 RAT _⟩)
      clear hb4 hb5 HR2 HX
      go_upto_region 9 with (refine wpList_storeNew rfl RAT _ _ rfl (axV 0 0 0 0) (axV a.addr a.next a.cut a.size) RAT rfl rfl (by kernel_rfl) rfl (ax_one _ _ _ _) ?_)
      generalize w4.alloc (.cells (axV a.addr a.next a.cut a.size) RAT) = w5 at *
      generalize w4.heap.size = xb at *
      go_wp2_with fail
      go_loopw [7] (fun iv wr => ∃ k : Nat, k ≤ a.size.toNat ∧ iv = .int .i64 k ∧ (∀ i, i < k → hasB n (Sp.byte a.addr a.next a.cut (i : Int)) 1 = true) ∧ Below w5.heap.size w5 wr) (fun iv _ => a.size.toNat - (intOf iv).toNat)
      case atStart => exact ⟨0, Nat.zero_le _, rfl, fun i h => by omega, Below.refl _ _⟩
      case round =>
        obtain ⟨k, hk, rfl, hin, hbr⟩ := hrel
        have HIN := Lib.hid hin
        have HBR := Lib.hid hbr
        have HNR := Lib.hid (HN.out.low hbr)
        have d4 := HNR.out.r.ak.size
        have hs8 := HF.out.size
        have hcut := Sp.okA_iff.1 HF.out.cut
        clear hin hbr
        by_cases hlt : k < a.size.toNat
        · have hg : (k : Int) < a.size := by omega
          have HBY := Lib.hid (fun W => rbyte_c a.addr a.next a.cut a.size (k : Int) W (by omega) (by omega) (by omega))
          have hbr := Sp.byte_range a.addr a.next a.cut (k : Int)
          have HHS := Lib.hid (fun W => rhas_c (w := W) g n cap hn (Sp.byte a.addr a.next a.cut (k : Int)) 1 hbr (by omega))
          have HBT := Lib.hid (HNO.out k HIN.out hlt)
          have HYES := Lib.hid (show hasB n (Sp.byte a.addr a.next a.cut (k : Int)) 1 = true → ∀ i, i < k + 1 → hasB n (Sp.byte a.addr a.next a.cut (i : Int)) 1 = true from fun hh i hi => if e : i = k then e ▸ hh else HIN.out i (by omega))
          have h88 : a.size ≤ 8 := by omega
          clear hbr hs8 hcut
          generalize hasB n (Sp.byte a.addr a.next a.cut (k : Int)) 1 = hb at *
          go_upto_region 12 with fail
          clear d4
          refine wp_region_steady (fun W => Below w5.heap.size w5 W) (by kernel_rfl) (by kernel_rfl) HBR.out.drew ?_
          refine steady_val ?_ ?_ (by kernel_rfl) (fun W hS => ?_) ?_ ?_
          rotate_left 2
          · go_simp
            exact rfl
          · go_simp
            exact rfl
          refine steady_val (mV g n cap) ?_ (by kernel_rfl) (fun W hS => exec_load_mid (cs := [.slice (some ⟨g, 0, none⟩) (64 * n) cap]) RMT _ rfl w.heap.size 4 rfl _ (sx_M (HN.out.low hS).r.x) Tryz.underlying59 rfl info_rm) ?_ ?_
          rotate_left 1
          · go_simp
            exact rfl
          refine steady_val (.agg (axV a.addr a.next a.cut a.size)) ?_ (by kernel_rfl) (fun W hS => exec_load_row RAT _ rfl xb rfl RAT _ _ (HN.out.low hS).x Tryz.underlying54 rfl (by kernel_rfl)) ?_ ?_
          rotate_left 1
          · go_simp
            exact rfl
          refine steady_val ?_ ?_ (by kernel_rfl) (fun W hS => ?_) ?_ ?_
          rotate_left 2
          · go_simp
            exact rfl
          · go_simp
            exact rfl
          refine steady_enter (.int .u64 (Sp.byte a.addr a.next a.cut (k : Int))) 55 #[.agg (axV a.addr a.next a.cut a.size), .int .i64 (k : Int)] ?_ (by kernel_rfl) (fun W hS => ?_) (fun W hS => (HBY.out W).mono fun e w' hh => ⟨hh.1, hS.trans (hh.2.mono hS.size)⟩) ?_ ?_
          rotate_left 1
          · go_simp
          · go_simp
            exact rfl
          refine steady_enter (.bool hb) 54 #[mV g n cap, .int .u64 (Sp.byte a.addr a.next a.cut (k : Int)), .int .i64 1] ?_ (by kernel_rfl) (fun W hS => ?_) (fun W hS => (HHS.out W).mono fun e w' hh => ⟨hh.1, hS.trans (hh.2.mono hS.size)⟩) ?_ ?_
          rotate_left 1
          · go_simp
          · go_simp
            exact rfl
          refine steady_val ?_ ?_ (by kernel_rfl) (fun W hS => ?_) ?_ ?_
          rotate_left 2
          · go_simp
            exact rfl
          · go_simp
            exact rfl
          refine steady_nil ?_
          intro W6 hW
          have HB6 := Lib.hid hW
          have HN6 := Lib.hid (HN.out.low hW)
          clear hW HBR HNR
          cases hb
          · have HE := Lib.hid (HBT.out rfl)
            go_wp2_with fail
            go_ret
            exact ⟨by rw [HE.out]; rfl, HN6.out.r.bel⟩
          · have HE := Lib.hid (HYES.out rfl)
            go_wp2_with fail
            go_roundw
            case rel => exact ⟨k + 1, by omega, by go_num, HE.out, HB6.out⟩
            case measure => simp [intOf]; omega
        · have hg : decide ((k : Int) < a.size) = false := by simp; omega
          have HE := Lib.hid (show Sh.mayB n a = true from HMI.out.2 ⟨HFB.out, fun i hi => HIN.out i (by omega)⟩)
          clear hs8 hcut
          go_wp2_with fail
          go_ret
          exact ⟨by rw [HE.out]; rfl, HNR.out.r.bel⟩
theorem rmay14_c (a : Ak) (ha : a.In) (c : Cf) (g n cap : Nat) (hn : n ≤ 4096) (I : Nat → Bool) (L : Nat → Int) (w : World) :
    Calls Tryz.prog 21 #[.agg (sxC c g n cap I L), .agg (akC a)] w fun e w' => e = .returned (.bool (Sh.mayB n a)) ∧ Below w.heap.size w w' := by
  by_cases hf : formB a = true
  · exact rmay_yes a ha c g n cap hn I L w hf
  · have hf : formB a = false := by simpa using hf
    have e : Sh.mayB n a = false := by unfold Sh.mayB; rw [hf]; rfl
    rw [e]
    exact rmay_no a ha c g n cap I L w hf
end Go.Proofs.YtabackklpemhpaaGreat
set_option maxRecDepth 20000
namespace Go.Proofs.YtabackklpemhpaaGreat
open Go.ChangeShapes Go.WideShapes Go.ChangeAt Go.RowKit Wd

structure L14 (w W : World) (sb rb mb b3 b4 : Nat) (B : List Int) (T : Rv.Tb) : Prop where
  sh : ShAt W sb rb mb two14 B T
  k3 : AkAt W b3 lr14
  k4 : AkAt W b4 sc14
  bel : Below w.heap.size w W
  lo : w.heap.size ≤ sb ∧ w.heap.size ≤ mb
  ne : (b3 ≠ sb ∧ b3 ≠ mb) ∧ b4 ≠ sb ∧ b4 ≠ mb
theorem L14.low {w W W' : World} {sb rb mb b3 b4 : Nat} {B : List Int} {T : Rv.Tb} (h : L14 w W sb rb mb b3 b4 B T) (hb : Below W.heap.size W W') : L14 w W' sb rb mb b3 b4 B T := ⟨h.sh.low hb, h.k3.low hb, h.k4.low hb, h.bel.trans (hb.mono h.bel.size), h.lo, h.ne⟩
theorem L14.two {w W W' : World} {sb rb mb b3 b4 : Nat} {B B' : List Int} {T T' : Rv.Tb} (h : L14 w W sb rb mb b3 b4 B T) (hs : ShAt W' sb rb mb two14 B' T') (ht : Two sb mb W W') : L14 w W' sb rb mb b3 b4 B' T' :=
  ⟨hs, ⟨(ht.block _ h.k3.cs.lt h.ne.1.1 h.ne.1.2).trans h.k3.cs⟩, ⟨(ht.block _ h.k4.cs.lt h.ne.2.1 h.ne.2.2).trans h.k4.cs⟩, h.bel.trans (ht.below h.lo.1 h.lo.2 h.bel.size), h.lo, h.ne⟩
theorem zero_ak : akC Ak.zero = #[.int .i64 0, .int .u64 0, .int .u64 0, .int .i64 0, .int .i64 0, .int .i64 0, .int .u64 0, .int .u64 0, .bool false, .int .i64 0, .bool false, .bool false, .bool false, .int .u64 0, .int .i64 0, .int .i64 0, .int .u64 0, .int .i64 0, .int .u64 0] := rfl
theorem lr_in : lr14.In := akOf_in (by omega) (by omega) (by omega) (by omega) (by omega)
theorem sc_in : sc14.In := akOf_in (by omega) (by omega) (by omega) (by omega) (by omega)
theorem st_in : st14.In := akOf_in (by omega) (by omega) (by omega) (by omega) (by omega)
/-- Do in that memory, with the table behind it. -/
theorem do14 {sb rb mb : Nat} {B : List Int} {T : Rv.Tb} (a : Ak) (ha : a.In) (hart : Int) (w : World) (h : ShAt w sb rb mb two14 B T) (hok : Sh.okD 2 2 hart a = true) (T' : Rv.Tb) (hT : ∀ B, Sh.doT B 2 T hart a = T') (g : Bool) (hg : ∀ B, Sh.ansG B 2 T hart a = g) :
    Calls Tryz.prog 6 #[.pointer (some ⟨sb, 0, none⟩), .int .i64 hart, .agg (akC a)] w fun e w' => ∃ d B', e = .returned (.tuple #[.agg (anC d g), .bool true]) ∧ ShAt w' sb rb mb two14 B' T' ∧ Two sb mb w w' :=
  (do_yes a ha hart w h hok).mono fun e w' ⟨h1, h2, h3⟩ => ⟨Sh.ansD B 2 a, Sh.doB B 2 T hart a, by rw [h1, ← hg B]; rfl, by rw [← hT B]; exact h2, h3⟩
theorem live_tabs : ∃ t1 t2 t3 t4 t5 t6 : Rv.Tb, (∀ B, Sh.doT B 2 Rv.none_ 0 lr14 = t1) ∧ (∀ B, Sh.doT B 2 t1 1 st14 = t2) ∧ (∀ B, Sh.ansG B 2 t2 0 sc14 = false) ∧ (∀ B, Sh.doT B 2 t2 0 sc14 = t3) ∧ (∀ B, Sh.doT B 2 t3 0 lr14 = t4) ∧
    (∀ B, Sh.ansG B 2 t4 0 sc14 = true) ∧ (∀ B, Sh.doT B 2 t4 0 sc14 = t5) ∧ (∀ B, Sh.ansG B 2 t5 0 sc14 = false) ∧ (∀ B, Sh.doT B 2 t5 0 sc14 = t6) :=
  ⟨_, Sh.tA, Rv.clr Sh.tA 0, Sh.tB, Sh.tC, Rv.clr Sh.tC 0, fun B => Sh.lr_T B 2 _, fun B => Sh.st_T B 2 _, fun B => (Sh.sc_G B 2 _).trans Sh.has_A, fun B => Sh.sc_T0 B 2 Sh.has_A, fun B => Sh.lr_T B 2 _, fun B => (Sh.sc_G B 2 _).trans Sh.has_B, fun B => Sh.sc_T1 B 2 Sh.has_B, fun B => (Sh.sc_G B 2 _).trans Sh.has_C, fun B => Sh.sc_T0 B 2 Sh.has_C⟩
theorem lr_G (B : List Int) (T : Rv.Tb) : Sh.ansG B 2 T 0 lr14 = false := rfl
theorem st_G (B : List Int) (T : Rv.Tb) : Sh.ansG B 2 T 1 st14 = false := rfl
set_option maxHeartbeats 8000000 in
set_option maxRecDepth 100000 in
theorem live14_c (w : World) : Calls Tryz.prog 19 #[] w fun e w' => e = .returned (.bool true) ∧ Below w.heap.size w w' := by
  obtain ⟨t1, t2, t3, t4, t5, t6, H1, H2, H3, H4, H5, H6, H7, H8, H9⟩ := live_tabs
  have H1 := Lib.hid H1
  have H2 := Lib.hid H2
  have H3 := Lib.hid H3
  have H4 := Lib.hid H4
  have H5 := Lib.hid H5
  have H6 := Lib.hid H6
  have H7 := Lib.hid H7
  have H8 := Lib.hid H8
  have H9 := Lib.hid H9
  go_enter Tryz.func19, Tryz.ntmps19
  go_wp2_with fail
  refine (two_c w).mono ?_
  rintro e w1 ⟨rfl, hb1⟩
  have HB1 := Lib.hid hb1
  clear hb1
  go_wp2_with fail
  refine (snew_c two14 (by decide) w1).mono ?_
  rintro e w2 ⟨sb, rb, mb, rfl, hs2, hb2, h1, h2, h3⟩
  have hb2' := HB1.out.trans (hb2.mono HB1.out.size)
  have hb3 := box_below w2 (akC lr14) AKT
  have HS3 := Lib.hid (hs2.low hb3)
  have HK3 := Lib.hid (akAt_new w2 lr14)
  have HB3 := Lib.hid (hb2'.trans (hb3.mono hb2'.size))
  have HN3 := Lib.hid (show (w.heap.size ≤ sb ∧ w.heap.size ≤ mb) ∧ w2.heap.size ≠ sb ∧ w2.heap.size ≠ mb by
    have e1 := hs2.slt
    have e2 := hs2.ram.mlt
    have e3 := HB1.out.size
    omega)
  clear hs2 hb2 hb2' hb3 h1 h2 h3 HB1
  go_upto_region 4 with fail
  go_upto_region 5 with (refine wpList_storeNew rfl AKT _ _ rfl (akC Ak.zero) (akC lr14) AKT rfl rfl info_ak rfl (akC_one _) ?_)
  generalize w2.alloc (.cells (akC lr14) AKT) = w3 at *
  generalize w2.heap.size = b3 at *
  have hb4 := box_below w3 (akC sc14) AKT
  have HL := Lib.hid (show L14 w (w3.alloc (.cells (akC sc14) AKT)) sb rb mb b3 w3.heap.size (Rm.nought two14.lines.toNat) Rv.none_ by
    have e1 := HS3.out.slt
    have e2 := HS3.out.ram.mlt
    have e3 := HN3.out
    exact ⟨HS3.out.low hb4, HK3.out.low hb4, akAt_new w3 sc14, HB3.out.trans (hb4.mono HB3.out.size), by omega, by omega⟩)
  clear hb4 HS3 HK3 HB3 HN3
  go_upto_region 6 with (refine wpList_storeNew rfl AKT _ _ rfl (akC Ak.zero) (akC sc14) AKT rfl rfl info_ak rfl (akC_one _) ?_)
  generalize w3.alloc (.cells (akC sc14) AKT) = w3' at *
  generalize w3.heap.size = b4 at *
  generalize Rm.nought two14.lines.toNat = B0 at *
  go_wp2_with (refine wpList_load_row rfl AKT _ rfl b3 rfl AKT (akC lr14) (0, 0) _ HL.out.k3.cs Tryz.underlying32 rfl info_ak ?_)
  refine (do14 lr14 lr_in 0 _ HL.out.sh Sh.ok_lr t1 H1.out false (fun B => lr_G B _)).mono ?_
  rintro e w4 ⟨d, B, rfl, hs, ht⟩
  have HL4 := Lib.hid (HL.out.two hs ht)
  clear hs ht HL
  go_wp2_with fail
  refine (do14 st14 st_in 1 _ HL4.out.sh Sh.ok_st t2 H2.out false (fun B => st_G B _)).mono ?_
  rintro e w5 ⟨d, B, rfl, hs, ht⟩
  have HL5 := Lib.hid (HL4.out.two hs ht)
  clear hs ht HL4
  go_wp2_with (refine wpList_load_row rfl AKT _ rfl b4 rfl AKT (akC sc14) (0, 0) _ HL5.out.k4.cs Tryz.underlying32 rfl info_ak ?_)
  refine (do14 sc14 sc_in 0 _ HL5.out.sh Sh.ok_sc t3 H4.out false H3.out).mono ?_
  rintro e w6 ⟨d, B, rfl, hs, ht⟩
  have hL := HL5.out.two hs ht
  have hbn := box_below w6 (anC d false) ANT
  have HL7 := Lib.hid (hL.low hbn)
  have HX7 := Lib.hid (CsAt.new w6 ANT (anC d false))
  have HN7 := Lib.hid (show w6.heap.size ≠ sb ∧ w6.heap.size ≠ mb by have e1 := hL.sh.slt; have e2 := hL.sh.ram.mlt; omega)
  clear hs ht hL hbn HL5
  go_upto_region 9 with (refine wpList_storeNew rfl ANT _ _ rfl (anC 0 false) (anC d false) ANT rfl rfl info_an rfl (anC_one _ _) ?_)
  generalize w6.alloc (.cells (anC d false) ANT) = w7 at *
  generalize w6.heap.size = b5 at *
  generalize d = d7 at *
  go_wp2_with (refine wpList_load_row rfl AKT _ rfl b3 rfl AKT (akC lr14) (0, 0) _ HL7.out.k3.cs Tryz.underlying32 rfl info_ak ?_)
  refine (do14 lr14 lr_in 0 _ HL7.out.sh Sh.ok_lr t4 H5.out false (fun B => lr_G B _)).mono ?_
  rintro e w8 ⟨d, B, rfl, hs, ht⟩
  have HL8 := Lib.hid (HL7.out.two hs ht)
  have HX7 := Lib.hid (show CsAt w8 b5 ANT (anC d7 false) from (ht.block _ HX7.out.lt HN7.out.1 HN7.out.2).trans HX7.out)
  clear hs ht HL7
  go_wp2_with (refine wpList_load_row rfl AKT _ rfl b4 rfl AKT (akC sc14) (0, 0) _ HL8.out.k4.cs Tryz.underlying32 rfl info_ak ?_)
  refine (do14 sc14 sc_in 0 _ HL8.out.sh Sh.ok_sc t5 H7.out true H6.out).mono ?_
  rintro e w9 ⟨d, B, rfl, hs, ht⟩
  have hL := HL8.out.two hs ht
  have hbn := box_below w9 (anC d true) ANT
  have HL10 := Lib.hid (hL.low hbn)
  have HX10 := Lib.hid (CsAt.new w9 ANT (anC d true))
  have hx : CsAt w9 b5 ANT _ := (ht.block _ HX7.out.lt HN7.out.1 HN7.out.2).trans HX7.out
  have HX7 := Lib.hid (hx.low hbn)
  clear hx
  have HN10 := Lib.hid (show w9.heap.size ≠ sb ∧ w9.heap.size ≠ mb by have e1 := hL.sh.slt; have e2 := hL.sh.ram.mlt; omega)
  clear hs ht hL hbn HL8
  go_upto_region 11 with (refine wpList_storeNew rfl ANT _ _ rfl (anC 0 false) (anC d true) ANT rfl rfl info_an rfl (anC_one _ _) ?_)
  generalize w9.alloc (.cells (anC d true) ANT) = w10 at *
  generalize w9.heap.size = b7 at *
  generalize d = d10 at *
  go_wp2_with (refine wpList_load_row rfl AKT _ rfl b4 rfl AKT (akC sc14) (0, 0) _ HL10.out.k4.cs Tryz.underlying32 rfl info_ak ?_)
  refine (do14 sc14 sc_in 0 _ HL10.out.sh Sh.ok_sc t6 H9.out false H8.out).mono ?_
  rintro e w11 ⟨d, B, rfl, hs, ht⟩
  have hL := HL10.out.two hs ht
  have hbn := box_below w11 (anC d false) ANT
  have HL12 := Lib.hid (hL.low hbn)
  have HX12 := Lib.hid (CsAt.new w11 ANT (anC d false))
  have hx : CsAt w11 b5 ANT _ := (ht.block _ HX7.out.lt HN7.out.1 HN7.out.2).trans HX7.out
  have HX7 := Lib.hid (hx.low hbn)
  clear hx
  have hx : CsAt w11 b7 ANT _ := (ht.block _ HX10.out.lt HN10.out.1 HN10.out.2).trans HX10.out
  have HX10 := Lib.hid (hx.low hbn)
  clear hx
  have HN12 := Lib.hid (show w11.heap.size ≠ sb ∧ w11.heap.size ≠ mb by have e1 := hL.sh.slt; have e2 := hL.sh.ram.mlt; omega)
  clear hs ht hL hbn HL10
  go_upto_region 12 with (refine wpList_storeNew rfl ANT _ _ rfl (anC 0 false) (anC d false) ANT rfl rfl info_an rfl (anC_one _ _) ?_)
  generalize w11.alloc (.cells (anC d false) ANT) = w12 at *
  generalize w11.heap.size = b9 at *
  generalize d = d12 at *
  have x5 : w12.cell? ⟨b5, 1, none⟩ = some (.bool false) := HX7.out.cell 1
  have x7 : w12.cell? ⟨b7, 1, none⟩ = some (.bool true) := HX10.out.cell 1
  have x9 : w12.cell? ⟨b9, 1, none⟩ = some (.bool false) := HX12.out.cell 1
  go_wp2_with fail
  go_ret
  exact ⟨rfl, HL12.out.bel⟩
end Go.Proofs.YtabackklpemhpaaGreat
set_option maxRecDepth 20000
namespace Go.Proofs.YtabackklpemhpaaGreat
open Go.ChangeShapes Go.WideShapes Go.ChangeAt Go.RowKit Wd

theorem strict_lt {xs : List Int} (h : xs.Pairwise (· < ·)) {i j : Nat} (hij : i < j) (hj : j < xs.length) : xs.getD i 0 < xs.getD j 0 := by
  have := List.pairwise_iff_getElem.1 h i j (by omega) hj hij
  rw [List.getD, List.getD, List.getElem?_eq_getElem (by omega), List.getElem?_eq_getElem hj]
  exact this
theorem getD_mem {xs : List Int} {i : Nat} (h : i < xs.length) : xs.getD i 0 ∈ xs := by
  rw [List.getD, List.getElem?_eq_getElem h]
  exact List.getElem_mem _
/-- A number that is there already. -/
theorem set_old (xs : List Int) (s : Int) (k : Nat) (hk : k < (Srt.set xs).length) (he : (Srt.set xs).getD k 0 = s) : Srt.set (xs ++ [s]) = Srt.set xs :=
  Srt.set_eq (Srt.set_strict xs) fun z => by
    rw [Srt.set_mem, List.mem_append, List.mem_singleton]
    constructor
    · exact .inl
    · rintro (h | rfl)
      · exact h
      · rw [← Srt.set_mem, ← he]; exact getD_mem hk
/-- A new number, at its place. -/
theorem set_new (xs : List Int) (s : Int) (k : Nat) (hk : k ≤ (Srt.set xs).length) (hl : ∀ i, i < k → (Srt.set xs).getD i 0 < s) (hu : k < (Srt.set xs).length → s < (Srt.set xs).getD k 0) :
    Srt.set (xs ++ [s]) = (Srt.set xs).take k ++ s :: (Srt.set xs).drop k := by
  have hs := Srt.set_strict xs
  refine Srt.set_eq ?_ fun z => ?_
  · rw [List.pairwise_append, List.pairwise_cons]
    refine ⟨hs.sublist (List.take_sublist _ _), ⟨fun b hb => ?_, hs.sublist (List.drop_sublist _ _)⟩, fun a ha b hb => ?_⟩
    · obtain ⟨i, hi, rfl⟩ := List.mem_iff_getElem.1 hb
      rw [List.length_drop] at hi
      rw [List.getElem_drop]
      have h1 := hu (by omega)
      by_cases e : i = 0
      · subst e
        rw [List.getD, List.getElem?_eq_getElem (by omega)] at h1
        exact h1
      · have h2 := strict_lt hs (show k < k + i by omega) (by omega)
        have e2 : (Srt.set xs).getD (k + i) 0 = (Srt.set xs)[k + i] := by rw [List.getD, List.getElem?_eq_getElem (by omega)]; rfl
        rw [← e2]
        omega
    · obtain ⟨i, hi, rfl⟩ := List.mem_iff_getElem.1 ha
      rw [List.length_take] at hi
      rw [List.getElem_take]
      have h1 := hl i (by omega)
      have e1 : (Srt.set xs).getD i 0 = (Srt.set xs)[i] := by rw [List.getD, List.getElem?_eq_getElem (by omega)]; rfl
      rw [e1] at h1
      rcases List.mem_cons.1 hb with rfl | hb
      · exact h1
      · obtain ⟨j, hj, rfl⟩ := List.mem_iff_getElem.1 hb
        rw [List.length_drop] at hj
        rw [List.getElem_drop]
        exact List.pairwise_iff_getElem.1 hs i (k + j) (by omega) (by omega) (by omega)
  · rw [List.mem_append, List.mem_cons, List.mem_append, List.mem_singleton, ← Srt.set_mem xs]
    have e : z ∈ Srt.set xs ↔ z ∈ (Srt.set xs).take k ∨ z ∈ (Srt.set xs).drop k := by rw [← List.mem_append, List.take_append_drop]
    rw [e]
    constructor
    · rintro (h | h | h)
      · exact .inl (.inl h)
      · exact .inr h
      · exact .inl (.inr h)
    · rintro ((h | h) | h)
      · exact .inl h
      · exact .inr (.inr h)
      · exact .inr (.inl h)
theorem vw_take {w : World} {base : Nat} {e : TypeId} {g n cap : Nat} {xs : List Value} (h : w.ownsRow base e 1 (.slice (some ⟨g, 0, none⟩) n cap) n xs) (k : Nat) (hk : k ≤ n) : Vw w (some ⟨g, 0, none⟩) (xs.take k) := by
  refine .inr ⟨g, 0, rfl, (h.lt g rfl).2, fun j u hj => ?_⟩
  have hjk : j < k := by
    have := (List.getElem?_eq_some_iff.1 hj).1
    rw [List.length_take] at this
    omega
  rw [Nat.zero_add, h.cellAt j (by omega)]
  rw [List.getElem?_take, if_pos hjk] at hj
  exact hj
theorem vw_drop {w : World} {base : Nat} {e : TypeId} {g n cap : Nat} {xs : List Value} (h : w.ownsRow base e 1 (.slice (some ⟨g, 0, none⟩) n cap) n xs) (k : Nat) : Vw w (some ⟨g, k, none⟩) (xs.drop k) := by
  refine .inr ⟨g, k, rfl, (h.lt g rfl).2, fun j u hj => ?_⟩
  rw [List.getElem?_drop] at hj
  have := (List.getElem?_eq_some_iff.1 hj).1
  have hl := h.1
  rw [h.cellAt (k + j) (by omega)]
  exact hj
theorem iV_lenT {S : List Int} {m : Nat} (hm : m ≤ S.length) : ((iV S).take m).length = m * 1 := by rw [List.length_take, List.length_map]; omega
theorem iV_lenD (S : List Int) (m : Nat) : ((iV S).drop m).length = (S.length - m) * 1 := by rw [List.length_drop, List.length_map, Nat.mul_one]
theorem iV_oneT (S : List Int) (m : Nat) : ∀ u ∈ (iV S).take m, u.oneCell' = true := by
  intro u hu
  obtain ⟨x, -, rfl⟩ := List.mem_map.1 (List.mem_of_mem_take hu)
  rfl
theorem iV_oneD (S : List Int) (m : Nat) : ∀ u ∈ (iV S).drop m, u.oneCell' = true := by
  intro u hu
  obtain ⟨x, -, rfl⟩ := List.mem_map.1 (List.mem_of_mem_drop hu)
  rfl
/-- Between two pieces: the numbers so far. -/
structure RsAt (w W : World) (B : Nat) (v : Value) (xs : List Int) : Prop where
  own : W.ownsRow B 3 1 v (Srt.set xs).length (iV (Srt.set xs))
  bel : Below B w W
set_option maxHeartbeats 4000000 in
theorem rstripes_c (a b c n s : Int) (w : World) (ha : 0 ≤ a ∧ a < 18446744073709551616) (hb : 0 ≤ b ∧ b < 18446744073709551616) (hs : s ≤ 9223372036854775807) :
    Calls Tryz.prog 22 #[.agg (axV a b c n), .int .i64 s] w fun e w' => ∃ v, e = .returned v ∧ w'.ownsRow w.heap.size 3 1 v (Srt.set (stL (Sp.pieces a b c n) s)).length (iV (Srt.set (stL (Sp.pieces a b c n) s))) ∧ Below w.heap.size w w' := by
  have HB := Lib.hid ((Below.refl w.heap.size w).alloc (Nat.le_refl _) (.cells (axV a b c n) 54))
  have HC := Lib.hid (CsAt.new w 54 (axV a b c n))
  go_enter Tryz.func22, Tryz.ntmps22
  go_upto_region 2 with (fail)
  generalize w.alloc (.cells (axV a b c n) 54) = w1 at *
  go_wp2_with (refine wpList_load_row rfl 54 _ rfl w.heap.size rfl 54 _ (0, 0) _ HC.out Tryz.underlying54 rfl (by kernel_rfl) ?_)
  refine (rpieces_c _ _ _ _ _ ha hb).mono ?_
  rintro e w3 ⟨v3, rfl, hown, hb3⟩
  have HB3 := Lib.hid (HB.out.trans (hb3.mono HB.out.size))
  have HOK := Lib.hid (Sp.pieces_ok (c := c) (n := n) ha hb)
  have hpl := Sp.pieces_len a b c n
  generalize hlq : Sp.pieces a b c n = l at *
  have HLQ := Lib.hid hlq
  clear hlq
  have HO := Lib.hid hown
  obtain ⟨p, cap, rfl, hv, -, -⟩ := own_form hown
  clear hv hown hb3 HB HC
  have HL := Lib.hid hpl
  clear hpl
  go_wp2_with fail
  go_loopw [5, 7] (fun lv iv wr => ∃ k : Nat, k ≤ l.length ∧ iv = .int .i64 k ∧ RsAt w3 wr w3.heap.size lv ((stL l s).take k)) (fun _ iv _ => l.length - (intOf iv).toNat)
  case atStart => exact ⟨0, Nat.zero_le _, rfl, World.ownsRow_nil _ _ _ _, Below.refl _ _⟩
  case round =>
    obtain ⟨k, hk, rfl, hr⟩ := hrel
    have HR := Lib.hid hr
    clear hr
    by_cases hlt : k < l.length
    · have hown := own_low HO.out HR.out.bel
      obtain ⟨g, cap', hp, -, -, -⟩ := own_pos hown (by omega)
      obtain ⟨rfl, rfl⟩ : p = some ⟨g, 0, none⟩ ∧ cap = cap' := by simpa using hp
      clear hp
      have d0 := hown.cellAt (k * 3 + 0) (by omega)
      rw [Sp.cellsOf_at l k 0 hlt (by omega)] at d0
      have hq := HOK.out (l.getD k Sp.p0) (by rw [List.getD, List.getElem?_eq_getElem hlt]; exact List.getElem_mem _)
      have HT := Lib.hid (stL_take l s k hlt)
      generalize l.getD k Sp.p0 = q at *
      obtain ⟨qa, qn, qs⟩ := q
      have q0 : 0 ≤ qa := hq.a0
      have q1 : qa < 18446744073709551616 := hq.a1
      replace d0 : wr.cell? ⟨g, k * 3, none⟩ = some (.int .u64 qa) := d0
      have hxl : ((stL l s).take k).length ≤ 4 := by rw [List.length_take, stL_len]; have := HL.out; omega
      clear hq hown
      generalize hxs : (stL l s).take k = xs at *
      have HXS := Lib.hid hxs
      clear hxs
      have hml := Srt.set_len xs
      have HML := Lib.hid (show (Srt.set xs).length ≤ 4 by omega)
      clear hml hxl
      go_wp2_with fail
      refine (rstripe_c _ _ _ q0 q1 hs).mono ?_
      rintro e w5 ⟨rfl, rfl⟩
      generalize hst : Sp.stripe qa s = st at *
      have HST := Lib.hid hst
      clear hst d0
      generalize hSq : Srt.set xs = S at *
      have HSQ := Lib.hid hSq
      clear hSq
      have hO5 := HR.out.own
      rw [HSQ.out] at hO5
      rcases hO5.2 with ⟨hv0, hn0⟩ | ⟨g5, cap5, cur, hv5, hg5, -, hcap5, -, -, -⟩
      · subst hv0
        have hS0 : S = [] := List.eq_nil_of_length_eq_zero hn0
        subst hS0
        clear hO5 hn0
        have hl4 := HL.out
        have HN := Lib.hid (show Srt.set ((stL l s).take (k + 1)) = [st] by
          rw [HT.out]
          have := set_new xs st 0 (Nat.zero_le _) (fun i hi => absurd hi (Nat.not_lt_zero _)) (by rw [HSQ.out]; exact fun h => absurd h (Nat.lt_irrefl _))
          rw [HSQ.out] at this
          exact this)
        go_wp2_with fail
        go_loop [9] (fun kv => kv = .int .i64 0) (fun _ => 0)
        case atStart => rfl
        case round =>
          subst hrel
          have H6 := Lib.hid (World.ownsRow_lit (base := wr.heap.size) (e := 3) (size := 1) wr #[] 0 (Nat.le_refl _) (Nat.zero_le _) rfl)
          have HB6 := Lib.hid ((Below.refl wr.heap.size wr).alloc (Nat.le_refl _) (.cells #[] 3))
          have HS6 := Lib.hid (show wr.heap.size ≤ (wr.alloc (.cells #[] 3)).heap.size by simp)
          go_wp2_with (at_builtin; refine wpList_cat rfl _ _ 40 rfl wr.heap.size 3 _ 1 8 Tryz.underlying40 info_int rfl (by omega) (by omega) _ 0 [] rfl H6.out none 0 _ [] rfl (.inl rfl) rfl (fun u hu => by cases hu) (by omega) HS6.out ?_)
          intro v7 w7 hown7 hb7
          have H7 := Lib.hid hown7
          have HB7 := Lib.hid (HB6.out.trans hb7)
          have HS7 := Lib.hid HB7.out.size
          clear hown7 hb7 H6 HB6 HS6
          go_wp2_with (at_builtin; refine wpList_push rfl _ _ 40 rfl wr.heap.size 3 _ 1 8 Tryz.underlying40 info_int rfl (by omega) (by omega) _ _ _ rfl H7.out #[.int .i64 st] rfl (by simp [Value.oneCell']) _ rfl rfl (by omega) HS7.out ?_)
          intro v9 w9 hown9 hb9
          have H9 := Lib.hid hown9
          have HB9 := Lib.hid (HB7.out.trans hb9)
          have HS9 := Lib.hid HB9.out.size
          clear hown9 hb9 H7 HB7 HS7
          go_wp2_with (at_builtin; refine wpList_cat rfl _ _ 40 rfl wr.heap.size 3 _ 1 8 Tryz.underlying40 info_int rfl (by omega) (by omega) _ _ _ rfl H9.out none 0 _ [] rfl (.inl rfl) rfl (fun u hu => by cases hu) (by omega) HS9.out ?_)
          intro v10 w10 hown10 hb10
          have HF := Lib.hid (show RsAt w3 w10 w3.heap.size v10 ((stL l s).take (k + 1)) from ⟨by
              rw [HN.out]
              have := own_mono hown10 HR.out.bel.size
              simpa only [iV, List.map_append, List.map_cons, List.map_nil, List.nil_append, List.append_nil, List.length_cons, List.length_nil, Nat.zero_add, Nat.add_zero] using this,
            HR.out.bel.trans ((HB9.out.trans hb10).mono HR.out.bel.size)⟩)
          clear hown10 hb10 HB9 HS9 H9
          go_wp2_with fail
          go_roundw
          case rel => exact ⟨k + 1, by omega, by go_num, HF.out⟩
          case measure => simp [intOf]; omega
      · subst hv5
        have HO5 := Lib.hid hO5
        have HG5 := Lib.hid (And.intro hg5 hcap5)
        clear hO5
        go_wp2_with fail
        go_loop [9] (fun kv => ∃ m : Nat, m ≤ S.length ∧ kv = .int .i64 m ∧ ∀ i, i < m → S.getD i 0 < st) (fun kv => S.length - (intOf kv).toNat)
        case atStart => exact ⟨0, Nat.zero_le _, rfl, fun i hi => absurd hi (Nat.not_lt_zero _)⟩
        case round =>
          obtain ⟨m, hmS, rfl, hlow⟩ := hrel
          have HLOW := Lib.hid hlow
          clear hlow
          have hmc : m ≤ cap5 := by omega
          have hml4 := HML.out
          have hl4 := HL.out
          by_cases hm : m < S.length
          · have c0 := HO5.out.cellAt m (by omega)
            rw [iV_at S m hm] at c0
            have gi : (m : Int) < S.length := by omega
            have gd : decide ((m : Int) < ((S.length : Nat) : Int)) = true := by simpa using hm
            have gd2 : decide (m < S.length) = true := by simpa using hm
            by_cases hlt2 : S.getD m 0 < st
            · have HL2 := Lib.hid (show ∀ i, i < m + 1 → S.getD i 0 < st from fun i hi => by
                by_cases e : i = m
                · subst e; exact hlt2
                · exact HLOW.out i (by omega))
              have gx : decide (S.getD m 0 < st) = true := by simpa using hlt2
              generalize S.getD m 0 = y at c0 hlt2 gx
              go_wp2_with fail
              go_round
              case rel => exact ⟨m + 1, by omega, by go_num, HL2.out⟩
              case measure => simp [intOf]; omega
            · have gx : decide (S.getD m 0 < st) = false := by simpa using hlt2
              by_cases he : S.getD m 0 = st
              · have HN := Lib.hid (show Srt.set ((stL l s).take (k + 1)) = S by
                  rw [HT.out, ← HSQ.out]
                  exact set_old xs st m (by rw [HSQ.out]; exact hm) (by rw [HSQ.out]; exact he))
                have ge : (S.getD m 0 == st) = true := by simpa using he
                generalize S.getD m 0 = y at c0 hlt2 gx he ge
                have HF := Lib.hid (show RsAt w3 wr w3.heap.size (.slice (some ⟨g5, 0, none⟩) S.length cap5) ((stL l s).take (k + 1)) from ⟨by rw [HN.out]; exact HO5.out, HR.out.bel⟩)
                go_wp2_with fail
                go_roundw
                case rel => exact ⟨k + 1, by omega, by go_num, HF.out⟩
                case measure => simp [intOf]; omega
              · have ge : (S.getD m 0 == st) = false := by simpa using he
                have HU := Lib.hid (show m < S.length → st < S.getD m 0 from fun _ => by omega)
                generalize hy : S.getD m 0 = y at c0 hlt2 gx he ge
                clear hy
                have HN := Lib.hid (show Srt.set ((stL l s).take (k + 1)) = S.take m ++ st :: S.drop m by
                  rw [HT.out, ← HSQ.out]
                  exact set_new xs st m (by rw [HSQ.out]; exact hmS) (by rw [HSQ.out]; exact HLOW.out) (by rw [HSQ.out]; exact HU.out))
                have H6 := Lib.hid (World.ownsRow_lit (base := wr.heap.size) (e := 3) (size := 1) wr #[] 0 (Nat.le_refl _) (Nat.zero_le _) rfl)
                have HB6 := Lib.hid ((Below.refl wr.heap.size wr).alloc (Nat.le_refl _) (.cells #[] 3))
                have HS6 := Lib.hid (show wr.heap.size ≤ (wr.alloc (.cells #[] 3)).heap.size by simp)
                have HVT := Lib.hid (show Vw (wr.alloc (.cells #[] 3)) (some ⟨g5, 0, none⟩) ((iV S).take m) from Vw.low (w := wr) (vw_take HO5.out m hmS) ((Below.refl wr.heap.size wr).alloc (Nat.le_refl _) _))
                go_wp2_with (at_builtin; refine wpList_cat rfl _ _ 40 rfl wr.heap.size 3 _ 1 8 Tryz.underlying40 info_int rfl (by omega) (by omega) _ 0 [] rfl H6.out (some ⟨g5, 0, none⟩) m _ ((iV S).take m) rfl HVT.out (iV_lenT hmS) (iV_oneT _ _) (by omega) HS6.out ?_)
                intro v7 w7 hown7 hb7
                have H7 := Lib.hid hown7
                have HB7 := Lib.hid (HB6.out.trans hb7)
                have HS7 := Lib.hid HB7.out.size
                clear hown7 hb7 H6 HB6 HS6 HVT
                go_wp2_with (at_builtin; refine wpList_push rfl _ _ 40 rfl wr.heap.size 3 _ 1 8 Tryz.underlying40 info_int rfl (by omega) (by omega) _ _ _ rfl H7.out #[.int .i64 st] rfl (by simp [Value.oneCell']) _ rfl rfl (by omega) HS7.out ?_)
                intro v9 w9 hown9 hb9
                have H9 := Lib.hid hown9
                have HB9 := Lib.hid (HB7.out.trans hb9)
                have HS9 := Lib.hid HB9.out.size
                have HVD := Lib.hid (show Vw w9 (some ⟨g5, m, none⟩) ((iV S).drop m) from Vw.low (w := wr) (vw_drop HO5.out m) HB9.out)
                clear hown9 hb9 H7 HB7 HS7
                go_wp2_with (at_builtin; refine wpList_cat rfl _ _ 40 rfl wr.heap.size 3 _ 1 8 Tryz.underlying40 info_int rfl (by omega) (by omega) _ _ _ rfl H9.out (some ⟨g5, m, none⟩) (S.length - m) _ ((iV S).drop m) rfl HVD.out (iV_lenD _ _) (iV_oneD _ _) (by omega) HS9.out ?_)
                intro v10 w10 hown10 hb10
                have HF := Lib.hid (show RsAt w3 w10 w3.heap.size v10 ((stL l s).take (k + 1)) from ⟨by
                    rw [HN.out]
                    have e1 : (S.take m ++ st :: S.drop m).length = m + 1 + (S.length - m) := by rw [List.length_append, List.length_take, List.length_cons, List.length_drop]; omega
                    rw [e1]
                    have := own_mono hown10 HR.out.bel.size
                    simpa only [iV, List.map_append, List.map_cons, List.map_take, List.map_drop, List.nil_append, List.append_assoc, List.singleton_append, List.cons_append] using this,
                  HR.out.bel.trans ((HB9.out.trans hb10).mono HR.out.bel.size)⟩)
                clear hown10 hb10 HB9 HS9 HVD H9
                go_wp2_with fail
                go_roundw
                case rel => exact ⟨k + 1, by omega, by go_num, HF.out⟩
                case measure => simp [intOf]; omega
          · have HME := Lib.hid (show m = S.length by omega)
            have gd : decide ((m : Int) < ((S.length : Nat) : Int)) = false := by simpa using hm
            have gd2 : decide (m < S.length) = false := by simpa using hm
            have HU := Lib.hid (show m < S.length → st < S.getD m 0 from fun h => absurd h hm)
            by_cases hcm : cap5 = m
            · subst hcm
              have HDN := Lib.hid (show S.drop cap5 = [] from List.drop_of_length_le (by have := HME.out; omega))
              have HN := Lib.hid (show Srt.set ((stL l s).take (k + 1)) = S.take cap5 ++ st :: S.drop cap5 by
                rw [HT.out, ← HSQ.out]
                exact set_new xs st cap5 (by rw [HSQ.out]; exact hmS) (by rw [HSQ.out]; exact HLOW.out) (by rw [HSQ.out]; exact HU.out))
              have H6 := Lib.hid (World.ownsRow_lit (base := wr.heap.size) (e := 3) (size := 1) wr #[] 0 (Nat.le_refl _) (Nat.zero_le _) rfl)
              have HB6 := Lib.hid ((Below.refl wr.heap.size wr).alloc (Nat.le_refl _) (.cells #[] 3))
              have HS6 := Lib.hid (show wr.heap.size ≤ (wr.alloc (.cells #[] 3)).heap.size by simp)
              have HVT := Lib.hid (show Vw (wr.alloc (.cells #[] 3)) (some ⟨g5, 0, none⟩) ((iV S).take cap5) from Vw.low (w := wr) (vw_take HO5.out cap5 hmS) ((Below.refl wr.heap.size wr).alloc (Nat.le_refl _) _))
              go_wp2_with (at_builtin; refine wpList_cat rfl _ _ 40 rfl wr.heap.size 3 _ 1 8 Tryz.underlying40 info_int rfl (by omega) (by omega) _ 0 [] rfl H6.out (some ⟨g5, 0, none⟩) cap5 _ ((iV S).take cap5) rfl HVT.out (iV_lenT hmS) (iV_oneT _ _) (by omega) HS6.out ?_)
              intro v7 w7 hown7 hb7
              have H7 := Lib.hid hown7
              have HB7 := Lib.hid (HB6.out.trans hb7)
              have HS7 := Lib.hid HB7.out.size
              clear hown7 hb7 H6 HB6 HS6 HVT
              go_wp2_with (at_builtin; refine wpList_push rfl _ _ 40 rfl wr.heap.size 3 _ 1 8 Tryz.underlying40 info_int rfl (by omega) (by omega) _ _ _ rfl H7.out #[.int .i64 st] rfl (by simp [Value.oneCell']) _ rfl rfl (by omega) HS7.out ?_)
              intro v9 w9 hown9 hb9
              have H9 := Lib.hid hown9
              have HB9 := Lib.hid (HB7.out.trans hb9)
              have HS9 := Lib.hid HB9.out.size
              have HVD := Lib.hid (show Vw w9 (some ⟨g5, 0, none⟩) [] from Vw.low (w := wr) (.inl rfl) HB9.out)
              clear hown9 hb9 H7 HB7 HS7
              go_wp2_with (at_builtin; refine wpList_cat rfl _ _ 40 rfl wr.heap.size 3 _ 1 8 Tryz.underlying40 info_int rfl (by omega) (by omega) _ _ _ rfl H9.out (some ⟨g5, 0, none⟩) 0 _ [] rfl HVD.out rfl (fun u hu => by cases hu) (by omega) HS9.out ?_)
              intro v10 w10 hown10 hb10
              have HF := Lib.hid (show RsAt w3 w10 w3.heap.size v10 ((stL l s).take (k + 1)) from ⟨by
                  rw [HN.out]
                  have e1 : (S.take cap5 ++ st :: S.drop cap5).length = cap5 + 1 + 0 := by rw [HDN.out, List.length_append, List.length_take, List.length_cons, List.length_nil]; omega
                  rw [e1, HDN.out]
                  have := own_mono hown10 HR.out.bel.size
                  simpa only [iV, List.map_append, List.map_cons, List.map_take, List.map_nil, List.nil_append, List.append_nil, List.append_assoc, List.singleton_append, List.cons_append] using this,
                HR.out.bel.trans ((HB9.out.trans hb10).mono HR.out.bel.size)⟩)
              clear hown10 hb10 HB9 HS9 HVD H9
              go_wp2_with fail
              go_roundw
              case rel => exact ⟨k + 1, by omega, by go_num, HF.out⟩
              case measure => simp [intOf]; omega
            · have HN := Lib.hid (show Srt.set ((stL l s).take (k + 1)) = S.take m ++ st :: S.drop m by
                rw [HT.out, ← HSQ.out]
                exact set_new xs st m (by rw [HSQ.out]; exact hmS) (by rw [HSQ.out]; exact HLOW.out) (by rw [HSQ.out]; exact HU.out))
              have H6 := Lib.hid (World.ownsRow_lit (base := wr.heap.size) (e := 3) (size := 1) wr #[] 0 (Nat.le_refl _) (Nat.zero_le _) rfl)
              have HB6 := Lib.hid ((Below.refl wr.heap.size wr).alloc (Nat.le_refl _) (.cells #[] 3))
              have HS6 := Lib.hid (show wr.heap.size ≤ (wr.alloc (.cells #[] 3)).heap.size by simp)
              have HVT := Lib.hid (show Vw (wr.alloc (.cells #[] 3)) (some ⟨g5, 0, none⟩) ((iV S).take m) from Vw.low (w := wr) (vw_take HO5.out m hmS) ((Below.refl wr.heap.size wr).alloc (Nat.le_refl _) _))
              go_wp2_with (at_builtin; refine wpList_cat rfl _ _ 40 rfl wr.heap.size 3 _ 1 8 Tryz.underlying40 info_int rfl (by omega) (by omega) _ 0 [] rfl H6.out (some ⟨g5, 0, none⟩) m _ ((iV S).take m) rfl HVT.out (iV_lenT hmS) (iV_oneT _ _) (by omega) HS6.out ?_)
              intro v7 w7 hown7 hb7
              have H7 := Lib.hid hown7
              have HB7 := Lib.hid (HB6.out.trans hb7)
              have HS7 := Lib.hid HB7.out.size
              clear hown7 hb7 H6 HB6 HS6 HVT
              go_wp2_with (at_builtin; refine wpList_push rfl _ _ 40 rfl wr.heap.size 3 _ 1 8 Tryz.underlying40 info_int rfl (by omega) (by omega) _ _ _ rfl H7.out #[.int .i64 st] rfl (by simp [Value.oneCell']) _ rfl rfl (by omega) HS7.out ?_)
              intro v9 w9 hown9 hb9
              have H9 := Lib.hid hown9
              have HB9 := Lib.hid (HB7.out.trans hb9)
              have HS9 := Lib.hid HB9.out.size
              have HVD := Lib.hid (show Vw w9 (some ⟨g5, m, none⟩) ((iV S).drop m) from Vw.low (w := wr) (vw_drop HO5.out m) HB9.out)
              clear hown9 hb9 H7 HB7 HS7
              go_wp2_with (at_builtin; refine wpList_cat rfl _ _ 40 rfl wr.heap.size 3 _ 1 8 Tryz.underlying40 info_int rfl (by omega) (by omega) _ _ _ rfl H9.out (some ⟨g5, m, none⟩) (S.length - m) _ ((iV S).drop m) rfl HVD.out (iV_lenD _ _) (iV_oneD _ _) (by omega) HS9.out ?_)
              intro v10 w10 hown10 hb10
              have HF := Lib.hid (show RsAt w3 w10 w3.heap.size v10 ((stL l s).take (k + 1)) from ⟨by
                  rw [HN.out]
                  have e1 : (S.take m ++ st :: S.drop m).length = m + 1 + (S.length - m) := by rw [List.length_append, List.length_take, List.length_cons, List.length_drop]; omega
                  rw [e1]
                  have := own_mono hown10 HR.out.bel.size
                  simpa only [iV, List.map_append, List.map_cons, List.map_take, List.map_drop, List.nil_append, List.append_assoc, List.singleton_append, List.cons_append] using this,
                HR.out.bel.trans ((HB9.out.trans hb10).mono HR.out.bel.size)⟩)
              clear hown10 hb10 HB9 HS9 HVD H9
              go_wp2_with fail
              go_roundw
              case rel => exact ⟨k + 1, by omega, by go_num, HF.out⟩
              case measure => simp [intOf]; omega
    · obtain rfl : k = l.length := by omega
      have hr := HR.out.own
      have hsl := stL_len l s
      rw [List.take_of_length_le (by omega)] at hr
      have HV := Lib.hid hr
      have HW := Lib.hid (HB3.out.trans (HR.out.bel.mono HB3.out.size))
      clear hr hsl
      go_wp2_with fail
      go_ret
      rw [HLQ.out]
      exact ⟨_, rfl, own_mono HV.out HB3.out.size, HW.out⟩
end Go.Proofs.YtabackklpemhpaaGreat
