/-
  Contracts of the reference's Order and Text (layer 6).
-/
import Derived.Test.YthehcplogkgkeaaGreatDoorQr
import Derived.Test.YthehcplogkgkeaaGreatDoorQk
import Derived.Test.YthehcplogkgkeaaGreatDoorQm
import Derived.Deep.DeepCutAuto
set_option maxRecDepth 4000
namespace Go.Proofs.YthehcplogkgkeaaGreatDoor
open Go.ChangeShapes Go.WideShapes Go.ChangeAt Go.RowKit Wd

def codeK : Kd → UInt8
  | .rd => 100
  | .rs1 => 49
  | .rs2 => 50
  | .csr => 99
  | .num => 110
  | .imm => 105
  | .up => 117
def codeB (Ks : List Kd) : ByteArray := ⟨(Ks.map codeK).toArray⟩
theorem order_1 (w : World) : Calls Tryz.prog 25 #[.string ⟨#[82]⟩] w fun e w' => e = .returned (.string ⟨#[100, 49, 50]⟩) ∧ w = w' := by
  go_enter Tryz.func25, Tryz.ntmps25
  go_wp2
  go_ret
  exact ⟨rfl, rfl⟩
theorem order_2 (w : World) : Calls Tryz.prog 25 #[.string ⟨#[73]⟩] w fun e w' => e = .returned (.string ⟨#[100, 49, 105]⟩) ∧ w = w' := by
  go_enter Tryz.func25, Tryz.ntmps25
  go_wp2
  go_ret
  exact ⟨rfl, rfl⟩
theorem order_3 (w : World) : Calls Tryz.prog 25 #[.string ⟨#[83]⟩] w fun e w' => e = .returned (.string ⟨#[50, 49, 105]⟩) ∧ w = w' := by
  go_enter Tryz.func25, Tryz.ntmps25
  go_wp2
  go_ret
  exact ⟨rfl, rfl⟩
theorem order_4 (w : World) : Calls Tryz.prog 25 #[.string ⟨#[66]⟩] w fun e w' => e = .returned (.string ⟨#[49, 50, 105]⟩) ∧ w = w' := by
  go_enter Tryz.func25, Tryz.ntmps25
  go_wp2
  go_ret
  exact ⟨rfl, rfl⟩
theorem order_5 (w : World) : Calls Tryz.prog 25 #[.string ⟨#[85]⟩] w fun e w' => e = .returned (.string ⟨#[100, 117]⟩) ∧ w = w' := by
  go_enter Tryz.func25, Tryz.ntmps25
  go_wp2
  go_ret
  exact ⟨rfl, rfl⟩
theorem order_6 (w : World) : Calls Tryz.prog 25 #[.string ⟨#[74]⟩] w fun e w' => e = .returned (.string ⟨#[100, 105]⟩) ∧ w = w' := by
  go_enter Tryz.func25, Tryz.ntmps25
  go_wp2
  go_ret
  exact ⟨rfl, rfl⟩
theorem order_7 (w : World) : Calls Tryz.prog 25 #[.string ⟨#[83, 104, 105, 102, 116]⟩] w fun e w' => e = .returned (.string ⟨#[100, 49, 105]⟩) ∧ w = w' := by
  go_enter Tryz.func25, Tryz.ntmps25
  go_wp2
  go_ret
  exact ⟨rfl, rfl⟩
theorem order_8 (w : World) : Calls Tryz.prog 25 #[.string ⟨#[83, 104, 105, 102, 116, 87]⟩] w fun e w' => e = .returned (.string ⟨#[100, 49, 105]⟩) ∧ w = w' := by
  go_enter Tryz.func25, Tryz.ntmps25
  go_wp2
  go_ret
  exact ⟨rfl, rfl⟩
theorem order_9 (w : World) : Calls Tryz.prog 25 #[.string ⟨#[67, 115, 114]⟩] w fun e w' => e = .returned (.string ⟨#[100, 99, 49]⟩) ∧ w = w' := by
  go_enter Tryz.func25, Tryz.ntmps25
  go_wp2
  go_ret
  exact ⟨rfl, rfl⟩
theorem order_10 (w : World) : Calls Tryz.prog 25 #[.string ⟨#[67, 115, 114, 73]⟩] w fun e w' => e = .returned (.string ⟨#[100, 99, 110]⟩) ∧ w = w' := by
  go_enter Tryz.func25, Tryz.ntmps25
  go_wp2
  go_ret
  exact ⟨rfl, rfl⟩
theorem order_11 (w : World) : Calls Tryz.prog 25 #[.string ⟨#[65]⟩] w fun e w' => e = .returned (.string ⟨#[100, 50, 49]⟩) ∧ w = w' := by
  go_enter Tryz.func25, Tryz.ntmps25
  go_wp2
  go_ret
  exact ⟨rfl, rfl⟩
theorem order_12 (w : World) : Calls Tryz.prog 25 #[.string ⟨#[76, 114]⟩] w fun e w' => e = .returned (.string ⟨#[100, 49]⟩) ∧ w = w' := by
  go_enter Tryz.func25, Tryz.ntmps25
  go_wp2
  go_ret
  exact ⟨rfl, rfl⟩
theorem order_13 (w : World) : Calls Tryz.prog 25 #[.string ⟨#[66, 97, 114, 101]⟩] w fun e w' => e = .returned (.string ⟨#[]⟩) ∧ w = w' := by
  go_enter Tryz.func25, Tryz.ntmps25
  go_wp2
  go_ret
  exact ⟨rfl, rfl⟩
theorem order_14 (w : World) : Calls Tryz.prog 25 #[.string ⟨#[83, 102, 101, 110, 99, 101]⟩] w fun e w' => e = .returned (.string ⟨#[49, 50]⟩) ∧ w = w' := by
  go_enter Tryz.func25, Tryz.ntmps25
  go_wp2
  go_ret
  exact ⟨rfl, rfl⟩
theorem order_c (f : Nat) (h1 : 1 ≤ f) (h2 : f ≤ 14) (w : World) : Calls Tryz.prog 25 #[strV (Tab.names3.getD f [])] w fun e w' => e = .returned (.string (codeB (kdL f))) ∧ w = w' := by
  have h : f = 1 ∨ f = 2 ∨ f = 3 ∨ f = 4 ∨ f = 5 ∨ f = 6 ∨ f = 7 ∨ f = 8 ∨ f = 9 ∨ f = 10 ∨ f = 11 ∨ f = 12 ∨ f = 13 ∨ f = 14 := by omega
  rcases h with rfl | rfl | rfl | rfl | rfl | rfl | rfl | rfl | rfl | rfl | rfl | rfl | rfl | rfl
  · exact order_1 w
  · exact order_2 w
  · exact order_3 w
  · exact order_4 w
  · exact order_5 w
  · exact order_6 w
  · exact order_7 w
  · exact order_8 w
  · exact order_9 w
  · exact order_10 w
  · exact order_11 w
  · exact order_12 w
  · exact order_13 w
  · exact order_14 w
/-- The reference's names of registers in memory, in block g. -/
def NamesIn (W : World) (g : Nat) : Prop := ∀ k, k < 32 → W.cell? ⟨g, k, none⟩ = some (Rg.strR (Rg.nmR k))
theorem NamesIn.low {W W' : World} {g : Nat} (h : NamesIn W g) (hb : Below W.heap.size W W') : NamesIn W' g :=
  fun k hk => (hb.cell (p := ⟨g, k, none⟩) (lt_cell (h k hk))).trans (h k hk)
theorem nameR_in {i : Int} (h0 : 0 ≤ i) (h1 : i < 32) : Rg.nameR i = Rg.nmR i.toNat := by
  unfold Rg.nameR
  rw [if_pos ⟨h0, h1⟩]
theorem names_at {W : World} {g : Nat} {i : Int} (h : NamesIn W g) (h0 : 0 ≤ i) (h1 : i < 32) : W.cell? ⟨g, i.toNat, none⟩ = some (.string (Rg.bsR (Rg.nameR i))) := by
  rw [nameR_in h0 h1]
  exact h i.toNat (by omega)
theorem codeB_size (Ks : List Kd) : (codeB Ks).size = Ks.length := by simp [codeB, ByteArray.size]
theorem codeB_at (Ks : List Kd) (k : Nat) (h : k < (codeB Ks).size) (hk : k < Ks.length) : (codeB Ks)[k]'h = codeK (Ks.getD k .rd) := by
  have e : (codeB Ks)[k]'h = (Ks.map codeK).toArray[k]'(by simpa using hk) := rfl
  rw [e]
  simp [List.getD, hk]
theorem field_fmt (q1 q2 q3 : Int) (s : ByteArray) (w : World) : (Instr.field 62 (.agg #[.int .i64 q1, .string s, .int .u64 q2, .int .u64 q3]) 1).run Tryz.prog w = .ok (.string s) w := by kernel_rfl
theorem append_nil (b : ByteArray) : b ++ (⟨#[]⟩ : ByteArray) = b := by
  apply ByteArray.ext
  simp
theorem check_in {op rd rs1 rs2 imm csr : Int} {aq rl : Bool} (h : checkS op rd rs1 rs2 imm csr aq rl = 0) : 1 ≤ fmtN op ∧ (1 ≤ op ∧ op ≤ 98) ∧ (0 ≤ rd ∧ rd < 32) ∧ (0 ≤ rs1 ∧ rs1 < 32) ∧ (0 ≤ rs2 ∧ rs2 < 32) ∧ 0 ≤ csr ∧ csr < 4096 := by
  unfold checkS at h
  split at h
  · exact absurd h (by decide)
  · rename_i hf
    split at h
    · exact absurd h (by decide)
    · split at h
      · exact absurd h (by decide)
      · rename_i hr
        have hr' : rangeB rd rs1 rs2 csr = true := by simpa using hr
        simp [rangeB, inF] at hr'
        have ho : 1 ≤ op ∧ op ≤ 98 := by
          by_cases c : 1 ≤ op ∧ op ≤ 98
          · exact c
          · exact absurd ((fmt_zero op).2 c) hf
        omega

set_option maxHeartbeats 4000000 in
theorem refText_no (op rd rs1 rs2 imm csr : Int) (aq rl : Bool) (w : World) (hc : checkS op rd rs1 rs2 imm csr aq rl ≠ 0) :
    Calls Tryz.prog 9 #[insA op rd rs1 rs2 imm csr aq rl] w fun e w' => e = .returned (.tuple #[.string ⟨#[]⟩, .int .i64 (checkS op rd rs1 rs2 imm csr aq rl)]) ∧ Below w.heap.size w w' := by
  show Calls Tryz.prog 9 #[.agg #[.int .i64 op, .int .i64 rd, .int .i64 rs1, .int .i64 rs2, .int .i64 imm, .int .i64 csr, .bool aq, .bool rl]] w _
  have HB0 := Lib.hid ((Below.refl w.heap.size w).alloc (Nat.le_refl _) (.cells #[.int .i64 op, .int .i64 rd, .int .i64 rs1, .int .i64 rs2, .int .i64 imm, .int .i64 csr, .bool aq, .bool rl] 24))
  obtain ⟨⟨i0, i1, i2, i3, i4, i5, i6, i7⟩⟩ := insAt_new w 24 op rd rs1 rs2 imm csr aq rl
  have HK := Lib.hid (fun w' => refCheck_c op rd rs1 rs2 imm csr aq rl w')
  have e1 : (checkS op rd rs1 rs2 imm csr aq rl != 0) = true := by simpa using hc
  generalize checkS op rd rs1 rs2 imm csr aq rl = c at *
  clear hc
  go_enter Tryz.func9, Tryz.ntmps9
  go_wp2_with fail
  generalize (w.alloc (.cells #[.int .i64 op, .int .i64 rd, .int .i64 rs1, .int .i64 rs2, .int .i64 imm, .int .i64 csr, .bool aq, .bool rl] 24)) = W at *
  refine (HK.out _).mono ?_
  rintro e w1 ⟨rfl, hb⟩
  have HB1 := Lib.hid (HB0.out.trans (hb.mono HB0.out.size))
  clear hb
  go_wp2_with fail
  go_ret2
  exact ⟨rfl, HB1.out⟩
set_option maxHeartbeats 16000000 in
theorem refText_yes (op rd rs1 rs2 imm csr : Int) (aq rl : Bool) (w : World) (hf : FitI rd rs1 rs2 imm csr) (hc : checkS op rd rs1 rs2 imm csr aq rl = 0) :
    Calls Tryz.prog 9 #[insA op rd rs1 rs2 imm csr aq rl] w fun e w' => e = .returned (.tuple #[.string (textS op rd rs1 rs2 imm csr aq rl), .int .i64 0]) ∧ Below w.heap.size w w' := by
  show Calls Tryz.prog 9 #[.agg #[.int .i64 op, .int .i64 rd, .int .i64 rs1, .int .i64 rs2, .int .i64 imm, .int .i64 csr, .bool aq, .bool rl]] w _
  obtain ⟨hf1, ⟨ho1, ho2⟩, hrd, hrs1, hrs2, -⟩ := check_in hc
  have hf2 := fmt_le op
  have HB0 := Lib.hid ((Below.refl w.heap.size w).alloc (Nat.le_refl _) (.cells #[.int .i64 op, .int .i64 rd, .int .i64 rs1, .int .i64 rs2, .int .i64 imm, .int .i64 csr, .bool aq, .bool rl] 24))
  have HI := Lib.hid (insAt_new w 24 op rd rs1 rs2 imm csr aq rl)
  obtain ⟨⟨i0, i1, i2, i3, i4, i5, i6, i7⟩⟩ := HI.out
  have HK := Lib.hid (fun w' => hc ▸ refCheck_c op rd rs1 rs2 imm csr aq rl w')
  have HT := Lib.hid (show textS op rd rs1 rs2 imm csr aq rl = lineK (nameB op ++ ordB aq rl) ((kdL (fmtN op)).map fun k => txtK k rd rs1 rs2 imm csr) from rfl)
  clear hc
  go_enter Tryz.func9, Tryz.ntmps9
  go_wp2_with fail
  generalize (w.alloc (.cells #[.int .i64 op, .int .i64 rd, .int .i64 rs1, .int .i64 rs2, .int .i64 imm, .int .i64 csr, .bool aq, .bool rl] 24)) = W at *
  refine (HK.out _).mono ?_
  rintro e w1 ⟨rfl, hb⟩
  replace HB0 := Lib.hid (HB0.out.trans (hb.mono HB0.out.size))
  replace HI := Lib.hid (HI.out.on hb)
  clear hb i0 i1 i2 i3 i4 i5 i6 i7 HK
  obtain ⟨k, rfl⟩ : ∃ k : Nat, op = (k : Int) := ⟨op.toNat, by omega⟩
  have hk : k < 99 := by omega
  have hk2 : (k : Int) < 99 := by omega
  go_upto_region 4 with fail
  go_cut [5] (fun s wx => s = .string (bsOf (Tab.names4.getD k [])) ∧ Below w.heap.size w wx ∧ InsAt wx w.heap.size k rd rs1 rs2 imm csr aq rl)
  case first =>
    have HD := Lib.hid (HI.out.on ((Below.refl _ w1).drew))
    obtain ⟨⟨i0, i1, i2, i3, i4, i5, i6, i7⟩⟩ := HD.out
    have HBd := Lib.hid (HB0.out.drew)
    go_region_with ((go_at_call 24; refine (refNames4_c _).mono ?_; rintro e wn ⟨rfl, hwn⟩; have hb : Below w1.drew.heap.size w1.drew wn := (by rw [← hwn]; exact (Below.refl _ _).alloc (Nat.le_refl _) _); have HBn := Lib.hid (HBd.out.trans (hb.mono HBd.out.size)); have HIn := Lib.hid (HD.out.on hb); have j0 := HIn.out.c.1; have cn : wn.cell? ⟨w1.heap.size, k, none⟩ = some (.string (bsOf (Tab.names4.getD k []))) := (by rw [← hwn]; exact names4_cell w1.drew k hk); clear hwn hb))
    all_goals
      go_wp2_with fail
      go_meet
      case rel => exact ⟨by simp [List.getD], HBn.out, HIn.out⟩
  case rest =>
    obtain ⟨rfl, hBc, hIc⟩ := hcut
    have HBc := Lib.hid hBc
    have HIc := Lib.hid hIc
    have y6 := hIc.c.2.2.2.2.2.2.1
    have y7 := hIc.c.2.2.2.2.2.2.2
    have hnb := nameB_size k
    have HNB := Lib.hid (show nameB k = bsOf (Tab.names4.getD k []) by unfold nameB Tab.nmL; rw [if_pos ⟨ho1, ho2⟩, Int.toNat_natCast])
    rw [HNB.out] at hnb
    clear hBc hIc
    generalize bsOf (Tab.names4.getD k []) = nb at *
    rename_i wc
    go_upto_region 5 with fail
    go_cut [24] (fun s wx => s = .bool (aq && rl) ∧ wx = wc)
    case first =>
      cases aq
      all_goals
        go_wp2_with fail
        go_meet
        case rel => exact ⟨by simp, rfl⟩
    case rest =>
      obtain ⟨rfl, rfl⟩ := hcut
      go_upto_if 24 with fail
      go_cut [5] (fun s wx => s = .string (nb ++ ordB aq rl) ∧ wx = wc)
      case first =>
        cases aq <;> cases rl
        all_goals
          go_wp2_with fail
          go_meet
          case rel => exact ⟨by first | rfl | (rw [show ordB false false = ⟨#[]⟩ from rfl, append_nil]), rfl⟩
      case rest =>
        obtain ⟨rfl, rfl⟩ := hcut
        have y0 := HIc.out.c.1
        clear y6 y7
        go_wp2_with fail
        refine (refFind_c _ _).mono ?_
        rintro e w2 ⟨rfl, hb⟩
        replace HBc := Lib.hid (HBc.out.trans (hb.mono HBc.out.size))
        replace HIc := Lib.hid (HIc.out.on hb)
        clear hb y0
        have HFM := Lib.hid (show (findRow k).2.1 = fmtN k from rfl)
        unfold rowAgg
        rw [HFM.out]
        generalize (((findRow k).1 : Nat) : Int) = q1 at *
        generalize (((findRow k).2.2.1 : Nat) : Int) = q2 at *
        generalize (((findRow k).2.2.2 : Nat) : Int) = q3 at *
        clear HFM
        have HOR := Lib.hid (fun w' => (show Calls Tryz.prog 25 #[.string (bsOf (Tab.names3.getD (fmtN k) []))] w' fun e w'' => e = .returned (.string (codeB (kdL (fmtN k)))) ∧ w' = w'' from order_c _ hf1 hf2 w'))
        have hff := field_fmt
        go_wp2_with fail
        refine (HOR.out _).mono ?_
        rintro e w3 ⟨rfl, rfl⟩
        clear HOR
        have hlen := kdL_len (fmtN k)
        generalize kdL (fmtN k) = Ks at *
        go_wp2_with fail
        refine (Rg.refNames5_c _).mono ?_
        rintro e w4 ⟨rfl, hw4⟩
        have hb : Below w2.heap.size w2 w4 := by rw [← hw4]; exact (Below.refl _ _).alloc (Nat.le_refl _) _
        have HNI := Lib.hid (show NamesIn w4 w2.heap.size by rw [← hw4]; exact fun j hj => Rg.names_cell w2 j hj)
        replace HBc := Lib.hid (HBc.out.trans (hb.mono HBc.out.size))
        replace HIc := Lib.hid (HIc.out.on hb)
        clear hb hw4
        have hbz : (nb ++ ordB aq rl).size < 40 := by
          have := ordB_size aq rl
          rw [ByteArray.size_append]
          omega
        have HBB := Lib.hid HNB.out
        rw [HNB.out] at HT
        clear HNB HBB
        generalize nb ++ ordB aq rl = base at *
        have hz : ∀ k, k ≤ Ks.length → (lineK base ((Ks.map fun k => txtK k rd rs1 rs2 imm csr).take k)).size ≤ 40 + 66 := by
          intro k hk
          have h := lineK_size base ((Ks.map fun k => txtK k rd rs1 rs2 imm csr).take k) (fun t ht => by
            have := List.mem_of_mem_take ht
            simp only [List.mem_map] at this
            obtain ⟨a, _, rfl⟩ := this
            exact txtK_small a hf)
          have h2 : ((Ks.map fun k => txtK k rd rs1 rs2 imm csr).take k).length ≤ 3 := by simp; omega
          omega
        have HZ := Lib.hid hz
        clear hz
        have hcs := codeB_size Ks
        have hca : ∀ (j : Nat) (h : j < (codeB Ks).size), j < Ks.length → (codeB Ks)[j]'h = codeK (Ks.getD j .rd) := codeB_at Ks
        have HCA := Lib.hid hca
        clear hca
        generalize codeB Ks = cb at *
        go_wp2_with fail
        go_loopw [5, 8] (fun ln i wr => ∃ j : Nat, j ≤ Ks.length ∧ i = .int .i64 j ∧ ln = .string (lineK base ((Ks.map fun k => txtK k rd rs1 rs2 imm csr).take j)) ∧ Below w4.heap.size w4 wr) (fun _ i _ => Ks.length - (intOf i).toNat)
        case atStart => exact ⟨0, Nat.zero_le _, rfl, rfl, Below.refl _ _⟩
        case round =>
          obtain ⟨j, hj, rfl, rfl, hnx⟩ := hrel
          have HN := Lib.hid hnx
          have HIr := Lib.hid (HIc.out.on hnx)
          have HNr := Lib.hid (HNI.out.low hnx)
          clear hnx
          by_cases hlt : j < Ks.length
          · have hz1 := HZ.out j hj
            have HS := Lib.hid (lineK_succ base (Ks.map fun k => txtK k rd rs1 rs2 imm csr) j (by simpa using hlt))
            have eg : (Ks.map fun k => txtK k rd rs1 rs2 imm csr).getD j ⟨#[]⟩ = txtK (Ks.getD j .rd) rd rs1 rs2 imm csr := by simp [List.getD, hlt]
            rw [eg] at HS
            have hjc : j < cb.size := by omega
            have hch := HCA.out j hjc hlt
            have hlt2 : (j : Int) < (cb.size : Int) := by omega
            clear eg
            generalize Ks.getD j .rd = kk at *
            have htz := txtK_small kk hf
            obtain ⟨⟨i0, i1, i2, i3, i4, i5, i6, i7⟩⟩ := HIr.out
            generalize lineK base (List.take j (List.map (fun k => txtK k rd rs1 rs2 imm csr) Ks)) = L0 at *
            cases kk
            · have nr := names_at HNr.out hrd.1 hrd.2
              have HS2 := Lib.hid (show _ = L0 ++ (⟨#[32]⟩ ++ Rg.bsR (Rg.nameR rd)) from HS.out)
              have hts := nameR_small rd
              clear HS htz
              generalize Rg.bsR (Rg.nameR rd) = tt at *
              go_wp2_with fail
              go_roundw
              case rel => exact ⟨j + 1, by omega, by go_num, by rw [HS2.out, ByteArray.append_assoc], HN.out⟩
              case measure => simp [intOf]; omega
            · have nr := names_at HNr.out hrs1.1 hrs1.2
              have HS2 := Lib.hid (show _ = L0 ++ (⟨#[32]⟩ ++ Rg.bsR (Rg.nameR rs1)) from HS.out)
              have hts := nameR_small rs1
              clear HS htz
              generalize Rg.bsR (Rg.nameR rs1) = tt at *
              go_wp2_with fail
              go_roundw
              case rel => exact ⟨j + 1, by omega, by go_num, by rw [HS2.out, ByteArray.append_assoc], HN.out⟩
              case measure => simp [intOf]; omega
            · have nr := names_at HNr.out hrs2.1 hrs2.2
              have HS2 := Lib.hid (show _ = L0 ++ (⟨#[32]⟩ ++ Rg.bsR (Rg.nameR rs2)) from HS.out)
              have hts := nameR_small rs2
              clear HS htz
              generalize Rg.bsR (Rg.nameR rs2) = tt at *
              go_wp2_with fail
              go_roundw
              case rel => exact ⟨j + 1, by omega, by go_num, by rw [HS2.out, ByteArray.append_assoc], HN.out⟩
              case measure => simp [intOf]; omega
            · have HDI := Lib.hid (fun w' => (show Calls Tryz.prog 28 #[.int .i64 csr] w' fun e w'' => e = .returned (.string ⟨(Lib.itoa csr).toArray⟩) ∧ w'' = w' from refDigits6_c csr hf.csr.1 hf.csr.2 w'))
              have HS2 := Lib.hid (show _ = L0 ++ (⟨#[32]⟩ ++ (⟨(Lib.itoa csr).toArray⟩ : ByteArray)) from HS.out)
              have hts := itoa_small hf.csr
              clear HS htz
              generalize (⟨(Lib.itoa csr).toArray⟩ : ByteArray) = tt at *
              go_wp2_with fail
              refine (HDI.out _).mono ?_
              rintro e w5 ⟨rfl, rfl⟩
              go_wp2_with fail
              go_roundw
              case rel => exact ⟨j + 1, by omega, by go_num, by rw [HS2.out, ByteArray.append_assoc], HN.out⟩
              case measure => simp [intOf]; omega
            · have HDI := Lib.hid (fun w' => (show Calls Tryz.prog 28 #[.int .i64 rs1] w' fun e w'' => e = .returned (.string ⟨(Lib.itoa rs1).toArray⟩) ∧ w'' = w' from refDigits6_c rs1 hf.rs1.1 hf.rs1.2 w'))
              have HS2 := Lib.hid (show _ = L0 ++ (⟨#[32]⟩ ++ (⟨(Lib.itoa rs1).toArray⟩ : ByteArray)) from HS.out)
              have hts := itoa_small hf.rs1
              clear HS htz
              generalize (⟨(Lib.itoa rs1).toArray⟩ : ByteArray) = tt at *
              go_wp2_with fail
              refine (HDI.out _).mono ?_
              rintro e w5 ⟨rfl, rfl⟩
              go_wp2_with fail
              go_roundw
              case rel => exact ⟨j + 1, by omega, by go_num, by rw [HS2.out, ByteArray.append_assoc], HN.out⟩
              case measure => simp [intOf]; omega
            · have HDI := Lib.hid (fun w' => (show Calls Tryz.prog 28 #[.int .i64 imm] w' fun e w'' => e = .returned (.string ⟨(Lib.itoa imm).toArray⟩) ∧ w'' = w' from refDigits6_c imm hf.imm.1 hf.imm.2 w'))
              have HS2 := Lib.hid (show _ = L0 ++ (⟨#[32]⟩ ++ (⟨(Lib.itoa imm).toArray⟩ : ByteArray)) from HS.out)
              have hts := itoa_small hf.imm
              clear HS htz
              generalize (⟨(Lib.itoa imm).toArray⟩ : ByteArray) = tt at *
              go_wp2_with fail
              refine (HDI.out _).mono ?_
              rintro e w5 ⟨rfl, rfl⟩
              go_wp2_with fail
              go_roundw
              case rel => exact ⟨j + 1, by omega, by go_num, by rw [HS2.out, ByteArray.append_assoc], HN.out⟩
              case measure => simp [intOf]; omega
            · have HDI := Lib.hid (fun w' => (show Calls Tryz.prog 28 #[.int .i64 (imm.tdiv 4096)] w' fun e w'' => e = .returned (.string ⟨(Lib.itoa (imm.tdiv 4096)).toArray⟩) ∧ w'' = w' from refDigits6_c (imm.tdiv 4096) (tdiv_fit hf.imm).1 (tdiv_fit hf.imm).2 w'))
              have HS2 := Lib.hid (show _ = L0 ++ (⟨#[32]⟩ ++ (⟨(Lib.itoa (imm.tdiv 4096)).toArray⟩ : ByteArray)) from HS.out)
              have hts := itoa_small (tdiv_fit hf.imm)
              have hq : wrap64 (imm.tdiv 4096) = imm.tdiv 4096 := by
                have h := tdiv_fit hf.imm
                unfold Fit at h
                unfold wrap64
                omega
              clear HS htz
              generalize (⟨(Lib.itoa (imm.tdiv 4096)).toArray⟩ : ByteArray) = tt at *
              go_wp2_with fail
              refine (HDI.out _).mono ?_
              rintro e w5 ⟨rfl, rfl⟩
              go_wp2_with fail
              go_roundw
              case rel => exact ⟨j + 1, by omega, by go_num, by rw [HS2.out, ByteArray.append_assoc], HN.out⟩
              case measure => simp [intOf]; omega
          · obtain rfl : j = Ks.length := by omega
            go_wp2_with fail
            go_ret2
            exact ⟨by rw [HT.out, List.take_of_length_le (by simp)]; rfl, HBc.out.trans (HN.out.mono HBc.out.size)⟩
end Go.Proofs.YthehcplogkgkeaaGreatDoor
