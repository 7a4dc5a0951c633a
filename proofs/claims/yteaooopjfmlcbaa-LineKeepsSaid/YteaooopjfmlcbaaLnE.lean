/-
  Contracts of the reference of layer 9: Put, Of, Blend, Diff.
-/
import Derived.Test.YteaooopjfmlcbaaLnD
namespace Go.Proofs.Yteaooopjfmlcbaa
open Go.ChangeShapes Go.WideShapes Go.ChangeAt Go.RowKit Wd

theorem own_dn {w : World} {B t c n : Nat} {v : Value} {l : List Value} (h : w.ownsRow B t c v n l) (m : Nat) : (w.drewN m).ownsRow B t c v n l := h
theorem results_rput (tmps : Array Value) (w : World) (b : Nat) (ws : List Int) (r : Bool) (h2 : tmps.getD 8 undef = .pointer (some ⟨b, 0, none⟩)) (h3 : tmps.getD 9 undef = .bool r) (hb : RowAt .u8 w b 25 ws) (hs : ws.length = 64) :
    (results Try.f12 tmps).run Try.prog w = .ok (.tuple #[.agg (aV .u8 ws), .bool r]) w := by
  have h2' : tmps[8]?.getD undef = .pointer (some ⟨b, 0, none⟩) := by simpa using h2
  have h3' : tmps[9]?.getD undef = .bool r := by simpa using h3
  have hl := run_loadVar_row w b 25 25 (aV .u8 ws) (0, 0) _ hb Try.underlying25 rfl (iR hs)
  simp [results, Try.results12, h2', h3', asAddr, hl]
theorem byte_ref (v : Int) (k : Nat) : v / 256 ^ k % 256 = Ln.byteOf v k := rfl
theorem byte_again (v : Int) (k : Nat) : v / 256 ^ k % 256 % 256 = Ln.byteOf v k := by
  unfold Ln.byteOf
  generalize v / 256 ^ k = q
  omega
set_option maxHeartbeats 1000000 in
theorem rput_c (ws : List Int) (h : Ln.Is ws) (p n v : Int) (w : World) (hp : -9223372036854775808 ≤ p ∧ p ≤ 9223372036854775807) (hv : 0 ≤ v ∧ v < 18446744073709551616) :
    Calls Try.prog 12 #[.agg (aV .u8 ws), .int .i64 p, .int .i64 n, .int .u64 v] w fun e w' => e = .returned (.tuple #[.agg (aV .u8 (Ln.put ws p n v)), .bool (Ln.fits p n)]) ∧ Below w.heap.size w w' := by
  have HI := Lib.hid h
  have HB := Lib.hid (((Below.refl w.heap.size w).alloc (Nat.le_refl _) (.cells (aV .u8 ws) 25)).alloc (by simp) (.cells (aV .u8 (List.replicate 64 0)) 25))
  have HR := Lib.hid ((RowAt.new .u8 w 25 ws).alloc (.cells (aV .u8 (List.replicate 64 0)) 25))
  have HZ := Lib.hid (show RowAt .u8 ((w.alloc (.cells (aV .u8 ws) 25)).alloc (.cells (aV .u8 (List.replicate 64 0)) 25)) (w.heap.size + 1) 25 (List.replicate 64 0) by
    simpa using RowAt.new .u8 (w.alloc (.cells (aV .u8 ws) 25)) 25 (List.replicate 64 0))
  clear h
  by_cases hf : Ln.fits p n = true
  · have HG := Lib.hid (show Ln.putN ws p.toNat v n.toNat = Ln.put ws p n v by unfold Ln.put; rw [if_pos hf])
    obtain ⟨f1, f2, f3, f4⟩ := Ln.fits_iff.1 hf
    obtain ⟨a, rfl⟩ := Int.eq_ofNat_of_zero_le f3
    obtain ⟨m, rfl⟩ := Int.eq_ofNat_of_zero_le (show 0 ≤ n by omega)
    have hm : m ≤ 8 := by omega
    have ham : a + m ≤ 64 := by omega
    have HV := Lib.hid hv
    have HV0 := Lib.hid (show v = v / 256 ^ 0 by simp)
    clear f1 f2 f3 f4 hv
    go_enter Try.func12, Try.ntmps12
    go_wp2_with fail
    refine (fits_c _ _ _).mono ?_
    rintro e w1 ⟨rfl, rfl⟩
    rw [← zeros64, hf]
    generalize (w.alloc (.cells (aV .u8 ws) 25)).alloc (.cells (aV .u8 (List.replicate 64 0)) 25) = w1 at *
    go_wp2_with fail
    go_loopw [3, 10] (fun y i wr => ∃ k : Nat, k ≤ m ∧ i = .int .i64 k ∧ y = .int .u64 (v / 256 ^ k) ∧ RowAt .u8 wr w.heap.size 25 (Ln.putN ws a v k) ∧ RowAt .u8 wr (w.heap.size + 1) 25 (List.replicate 64 0) ∧ Below w.heap.size w wr) (fun _ i _ => m - (intOf i).toNat)
    case atStart => exact ⟨0, by omega, rfl, congrArg (Value.int .u64) HV0.out, HR.out, HZ.out, HB.out⟩
    case round =>
      obtain ⟨k, hk, rfl, rfl, hr, hz, hb⟩ := hrel
      by_cases hlt : k < m
      · have hc := hr.cell (a + k) (by rw [(Ln.putN_is HI.out a v k).1]; omega)
        have hfz := hr.frozen (a + k)
        have HE := Lib.hid (byte_ref v k)
        have HE2 := Lib.hid (byte_again v k)
        have HD := Lib.hid (Ln.ref_div v k)
        have hd := Ln.div_range' HV.out.1 HV.out.2 k
        have HR' := Lib.hid (hr.set (a + k) (Ln.byteOf v k))
        have HZ' := Lib.hid (hz.far (c := w.heap.size) (i := a + k) (by omega) (.int .u8 (Ln.byteOf v k)))
        have HB' := Lib.hid (hb.setCell (p := ⟨w.heap.size, a + k, none⟩) (Nat.le_refl _) (.int .u8 (Ln.byteOf v k)))
        generalize (Ln.putN ws a v k).getD (a + k) 0 = x at *
        clear hr hz hb
        generalize v / 256 ^ k = q at *
        go_wp2_with fail
        rw [HE.out]
        go_roundw
        case rel => exact ⟨k + 1, by omega, by go_num, by rw [HD.out], HR'.out, HZ'.out, HB'.out⟩
        case measure => simp [intOf]; omega
      · obtain rfl : k = m := by omega
        have HR' := Lib.hid hr
        have HZ' := Lib.hid hz
        have HB' := Lib.hid hb
        have HIP := Lib.hid (Ln.putN_is HI.out a v k).1
        clear hr hz hb
        go_wp2_with (first | (refine wpList_load_row rfl 25 _ rfl w.heap.size rfl 25 _ (0, 0) _ HR'.out Try.underlying25 rfl (iR HIP.out) ?_) | (refine wpList_store_row rfl 25 _ _ rfl (w.heap.size + 1) _ rfl rfl 25 _ HZ'.out (iR HIP.out) (zeros_size HIP.out) (aV_one _ _) ?_))
        refine bodyPost_ret (results_rput _ _ (w.heap.size + 1) _ true rfl rfl (HZ'.out.row _) HIP.out) rfl ⟨lret_lb HG.out hf.symm, below_setRow HB'.out (by omega) _⟩
  · have hf : Ln.fits p n = false := by simpa using hf
    have HG := Lib.hid (show ws = Ln.put ws p n v by unfold Ln.put; rw [if_neg (by simp [hf])])
    go_enter Try.func12, Try.ntmps12
    go_wp2_with fail
    refine (fits_c _ _ _).mono ?_
    rintro e w1 ⟨rfl, rfl⟩
    rw [← zeros64, hf]
    generalize (w.alloc (.cells (aV .u8 ws) 25)).alloc (.cells (aV .u8 (List.replicate 64 0)) 25) = w1 at *
    go_wp2_with (first | (refine wpList_load_row rfl 25 _ rfl w.heap.size rfl 25 _ (0, 0) _ HR.out Try.underlying25 rfl (iR HI.out.1) ?_) | (refine wpList_store_row rfl 25 _ _ rfl (w.heap.size + 1) _ rfl rfl 25 _ HZ.out (iR HI.out.1) (zeros_size HI.out.1) (aV_one _ _) ?_))
    refine bodyPost_ret (results_rput _ _ (w.heap.size + 1) _ false rfl rfl (HZ.out.row _) HI.out.1) rfl ⟨lret_lb HG.out hf.symm, below_setRow HB.out (by omega) _⟩

set_option maxHeartbeats 1000000 in
theorem rof_c (p : Option Addr) (cap : Nat) (bs : List Int) (w : World) (h : SlAt w p bs) :
    Calls Try.prog 7 #[.slice p bs.length cap] w fun e w' => e = .returned (.agg (aV .u8 (Ln.ofB bs))) ∧ Below w.heap.size w w' := by
  have HG := Lib.hid h.rng
  have HL := Lib.hid (Ln.ofB_is h.rng).1
  have hB := ((Below.refl w.heap.size w).alloc (Nat.le_refl _) (.cells (aV .u8 (List.replicate 64 0)) 25)).alloc (by simp) (.cells (aV .u8 (List.replicate 64 0)) 25)
  have HS := Lib.hid h
  have HB := Lib.hid hB
  have HR := Lib.hid ((RowAt.new .u8 w 25 (List.replicate 64 0)).alloc (.cells (aV .u8 (List.replicate 64 0)) 25))
  have HZ := Lib.hid (show RowAt .u8 ((w.alloc (.cells (aV .u8 (List.replicate 64 0)) 25)).alloc (.cells (aV .u8 (List.replicate 64 0)) 25)) (w.heap.size + 1) 25 (List.replicate 64 0) by
    simpa using RowAt.new .u8 (w.alloc (.cells (aV .u8 (List.replicate 64 0)) 25)) 25 (List.replicate 64 0))
  clear h hB
  go_enter Try.func7, Try.ntmps7
  go_upto_region 2 with (fail)
  rw [← zeros64]
  generalize (w.alloc (.cells (aV .u8 (List.replicate 64 0)) 25)).alloc (.cells (aV .u8 (List.replicate 64 0)) 25) = w1 at *
  go_wp2_with fail
  go_loopw [4] (fun i wr => ∃ k : Nat, k ≤ 64 ∧ k ≤ bs.length ∧ i = .int .i64 k ∧ RowAt .u8 wr (w.heap.size + 1) 25 (Ln.ofN bs k) ∧ RowAt .u8 wr w.heap.size 25 (List.replicate 64 0) ∧ Below w.heap.size w wr) (fun i _ => 64 - (intOf i).toNat)
  case atStart => exact ⟨0, by omega, by omega, rfl, HZ.out, HR.out, HB.out⟩
  case round =>
    obtain ⟨k, hk, hk2, rfl, hz, hr, hb⟩ := hrel
    have HT := Lib.hid (And.intro hz (And.intro hr hb))
    clear hz hr hb
    by_cases hlt : k < bs.length
    · have d1 : decide ((k : Int) < (bs.length : Int)) = true := by simpa using hlt
      by_cases hlt2 : k < 64
      · have d2 : decide ((k : Int) < 64) = true := by simp; omega
        rcases HS.out.at_ with h0 | ⟨b, off, rfl, hb0, hc⟩
        · exact absurd hlt (by rw [h0]; simp)
        · have hc1 : wr.cell? ⟨b, off + k, none⟩ = some (.int .u8 (bs.getD k 0)) := (HT.out.2.2.cell (p := ⟨b, off + k, none⟩) hb0).trans (hc k hlt)
          have hc2 := HT.out.1.cell k (by rw [(Ln.ofN_is HG.out k).1]; exact hlt2)
          have hfz := HT.out.1.frozen k
          have HE := Lib.hid (show Ln.ofN bs (k + 1) = (Ln.ofN bs k).set k (bs.getD k 0) from rfl)
          have HZ' := Lib.hid (HT.out.1.set k (bs.getD k 0))
          have HR' := Lib.hid (HT.out.2.1.far (c := w.heap.size + 1) (i := k) (by omega) (.int .u8 (bs.getD k 0)))
          have HB' := Lib.hid (HT.out.2.2.setCell (p := ⟨w.heap.size + 1, k, none⟩) (by simp) (.int .u8 (bs.getD k 0)))
          have hlti : (k : Int) < (bs.length : Int) := by omega
          have hlt3 : (k : Int) < 64 := by omega
          clear hc HT
          generalize (Ln.ofN bs k).getD k 0 = z at *
          generalize bs.getD k 0 = y at *
          go_wp2_with fail
          go_roundw
          case rel => exact ⟨k + 1, by omega, by omega, by go_num, by rw [HE.out]; exact HZ'.out, HR'.out, HB'.out⟩
          case measure => simp [intOf]; omega
      · have d2 : decide ((k : Int) < 64) = false := by simp; omega
        have HE := Lib.hid (Ln.ofN_ofB HG.out k (by omega))
        have HZ' := Lib.hid (HE.out ▸ HT.out.1)
        have HR' := Lib.hid HT.out.2.1
        have HB' := Lib.hid HT.out.2.2
        clear HT
        go_wp2_with (first | (refine wpList_load_row rfl 25 _ rfl (w.heap.size + 1) rfl 25 _ (0, 0) _ HZ'.out Try.underlying25 rfl (iR HL.out) ?_) | (refine wpList_store_row rfl 25 _ _ rfl w.heap.size _ rfl rfl 25 _ HR'.out (iR HL.out) (zeros_size HL.out) (aV_one _ _) ?_))
        exact bodyPost_ret (results_cell_row Try.results7 _ _ _ _ _ _ _ rfl (HR'.out.row _) Try.underlying25 rfl (iR HL.out)) rfl ⟨rfl, below_setRow HB'.out (by omega) _⟩
    · have d1 : decide ((k : Int) < (bs.length : Int)) = false := by simpa using hlt
      have HE := Lib.hid (Ln.ofN_ofB HG.out k (by omega))
      have HZ' := Lib.hid (HE.out ▸ HT.out.1)
      have HR' := Lib.hid HT.out.2.1
      have HB' := Lib.hid HT.out.2.2
      clear HT
      go_wp2_with (first | (refine wpList_load_row rfl 25 _ rfl (w.heap.size + 1) rfl 25 _ (0, 0) _ HZ'.out Try.underlying25 rfl (iR HL.out) ?_) | (refine wpList_store_row rfl 25 _ _ rfl w.heap.size _ rfl rfl 25 _ HR'.out (iR HL.out) (zeros_size HL.out) (aV_one _ _) ?_))
      exact bodyPost_ret (results_cell_row Try.results7 _ _ _ _ _ _ _ rfl (HR'.out.row _) Try.underlying25 rfl (iR HL.out)) rfl ⟨rfl, below_setRow HB'.out (by omega) _⟩
theorem bi_one (b : Bool) : (bi b == 1) = b := by cases b <;> rfl
set_option maxHeartbeats 1000000 in
theorem rblend_c (ws os : List Int) (h : Ln.Is ws) (h' : Ln.Is os) (x : Int) (w : World) (hx : 0 ≤ x ∧ x < 18446744073709551616) :
    Calls Try.prog 15 #[.agg (aV .u8 ws), .agg (aV .u8 os), .int .u64 x] w fun e w' => e = .returned (.agg (aV .u8 (Ln.blend ws os x 64))) ∧ Below w.heap.size w w' := by
  have HI := Lib.hid h
  have HJ := Lib.hid h'
  have HX := Lib.hid hx
  have HL := Lib.hid (Ln.blend_is h h' x 64).1
  clear h h' hx
  go_enter Try.func15, Try.ntmps15
  go_upto_region 1 with (fail)
  have hB := (((Below.refl w.heap.size w).alloc (Nat.le_refl _) (.cells (aV .u8 ws) 25)).alloc (by simp) (.cells (aV .u8 os) 25)).alloc (by simp; omega) (.cells (aV .u8 (List.replicate 64 0)) 25)
  have hR := (RowAt.new .u8 w 25 ws).alloc (.cells (aV .u8 os) 25) |>.alloc (.cells (aV .u8 (List.replicate 64 0)) 25)
  have hO := (RowAt.new .u8 (w.alloc (.cells (aV .u8 ws) 25)) 25 os).alloc (.cells (aV .u8 (List.replicate 64 0)) 25)
  have hZ := RowAt.new .u8 ((w.alloc (.cells (aV .u8 ws) 25)).alloc (.cells (aV .u8 os) 25)) 25 (List.replicate 64 0)
  rw [show (w.alloc (.cells (aV .u8 ws) 25)).heap.size = w.heap.size + 1 by simp] at hO
  rw [show ((w.alloc (.cells (aV .u8 ws) 25)).alloc (.cells (aV .u8 os) 25)).heap.size = w.heap.size + 2 by simp] at hZ
  rw [← zeros64]
  generalize ((w.alloc (.cells (aV .u8 ws) 25)).alloc (.cells (aV .u8 os) 25)).alloc (.cells (aV .u8 (List.replicate 64 0)) 25) = w1 at *
  have HB := Lib.hid hB
  have HR := Lib.hid hR
  have HO := Lib.hid hO
  have HZ := Lib.hid hZ
  clear hB hR hO hZ
  go_wp2_with fail
  go_loopw [7] (fun i wr => ∃ k : Nat, k ≤ 64 ∧ i = .int .i64 k ∧ RowAt .u8 wr w.heap.size 25 (Ln.blend ws os x k) ∧ RowAt .u8 wr (w.heap.size + 1) 25 os ∧ RowAt .u8 wr (w.heap.size + 2) 25 (List.replicate 64 0) ∧ Below w.heap.size w wr) (fun i _ => 64 - (intOf i).toNat)
  case atStart => exact ⟨0, by omega, rfl, HR.out, HO.out, HZ.out, HB.out⟩
  case round =>
    obtain ⟨k, hk, rfl, hr, ho, hz, hb⟩ := hrel
    by_cases hlt : k < 64
    · have hlt2 : (k : Int) < 64 := by omega
      have hc := ho.cell k (by rw [HJ.out.1]; omega)
      have hc2 := hr.cell k (by rw [(Ln.blend_is HI.out HJ.out x k).1]; omega)
      have hfz := hr.frozen k
      have hcy := bi_one (tb x k)
      have HT := Lib.hid (tbI_nat x k hlt)
      have HE := Lib.hid (show Ln.blend ws os x (k + 1) = if tb x k then (Ln.blend ws os x k).set k (os.getD k 0) else Ln.blend ws os x k from rfl)
      have HR' := Lib.hid (hr.set k (os.getD k 0))
      have HO' := Lib.hid (ho.far (c := w.heap.size) (i := k) (by omega) (.int .u8 (os.getD k 0)))
      have HZ' := Lib.hid (hz.far (c := w.heap.size) (i := k) (by omega) (.int .u8 (os.getD k 0)))
      have HB' := Lib.hid (hb.setCell (p := ⟨w.heap.size, k, none⟩) (Nat.le_refl _) (.int .u8 (os.getD k 0)))
      have HS := Lib.hid (And.intro hr (And.intro ho (And.intro hz hb)))
      clear hr ho hz hb
      generalize os.getD k 0 = y at *
      generalize (Ln.blend ws os x k).getD k 0 = z at *
      cases hbt : tb x k
      · rw [hbt] at hcy
        have HE' := Lib.hid (show Ln.blend ws os x (k + 1) = Ln.blend ws os x k by rw [HE.out, hbt]; rfl)
        have HT' := Lib.hid (HT.out.trans hbt)
        clear hbt HE HR' HO' HZ' HB' hc hc2 hfz HT
        go_wp2_with fail
        refine (bit_c _ _ _ HX.out.1 HX.out.2).mono ?_
        rintro e w' ⟨rfl, rfl⟩
        rw [HT'.out]
        go_wp2_with fail
        go_roundw
        case rel => exact ⟨k + 1, by omega, by go_num, by rw [HE'.out]; exact HS.out.1, HS.out.2.1, HS.out.2.2.1, HS.out.2.2.2⟩
        case measure => simp [intOf]; omega
      · rw [hbt] at hcy
        have HE' := Lib.hid (show Ln.blend ws os x (k + 1) = (Ln.blend ws os x k).set k y by rw [HE.out, hbt]; rfl)
        have HT' := Lib.hid (HT.out.trans hbt)
        clear hbt HE HT
        go_wp2_with fail
        refine (bit_c _ _ _ HX.out.1 HX.out.2).mono ?_
        rintro e w' ⟨rfl, rfl⟩
        rw [HT'.out]
        go_wp2_with fail
        go_roundw
        case rel => exact ⟨k + 1, by omega, by go_num, by rw [HE'.out]; exact HR'.out, HO'.out, HZ'.out, HB'.out⟩
        case measure => simp [intOf]; omega
    · obtain rfl : k = 64 := by omega
      have HR' := Lib.hid hr
      have HZ' := Lib.hid hz
      have HB' := Lib.hid hb
      clear hr ho hz hb
      go_wp2_with (first | (refine wpList_load_row rfl 25 _ rfl w.heap.size rfl 25 _ (0, 0) _ HR'.out Try.underlying25 rfl (iR HL.out) ?_) | (refine wpList_store_row rfl 25 _ _ rfl (w.heap.size + 2) _ rfl rfl 25 _ HZ'.out (iR HL.out) (zeros_size HL.out) (aV_one _ _) ?_))
      exact bodyPost_ret (results_cell_row Try.results15 _ _ _ _ _ _ _ rfl (HZ'.out.row _) Try.underlying25 rfl (iR HL.out)) rfl ⟨rfl, below_setRow HB'.out (by omega) _⟩

set_option maxHeartbeats 1600000 in
theorem rdiff_c (ws os : List Int) (h : Ln.Is ws) (h' : Ln.Is os) (w : World) :
    Calls Try.prog 17 #[.agg (aV .u8 ws), .agg (aV .u8 os)] w fun e w' => e = .returned (.int .u64 (Ln.diff ws os)) ∧ Below w.heap.size w w' := by
  obtain ⟨i0, hi, hz0, hz1, hz2⟩ := info_parts info_u64
  have HI := Lib.hid h
  have HJ := Lib.hid h'
  have HF := Lib.hid (show ((sumTo (Ln.un ws os) 64 : Nat) : Int) = Ln.diff ws os from rfl)
  clear h h'
  go_enter Try.func17, Try.ntmps17
  go_upto_region 1 with (fail)
  have hB := (((Below.refl w.heap.size w).alloc (Nat.le_refl _) (.cells (aV .u8 ws) 25)).alloc (by simp) (.cells (aV .u8 os) 25))
  have hR := (RowAt.new .u8 w 25 ws).alloc (.cells (aV .u8 os) 25)
  have hO := (RowAt.new .u8 (w.alloc (.cells (aV .u8 ws) 25)) 25 os)
  rw [show (w.alloc (.cells (aV .u8 ws) 25)).heap.size = w.heap.size + 1 by simp] at hO
  generalize ((w.alloc (.cells (aV .u8 ws) 25)).alloc (.cells (aV .u8 os) 25)) = w1 at *
  have HB := Lib.hid hB
  have HR := Lib.hid hR
  have HO := Lib.hid hO
  clear hB hR hO
  go_wp2_with fail
  go_loopw [5, 6] (fun v i wr => ∃ k : Nat, k ≤ 64 ∧ i = .int .i64 k ∧ wr.ownsRow w1.heap.size 24 1 v k (bl (Ln.un ws os) k) ∧ Below w1.heap.size w1 wr) (fun _ i _ => 64 - (intOf i).toNat)
  case atStart => exact ⟨0, by omega, rfl, World.ownsRow_nil _ _ _ _, Below.refl _ _⟩
  case round =>
    obtain ⟨k, hk, rfl, hown, hnx⟩ := hrel
    have hsz := hnx.size
    have HW := Lib.hid hown
    have HX := Lib.hid hnx
    have hr := HR.out.low hnx
    have ho := HO.out.low hnx
    clear hown hnx
    by_cases hlt : k < 64
    · have hlt2 : (k : Int) < 64 := by omega
      have hc := ho.cell k (by rw [HJ.out.1]; omega)
      have hc2 := hr.cell k (by rw [HI.out.1]; omega)
      have HU := Lib.hid (show Ln.un ws os k = (ws.getD k 0 != os.getD k 0) from rfl)
      clear hr ho
      generalize os.getD k 0 = y at *
      generalize ws.getD k 0 = z at *
      by_cases hu : z = y
      · have HI2 := Lib.hid (show Ln.un ws os k = false by rw [HU.out]; simpa using hu)
        have g : (z == y) = true := by simpa using hu
        clear hu HU
        go_wp2_with fail
        go_quiet (fail)
        have HW' := Lib.hid (own_dn HW.out nq)
        have HX' := Lib.hid (below_dnL HX.out nq)
        have hsz' : w1.heap.size ≤ (wr.drewN nq).heap.size := hsz
        clear HW HX hc hc2 hsz
        generalize wr.drewN nq = wq at *
        go_wp2_with (at_builtin; refine wpList_append_own _ rfl _ _ 52 rfl w1.heap.size 24 i0 (.int .u64 0) 1 8 Try.underlying52 hi hz0 hz1 hz2 rfl (by decide) _ _ _ rfl (HW'.out.alloc _) ⟨wq.heap.size, 0, none⟩ 1 1 [.int .u64 0] rfl rfl news_one (one_cell' _) (by unfold maxLen; omega) (by omega) (by simp; omega) ?_; intro v' w3 hown' hgrow _)
        have R := rel_app (b := false) hsz' HI2.out.symm HW'.out hown' hgrow HX'.out
        go_roundw
        case rel => exact ⟨k + 1, by omega, by go_num, R.1, R.2⟩
        case measure => simp [intOf]; omega
      · have HI2 := Lib.hid (show Ln.un ws os k = true by rw [HU.out]; simpa using hu)
        have g : (z == y) = false := by simpa using hu
        clear hu HU
        go_wp2_with fail
        go_quiet (fail)
        have HW' := Lib.hid (own_dn HW.out nq)
        have HX' := Lib.hid (below_dnL HX.out nq)
        have hsz' : w1.heap.size ≤ (wr.drewN nq).heap.size := hsz
        clear HW HX hc hc2 hsz
        generalize wr.drewN nq = wq at *
        go_wp2_with (at_builtin; refine wpList_append_own _ rfl _ _ 52 rfl w1.heap.size 24 i0 (.int .u64 0) 1 8 Try.underlying52 hi hz0 hz1 hz2 rfl (by decide) _ _ _ rfl (HW'.out.alloc _) ⟨wq.heap.size, 0, none⟩ 1 1 [.int .u64 1] rfl rfl news_one (one_cell' _) (by unfold maxLen; omega) (by omega) (by simp; omega) ?_; intro v' w3 hown' hgrow _)
        have R := rel_app (b := true) hsz' HI2.out.symm HW'.out hown' hgrow HX'.out
        go_roundw
        case rel => exact ⟨k + 1, by omega, by go_num, R.1, R.2⟩
        case measure => simp [intOf]; omega
    · obtain rfl : k = 64 := by omega
      go_wp2_with (go_at_call 25; refine (of_c (Ln.un ws os) 64 _ w1.heap.size _ (by omega) (by omega) HW.out).mono ?_; rintro e w' ⟨rfl, rfl⟩)
      go_ret
      exact ⟨lret_u HF.out, HB.out.trans (HX.out.mono HB.out.size)⟩
end Go.Proofs.Yteaooopjfmlcbaa
