/-
  Contracts of package line (layer 9): exists, Get, Put.
-/
import Derived.Test.YtdlollkieihjpaaLnA
import Derived.Test.YtdlollkieihjpaaRow
import Derived.Laws.ResultCell
import Derived.ProofKit
import Derived.OpenShut
namespace Go.Proofs.Ytdlollkieihjpaa
open Go.ChangeShapes Go.WideShapes Go.ChangeAt Go.RowKit Wd

/-- A whole array loaded by an operation whose guard says yes. -/
theorem wpList_load_rowW {P : Program} {ops : Array Oper} {rest : List Oper} {o : Oper} {a : Act} {w : World} {Q : Exit → Act → World → Prop} (hw : Region.wanted o (yielded ops a.tmps) = true) (ty : TypeId) (x : Operand) (ho : o.op = .load ty x)
    (g : Nat) (hx : a.eval x = .pointer (some ⟨g, 0, none⟩)) (t : TypeId) (cs : Array Value) (fr : Nat × Nat) (d : TypeDesc) (hg : w.heap[g]? = some (.cells cs t fr))
    (hu : P.underlying ty = some d) (hd : (match d with | .struct _ | .array _ _ => true | _ => false) = true) (hi : (P.info? ty).map (·.size) = some cs.size)
    (h : wpList P ops Q rest (a.put o.dst (.agg cs)) w) : wpList P ops Q (o :: rest) a w :=
  wpList_step fun _ hK => by
    rw [if_pos hw]
    exact wp_load_row ty x ho g hx t cs fr d hg hu hd hi (hK _ _ h)
theorem lret_b {a b : Bool} (h : a = b) : Ending.returned (.bool a) = .returned (.bool b) := by rw [h]
theorem lret_u {k : IntKind} {a b : Int} (h : a = b) : Ending.returned (.int k a) = .returned (.int k b) := by rw [h]
theorem lret_nb {k : IntKind} {a b : Int} {x y : Bool} (h : a = b) (h' : x = y) : Ending.returned (.tuple #[.int k a, .bool x]) = .returned (.tuple #[.int k b, .bool y]) := by rw [h, h']
theorem info_line : (Try.prog.info? 49).map (·.size) = some 64 := by kernel_rfl
theorem info_arr : (Try.prog.info? 48).map (·.size) = some 64 := by kernel_rfl
theorem iL {ws : List Int} (h : ws.length = 64) : (Try.prog.info? 49).map (·.size) = some (aV .u8 ws).size := by rw [aV_size, h]; exact info_line
theorem iR {ws : List Int} (h : ws.length = 64) : (Try.prog.info? 48).map (·.size) = some (aV .u8 ws).size := by rw [aV_size, h]; exact info_arr
theorem exists_c (p n : Int) (w : World) (hp : -9223372036854775808 ≤ p ∧ p ≤ 9223372036854775807) : Calls Try.prog 40 #[.int .i64 p, .int .i64 n] w fun e w' => e = .returned (.bool (Ln.fits p n)) ∧ w = w' := by
  by_cases h1 : 1 ≤ n
  · by_cases h2 : n ≤ 8
    · by_cases h3 : 0 ≤ p
      · have e : Ln.fits p n = decide (p ≤ 64 - n) := by unfold Ln.fits; exact decide_eq_decide.2 (by omega)
        have H := Lib.hid e
        have g1 : decide (1 ≤ n) = true := by simpa using h1
        have g2 : decide (n ≤ 8) = true := by simpa using h2
        have g3 : decide (0 ≤ p) = true := by simpa using h3
        clear e
        go_enter Try.func40, Try.ntmps40
        go_wp2_with fail
        go_ret
        exact ⟨lret_b H.out.symm, rfl⟩
      · have H := Lib.hid (show Ln.fits p n = false by unfold Ln.fits; simp; omega)
        have g1 : decide (1 ≤ n) = true := by simpa using h1
        have g2 : decide (n ≤ 8) = true := by simpa using h2
        have g3 : decide (0 ≤ p) = false := by simpa using h3
        go_enter Try.func40, Try.ntmps40
        go_wp2_with fail
        go_ret
        exact ⟨lret_b H.out.symm, rfl⟩
    · have H := Lib.hid (show Ln.fits p n = false by unfold Ln.fits; simp; omega)
      have g1 : decide (1 ≤ n) = true := by simpa using h1
      have g2 : decide (n ≤ 8) = false := by simpa using h2
      go_enter Try.func40, Try.ntmps40
      go_wp2_with fail
      go_ret
      exact ⟨lret_b H.out.symm, rfl⟩
  · have H := Lib.hid (show Ln.fits p n = false by unfold Ln.fits; simp; omega)
    have g1 : decide (1 ≤ n) = false := by simpa using h1
    go_enter Try.func40, Try.ntmps40
    go_wp2_with fail
    go_ret
    exact ⟨lret_b H.out.symm, rfl⟩

set_option maxHeartbeats 1000000 in
theorem get_c (ws : List Int) (h : Ln.Is ws) (p n : Int) (w : World) (hp : -9223372036854775808 ≤ p ∧ p ≤ 9223372036854775807) :
    Calls Try.prog 35 #[.agg (aV .u8 ws), .int .i64 p, .int .i64 n] w fun e w' => e = .returned (.tuple #[.int .u64 (Ln.get ws p n), .bool (Ln.fits p n)]) ∧ Below w.heap.size w w' := by
  have HI := Lib.hid h
  have HB := Lib.hid ((Below.refl w.heap.size w).alloc (Nat.le_refl _) (.cells (aV .u8 ws) 49))
  have HR := Lib.hid (RowAt.new .u8 w 49 ws)
  clear h
  by_cases hf : Ln.fits p n = true
  · have HG := Lib.hid (show Ln.get ws p n = Ln.num ws p.toNat n.toNat by unfold Ln.get; rw [if_pos hf])
    obtain ⟨f1, f2, f3, f4⟩ := Ln.fits_iff.1 hf
    obtain ⟨a, rfl⟩ := Int.eq_ofNat_of_zero_le f3
    obtain ⟨m, rfl⟩ := Int.eq_ofNat_of_zero_le (show 0 ≤ n by omega)
    have hm : m ≤ 8 := by omega
    have ham : a + m ≤ 64 := by omega
    clear f1 f2 f3 f4
    go_enter Try.func35, Try.ntmps35
    go_wp2_with fail
    refine (exists_c _ _ _ hp).mono ?_
    rintro e w1 ⟨rfl, rfl⟩
    generalize w.alloc (.cells (aV .u8 ws) 49) = w1 at *
    go_wp2_with fail
    go_loop [8, 15] (fun v i => ∃ k : Nat, k ≤ m ∧ i = .int .i64 k ∧ v = .int .u64 (Ln.num ws a k)) (fun _ i => m - (intOf i).toNat)
    case atStart => exact ⟨0, by omega, rfl, rfl⟩
    case round =>
      obtain ⟨k, hk, rfl, rfl⟩ := hrel
      by_cases hlt : k < m
      · have hc := HR.out.cell (a + k) (by rw [HI.out.1]; omega)
        have HE := Lib.hid (Ln.get_round HI.out a k (by omega))
        have hb := HI.out.byte (a + k)
        have hn := Ln.num_range HI.out a k
        generalize ws.getD (a + k) 0 = x at *
        go_wp2_with fail
        go_round
        case rel => exact ⟨k + 1, by omega, by go_num, by rw [← HE.out]⟩
        case measure => simp [intOf]; omega
      · obtain rfl : k = m := by omega
        go_wp2_with fail
        go_ret2
        exact ⟨lret_nb HG.out.symm rfl, HB.out⟩
  · have hf : Ln.fits p n = false := by simpa using hf
    have HG := Lib.hid (show Ln.get ws p n = 0 by unfold Ln.get; rw [if_neg (by simp [hf])])
    go_enter Try.func35, Try.ntmps35
    go_wp2_with fail
    refine (exists_c _ _ _ hp).mono ?_
    rintro e w1 ⟨rfl, rfl⟩
    rw [hf]
    go_wp2_with fail
    go_ret2
    exact ⟨lret_nb HG.out.symm hf.symm, HB.out⟩

theorem zeros64 : aV .u8 (List.replicate 64 0) = #[.int .u8 0, .int .u8 0, .int .u8 0, .int .u8 0, .int .u8 0, .int .u8 0, .int .u8 0, .int .u8 0, .int .u8 0, .int .u8 0, .int .u8 0, .int .u8 0, .int .u8 0, .int .u8 0, .int .u8 0, .int .u8 0, .int .u8 0, .int .u8 0, .int .u8 0, .int .u8 0, .int .u8 0, .int .u8 0, .int .u8 0, .int .u8 0, .int .u8 0, .int .u8 0, .int .u8 0, .int .u8 0, .int .u8 0, .int .u8 0, .int .u8 0, .int .u8 0, .int .u8 0, .int .u8 0, .int .u8 0, .int .u8 0, .int .u8 0, .int .u8 0, .int .u8 0, .int .u8 0, .int .u8 0, .int .u8 0, .int .u8 0, .int .u8 0, .int .u8 0, .int .u8 0, .int .u8 0, .int .u8 0, .int .u8 0, .int .u8 0, .int .u8 0, .int .u8 0, .int .u8 0, .int .u8 0, .int .u8 0, .int .u8 0, .int .u8 0, .int .u8 0, .int .u8 0, .int .u8 0, .int .u8 0, .int .u8 0, .int .u8 0, .int .u8 0] := rfl
theorem zeros_size {ws : List Int} (h : ws.length = 64) : (aV .u8 (List.replicate 64 0)).size = (aV .u8 ws).size := by rw [aV_size, aV_size, h]; rfl
theorem results_put (tmps : Array Value) (w : World) (b : Nat) (ws : List Int) (r : Bool) (h2 : tmps.getD 8 undef = .pointer (some ⟨b, 0, none⟩)) (h3 : tmps.getD 9 undef = .bool r) (hb : RowAt .u8 w b 49 ws) (hs : ws.length = 64) :
    (results Try.f41 tmps).run Try.prog w = .ok (.tuple #[.agg (aV .u8 ws), .bool r]) w := by
  have h2' : tmps[8]?.getD undef = .pointer (some ⟨b, 0, none⟩) := by simpa using h2
  have h3' : tmps[9]?.getD undef = .bool r := by simpa using h3
  have hl := run_loadVar_row w b 49 49 (aV .u8 ws) (0, 0) _ hb Try.underlying49 rfl (iL hs)
  simp [results, Try.results41, h2', h3', asAddr, hl]
theorem lret_lb {ws os : List Int} {x y : Bool} (h : ws = os) (h' : x = y) : Ending.returned (.tuple #[.agg (aV .u8 ws), .bool x]) = .returned (.tuple #[.agg (aV .u8 os), .bool y]) := by rw [h, h']
set_option maxHeartbeats 1000000 in
theorem lput_c (ws : List Int) (h : Ln.Is ws) (p n v : Int) (w : World) (hp : -9223372036854775808 ≤ p ∧ p ≤ 9223372036854775807) (hv : 0 ≤ v ∧ v < 18446744073709551616) :
    Calls Try.prog 41 #[.agg (aV .u8 ws), .int .i64 p, .int .i64 n, .int .u64 v] w fun e w' => e = .returned (.tuple #[.agg (aV .u8 (Ln.put ws p n v)), .bool (Ln.fits p n)]) ∧ Below w.heap.size w w' := by
  have HI := Lib.hid h
  have HB := Lib.hid (((Below.refl w.heap.size w).alloc (Nat.le_refl _) (.cells (aV .u8 ws) 49)).alloc (by simp) (.cells (aV .u8 (List.replicate 64 0)) 49))
  have HR := Lib.hid ((RowAt.new .u8 w 49 ws).alloc (.cells (aV .u8 (List.replicate 64 0)) 49))
  have HZ := Lib.hid (show RowAt .u8 ((w.alloc (.cells (aV .u8 ws) 49)).alloc (.cells (aV .u8 (List.replicate 64 0)) 49)) (w.heap.size + 1) 49 (List.replicate 64 0) by
    simpa using RowAt.new .u8 (w.alloc (.cells (aV .u8 ws) 49)) 49 (List.replicate 64 0))
  clear h
  by_cases hf : Ln.fits p n = true
  · have HG := Lib.hid (show Ln.putN ws p.toNat v n.toNat = Ln.put ws p n v by unfold Ln.put; rw [if_pos hf])
    obtain ⟨f1, f2, f3, f4⟩ := Ln.fits_iff.1 hf
    obtain ⟨a, rfl⟩ := Int.eq_ofNat_of_zero_le f3
    obtain ⟨m, rfl⟩ := Int.eq_ofNat_of_zero_le (show 0 ≤ n by omega)
    have hm : m ≤ 8 := by omega
    have ham : a + m ≤ 64 := by omega
    have HV := Lib.hid hv
    clear f1 f2 f3 f4 hv
    go_enter Try.func41, Try.ntmps41
    go_wp2_with fail
    refine (exists_c _ _ _ hp).mono ?_
    rintro e w1 ⟨rfl, rfl⟩
    rw [← zeros64, hf]
    generalize (w.alloc (.cells (aV .u8 ws) 49)).alloc (.cells (aV .u8 (List.replicate 64 0)) 49) = w1 at *
    go_wp2_with fail
    go_loopw [17] (fun i wr => ∃ k : Nat, k ≤ m ∧ i = .int .i64 k ∧ RowAt .u8 wr w.heap.size 49 (Ln.putN ws a v k) ∧ RowAt .u8 wr (w.heap.size + 1) 49 (List.replicate 64 0) ∧ Below w.heap.size w wr) (fun i _ => m - (intOf i).toNat)
    case atStart => exact ⟨0, by omega, rfl, HR.out, HZ.out, HB.out⟩
    case round =>
      obtain ⟨k, hk, rfl, hr, hz, hb⟩ := hrel
      by_cases hlt : k < m
      · have hc := hr.cell (a + k) (by rw [(Ln.putN_is HI.out a v k).1]; omega)
        have hfz := hr.frozen (a + k)
        have HE := Lib.hid (Ln.byte_code v k)
        have HR' := Lib.hid (hr.set (a + k) (Ln.byteOf v k))
        have HZ' := Lib.hid (hz.far (c := w.heap.size) (i := a + k) (by omega) (.int .u8 (Ln.byteOf v k)))
        have HB' := Lib.hid (hb.setCell (p := ⟨w.heap.size, a + k, none⟩) (Nat.le_refl _) (.int .u8 (Ln.byteOf v k)))
        generalize (Ln.putN ws a v k).getD (a + k) 0 = x at *
        clear hr hz hb
        go_wp2_with fail
        go_roundw
        case rel => exact ⟨k + 1, by omega, by go_num, by rw [HE.out]; exact HR'.out, by rw [HE.out]; exact HZ'.out, by rw [HE.out]; exact HB'.out⟩
        case measure => simp [intOf]; omega
      · obtain rfl : k = m := by omega
        have HR' := Lib.hid hr
        have HZ' := Lib.hid hz
        have HB' := Lib.hid hb
        have HIP := Lib.hid (Ln.putN_is HI.out a v k).1
        clear hr hz hb
        go_wp2_with (first | (refine wpList_load_row rfl 49 _ rfl w.heap.size rfl 49 _ (0, 0) _ HR'.out Try.underlying49 rfl (iL HIP.out) ?_) | (refine wpList_store_row rfl 49 _ _ rfl (w.heap.size + 1) _ rfl rfl 49 _ HZ'.out (iL HIP.out) (zeros_size HIP.out) (aV_one _ _) ?_))
        refine bodyPost_ret (results_put _ _ (w.heap.size + 1) _ true rfl rfl (HZ'.out.row _) HIP.out) rfl ⟨lret_lb HG.out hf.symm, below_setRow HB'.out (by omega) _⟩
  · have hf : Ln.fits p n = false := by simpa using hf
    have HG := Lib.hid (show ws = Ln.put ws p n v by unfold Ln.put; rw [if_neg (by simp [hf])])
    go_enter Try.func41, Try.ntmps41
    go_wp2_with fail
    refine (exists_c _ _ _ hp).mono ?_
    rintro e w1 ⟨rfl, rfl⟩
    rw [← zeros64, hf]
    generalize (w.alloc (.cells (aV .u8 ws) 49)).alloc (.cells (aV .u8 (List.replicate 64 0)) 49) = w1 at *
    go_wp2_with (first | (refine wpList_load_row rfl 49 _ rfl w.heap.size rfl 49 _ (0, 0) _ HR.out Try.underlying49 rfl (iL HI.out.1) ?_) | (refine wpList_store_row rfl 49 _ _ rfl (w.heap.size + 1) _ rfl rfl 49 _ HZ.out (iL HI.out.1) (zeros_size HI.out.1) (aV_one _ _) ?_))
    refine bodyPost_ret (results_put _ _ (w.heap.size + 1) _ false rfl rfl (HZ.out.row _) HI.out.1) rfl ⟨lret_lb HG.out hf.symm, below_setRow HB.out (by omega) _⟩
end Go.Proofs.Ytdlollkieihjpaa
