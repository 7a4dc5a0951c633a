/-
  Contracts of package split (layer 11): run, Pieces.
-/
import Derived.Test.YtldpignnahokdaaSpB
import Derived.Test.YtldpignnahokdaaOwn
import Derived.Test.YtldpignnahokdaaSteady
import Derived.Deep.RegionHeld3
namespace Go.Proofs.Ytldpignnahokdaa
open Go.ChangeShapes Go.WideShapes Go.ChangeAt Go.RowKit Wd

theorem info_pc : (Try.prog.info? 39).map (fun i => (i.zero, i.size, i.bytes)) = some (some (.agg #[.int .u64 0, .int .i64 0, .int .i64 0]), 3, 24) := by kernel_rfl
theorem pc_one (a n s : Int) : (#[Value.int .u64 a, .int .i64 n, .int .i64 s] : Array Value).all (·.oneCell') = true := by simp [Value.oneCell']
set_option maxHeartbeats 1000000 in
theorem run_c (a n f : Int) (w : World) (h0 : 0 ≤ a) (h1 : a < 18446744073709551616) (hn : 1 ≤ n) (hn8 : n ≤ 8) (hf : 0 ≤ f) (hf8 : f ≤ 8) :
    Calls Try.prog 26 #[.int .u64 a, .int .i64 n, .int .i64 f] w fun e w' => ∃ v, e = .returned v ∧ w'.ownsRow w.heap.size 39 3 v (Sp.run a n f).length (Sp.cellsOf (Sp.run a n f)) ∧ Below w.heap.size w w' := by
  have hm0 := Int.emod_nonneg a (show (64 : Int) ≠ 0 by omega)
  have hm1 := Int.emod_lt_of_pos a (show (0 : Int) < 64 by omega)
  by_cases h : 64 - a % 64 < n
  · have HR := Lib.hid (show Sp.run a n f = [⟨a, 64 - a % 64, 8 * f⟩, ⟨(a + (64 - a % 64)) % 18446744073709551616, n - (64 - a % 64), 8 * (f + (64 - a % 64))⟩] by unfold Sp.run; rw [if_pos h])
    go_enter Try.func26, Try.ntmps26
    go_wp2_with fail
    refine (left_c _ _ _ h0 h1 (by omega) (by omega)).mono ?_
    rintro e w1 ⟨rfl, rfl⟩
    generalize hd : 64 - a % 64 = d at *
    have d0 : 1 ≤ d := by omega
    have d8 : d ≤ 8 := by omega
    clear hd hm0 hm1
    have e1 : IntKind.u64.wrap d = d := by rw [IntKind.wrap_u64]; omega
    have e2 : IntKind.u64.wrap (a + d) = (a + d) % 18446744073709551616 := by rw [IntKind.wrap_u64]
    generalize (a + d) % 18446744073709551616 = x at *
    have HO := Lib.hid (own_one w 39 #[.int .u64 a, .int .i64 d, .int .i64 (8 * f)] 3 rfl)
    have HB := Lib.hid ((Below.refl w.heap.size w).alloc (Nat.le_refl _) (.cells #[.int .u64 a, .int .i64 d, .int .i64 (8 * f)] 39))
    have hsz : w.heap.size ≤ (w.alloc (.cells #[.int .u64 a, .int .i64 d, .int .i64 (8 * f)] 39)).heap.size := HB.out.size
    have HZ := Lib.hid hsz
    clear hsz
    go_wp2_with (at_builtin; refine wpList_push rfl _ _ 33 rfl w.heap.size 39 _ 3 24 Try.underlying33 info_pc rfl (by omega) (by omega) _ 1 _ rfl HO.out #[.int .u64 x, .int .i64 (n - d), .int .i64 (8 * (f + d))] rfl (pc_one _ _ _) _ rfl (by simp) (by omega) HZ.out ?_)
    intro v' w' hown hb
    have HV := Lib.hid hown
    have HB' := Lib.hid (HB.out.trans hb)
    clear hown hb
    go_wp2_with fail
    go_ret
    refine ⟨_, rfl, ?_, HB'.out⟩
    rw [HR.out]
    exact HV.out
  · have HR := Lib.hid (show Sp.run a n f = [⟨a, n, 8 * f⟩] by unfold Sp.run; rw [if_neg h])
    go_enter Try.func26, Try.ntmps26
    go_wp2_with fail
    refine (left_c _ _ _ h0 h1 (by omega) (by omega)).mono ?_
    rintro e w1 ⟨rfl, rfl⟩
    generalize hd : 64 - a % 64 = d at *
    go_wp2_with fail
    go_ret
    refine ⟨_, rfl, ?_, (Below.refl w.heap.size w).alloc (Nat.le_refl _) _⟩
    rw [HR.out]
    exact own_one w 39 #[.int .u64 a, .int .i64 n, .int .i64 (8 * f)] 3 rfl
/-- What stands while the pieces are made. -/
def PcS (w : World) (a b c n : Int) (W : World) : Prop :=
  Below w.heap.size w W ∧ W.cell? ⟨w.heap.size, 0, none⟩ = some (.int .u64 a) ∧ W.cell? ⟨w.heap.size, 1, none⟩ = some (.int .u64 b) ∧ W.cell? ⟨w.heap.size, 2, none⟩ = some (.int .i64 c) ∧ W.cell? ⟨w.heap.size, 3, none⟩ = some (.int .i64 n)
theorem PcS.low {w W W' : World} {a b c n : Int} (h : PcS w a b c n W) (hb : Below W.heap.size W W') : PcS w a b c n W' := by
  obtain ⟨h0, h1, h2, h3, h4⟩ := h
  have hl : w.heap.size < W.heap.size := World.block_lt_of_cell? W _ h1
  exact ⟨h0.trans (hb.mono h0.size), (hb.cell (p := ⟨w.heap.size, 0, none⟩) hl).trans h1, (hb.cell (p := ⟨w.heap.size, 1, none⟩) hl).trans h2, (hb.cell (p := ⟨w.heap.size, 2, none⟩) hl).trans h3, (hb.cell (p := ⟨w.heap.size, 3, none⟩) hl).trans h4⟩
theorem PcS.drew {w W : World} {a b c n : Int} (h : PcS w a b c n W) : PcS w a b c n W.drew := h.low ⟨rfl, rfl, rfl, Nat.le_refl _, fun _ _ => rfl⟩
set_option maxHeartbeats 1000000 in
theorem pieces_c (a b c n : Int) (w : World) (ha : 0 ≤ a ∧ a < 18446744073709551616) (hb : 0 ≤ b ∧ b < 18446744073709551616) :
    Calls Try.prog 15 #[.agg (axV a b c n)] w fun e w' => ∃ v, e = .returned v ∧ w'.ownsRow w.heap.size 39 3 v (Sp.pieces a b c n).length (Sp.cellsOf (Sp.pieces a b c n)) ∧ Below w.heap.size w w' := by
  have HB := Lib.hid ((Below.refl w.heap.size w).alloc (Nat.le_refl _) (.cells (axV a b c n) 24))
  have HC := Lib.hid (CsAt.new w 24 (axV a b c n))
  go_enter Try.func15, Try.ntmps15
  go_upto_region 1 with (fail)
  generalize w.alloc (.cells (axV a b c n) 24) = w1 at *
  go_wp2_with (refine wpList_load_row rfl 24 _ rfl w.heap.size rfl 24 _ (0, 0) _ HC.out Try.underlying24 rfl (by kernel_rfl) ?_)
  refine (may_c _ _ _ _ _).mono ?_
  rintro e w2 ⟨rfl, hb2⟩
  have HS2 := Lib.hid (show PcS w a b c n w2 from PcS.low (W := w1) ⟨HB.out, HC.out.cell 0, HC.out.cell 1, HC.out.cell 2, HC.out.cell 3⟩ hb2)
  clear hb2 HC HB
  cases hok : Sp.okA c n
  · have HP := Lib.hid (show Sp.pieces a b c n = [] by unfold Sp.pieces; simp [hok])
    go_wp2_with fail
    go_ret
    refine ⟨_, rfl, ?_, HS2.out.1⟩
    rw [HP.out]
    exact World.ownsRow_nil _ _ _ _
  · obtain ⟨k1, k2, k3, k4⟩ := Sp.okA_iff.1 hok
    obtain ⟨-, c0, c1, c2, c3⟩ := HS2.out
    by_cases hc : c = 0
    · subst hc
      have HP := Lib.hid (show Sp.pieces a b 0 n = Sp.run a n 0 by unfold Sp.pieces; simp [hok])
      clear hok
      go_wp2_with fail
      refine (run_c a n 0 _ ha.1 ha.2 k1 k2 (by omega) (by omega)).mono ?_
      rintro e w3 ⟨v, rfl, hown, hb3⟩
      have HV := Lib.hid (own_mono hown HS2.out.1.size)
      have HB3 := Lib.hid (HS2.out.low hb3).1
      clear hown hb3
      go_wp2_with fail
      go_ret
      refine ⟨_, rfl, ?_, HB3.out⟩
      rw [HP.out]
      exact HV.out
    · have HP := Lib.hid (show Sp.pieces a b c n = Sp.run a c 0 ++ Sp.run b (n - c) c by unfold Sp.pieces; simp [hok, hc])
      have g : (c == 0) = false := by simpa using hc
      have hw : IntKind.i64.wrap (n - c) = n - c := by rw [IntKind.wrap_i64]; omega
      clear hok
      go_upto_region 5 with fail
      refine wp_region_noPanic ?_
      refine wp_region_held (S := PcS w a b c n) (by kernel_rfl) ?_
      have hS0 : PcS w a b c n w2.drew := HS2.out.drew
      clear c0 c1 c2 c3
      refine takeH (fuel := 16) (i := 0) (.pointer (some ⟨w.heap.size, 0, none⟩)) ?_ rfl (by kernel_rfl) (by kernel_rfl) (by kernel_rfl) (fun _ _ _ h => h) (by kernel_rfl) (fun W hS => by obtain ⟨-, c0, c1, c2, c3⟩ := hS; go_simp) hS0 ?_ ?_
      rotate_left 1
      · go_simp
        exact rfl
      refine takeH (fuel := 15) (i := 1) (.int .u64 a) ?_ rfl (by kernel_rfl) (by kernel_rfl) (by kernel_rfl) (fun _ _ _ h => h) (by kernel_rfl) (fun W hS => by obtain ⟨-, c0, c1, c2, c3⟩ := hS; go_simp) hS0 ?_ ?_
      rotate_left 1
      · go_simp
        exact rfl
      refine takeH (fuel := 14) (i := 2) (.pointer (some ⟨w.heap.size, 2, none⟩)) ?_ rfl (by kernel_rfl) (by kernel_rfl) (by kernel_rfl) (fun _ _ _ h => h) (by kernel_rfl) (fun W hS => by obtain ⟨-, c0, c1, c2, c3⟩ := hS; go_simp) hS0 ?_ ?_
      rotate_left 1
      · go_simp
        exact rfl
      refine takeH (fuel := 13) (i := 3) (.int .i64 c) ?_ rfl (by kernel_rfl) (by kernel_rfl) (by kernel_rfl) (fun _ _ _ h => h) (by kernel_rfl) (fun W hS => by obtain ⟨-, c0, c1, c2, c3⟩ := hS; go_simp) hS0 ?_ ?_
      rotate_left 1
      · go_simp
        exact rfl
      refine takeH (fuel := 12) (i := 5) (.pointer (some ⟨w.heap.size, 1, none⟩)) ?_ rfl (by kernel_rfl) (by kernel_rfl) (by kernel_rfl) (fun _ _ _ h => h) (by kernel_rfl) (fun W hS => by obtain ⟨-, c0, c1, c2, c3⟩ := hS; go_simp) hS0 ?_ ?_
      rotate_left 1
      · go_simp
        exact rfl
      refine takeH (fuel := 11) (i := 6) (.int .u64 b) ?_ rfl (by kernel_rfl) (by kernel_rfl) (by kernel_rfl) (fun _ _ _ h => h) (by kernel_rfl) (fun W hS => by obtain ⟨-, c0, c1, c2, c3⟩ := hS; go_simp) hS0 ?_ ?_
      rotate_left 1
      · go_simp
        exact rfl
      refine takeH (fuel := 10) (i := 7) (.pointer (some ⟨w.heap.size, 3, none⟩)) ?_ rfl (by kernel_rfl) (by kernel_rfl) (by kernel_rfl) (fun _ _ _ h => h) (by kernel_rfl) (fun W hS => by obtain ⟨-, c0, c1, c2, c3⟩ := hS; go_simp) hS0 ?_ ?_
      rotate_left 1
      · go_simp
        exact rfl
      refine takeH (fuel := 9) (i := 8) (.int .i64 n) ?_ rfl (by kernel_rfl) (by kernel_rfl) (by kernel_rfl) (fun _ _ _ h => h) (by kernel_rfl) (fun W hS => by obtain ⟨-, c0, c1, c2, c3⟩ := hS; go_simp) hS0 ?_ ?_
      rotate_left 1
      · go_simp
        exact rfl
      refine takeH (fuel := 8) (i := 9) (.pointer (some ⟨w.heap.size, 2, none⟩)) ?_ rfl (by kernel_rfl) (by kernel_rfl) (by kernel_rfl) (fun _ _ _ h => h) (by kernel_rfl) (fun W hS => by obtain ⟨-, c0, c1, c2, c3⟩ := hS; go_simp) hS0 ?_ ?_
      rotate_left 1
      · go_simp
        exact rfl
      refine takeH (fuel := 7) (i := 10) (.int .i64 c) ?_ rfl (by kernel_rfl) (by kernel_rfl) (by kernel_rfl) (fun _ _ _ h => h) (by kernel_rfl) (fun W hS => by obtain ⟨-, c0, c1, c2, c3⟩ := hS; go_simp) hS0 ?_ ?_
      rotate_left 1
      · go_simp
        exact rfl
      refine takeH (fuel := 6) (i := 11) (.int .i64 (n - c)) ?_ rfl (by kernel_rfl) (by kernel_rfl) (by kernel_rfl) (fun _ _ _ h => h) (by kernel_rfl) (fun W hS => by obtain ⟨-, c0, c1, c2, c3⟩ := hS; go_simp) hS0 ?_ ?_
      rotate_left 1
      · go_simp
        exact rfl
      refine takeH (fuel := 5) (i := 12) (.pointer (some ⟨w.heap.size, 2, none⟩)) ?_ rfl (by kernel_rfl) (by kernel_rfl) (by kernel_rfl) (fun _ _ _ h => h) (by kernel_rfl) (fun W hS => by obtain ⟨-, c0, c1, c2, c3⟩ := hS; go_simp) hS0 ?_ ?_
      rotate_left 1
      · go_simp
        exact rfl
      refine takeH (fuel := 4) (i := 13) (.int .i64 c) ?_ rfl (by kernel_rfl) (by kernel_rfl) (by kernel_rfl) (fun _ _ _ h => h) (by kernel_rfl) (fun W hS => by obtain ⟨-, c0, c1, c2, c3⟩ := hS; go_simp) hS0 ?_ ?_
      rotate_left 1
      · go_simp
        exact rfl
      have hlt : w.heap.size < w2.drew.heap.size := World.block_lt_of_cell? _ _ hS0.2.1
      change wpAnyH _ _ _ _ _ _ _ _ w2.drew
      generalize w2.drew = W0 at *
      refine wpAnyH_all (fuel := 3) (rs := [4]) (by kernel_rfl) (by decide) ?_
      intro i hi
      obtain rfl : i = 4 := by simpa using hi
      refine wpOp_callX 26 #[.int .u64 a, .int .i64 c, .int .i64 0] rfl (by kernel_rfl) (by go_simp) ?_
      refine (run_c a c 0 _ ha.1 ha.2 (by omega) (by omega) (by omega) (by omega)).mono ?_
      rintro e w3 ⟨v3, rfl, hown3, hb3⟩
      refine ⟨v3, rfl, hS0.low hb3, ?_⟩
      refine wpAnyH_all (fuel := 2) (rs := [14]) (by kernel_rfl) (by decide) ?_
      intro i hi
      obtain rfl : i = 14 := by simpa using hi
      refine wpOp_callX 26 #[.int .u64 b, .int .i64 (n - c), .int .i64 c] rfl (by kernel_rfl) (by go_simp) ?_
      refine (run_c b (n - c) c _ hb.1 hb.2 (by omega) (by omega) (by omega) (by omega)).mono ?_
      rintro e w4 ⟨v4, rfl, hown4, hb4⟩
      refine ⟨v4, rfl, (hS0.low hb3).low hb4, ?_⟩
      refine wpAnyH_all (fuel := 1) (rs := [15]) (by kernel_rfl) (by decide) ?_
      intro i hi
      obtain rfl : i = 15 := by simpa using hi
      obtain ⟨p4, cap4, rfl, hv4, -, -⟩ := own_form hown4
      have hs0 := hS0.low hb3 |>.low hb4
      have hown3' := own_low hown3 hb4
      have hsz4 := Nat.le_trans hb3.size hb4.size
      refine wpOp_wpX rfl (by kernel_rfl) ?_
      refine wp_cat _ _ 33 rfl W0.heap.size 39 _ 3 24 Try.underlying33 info_pc rfl (by omega) (by omega) v3 _ _ rfl hown3' p4 _ cap4 _ rfl hv4 (own_len hown4) (Sp.cellsOf_oneC _) ?_ hsz4 ?_
      · have := Sp.run_len a c 0
        have := Sp.run_len b (n - c) c
        omega
      intro v5 w5 hown5 hb5
      have hs5 := PcS.low (W := W0) hS0 ((hb3.trans (hb4.mono hb3.size)).trans hb5)
      refine ⟨hs5, ?_⟩
      refine wpAnyH_all (fuel := 0) (rs := [16]) (by kernel_rfl) (by decide) ?_
      intro i hi
      obtain rfl : i = 16 := by simpa using hi
      refine wpOp_valB v5 w5 _ rfl (by kernel_rfl) (by go_simp) rfl ⟨hs5, ?_⟩
      refine wpAnyH_done (by kernel_rfl) ?_ _
      refine NoPanic.normal ?_
      go_wp2_with fail
      refine bodyPost_ret (v := v5) (by simp [results, Try.results15, go_sem]) rfl ⟨_, rfl, ?_, hs5.1⟩
      rw [HP.out, List.length_append, Sp.cellsOf_append]
      exact own_mono hown5 (Nat.le_of_lt hlt)
end Go.Proofs.Ytldpignnahokdaa
