/-
  The statement AmoLaws (P8.2): for every number op and all words m, x0, x1, roebucklaw08.AmoLaws returns true and its arguments read afterwards as before. No condition.
-/
import Derived.Test.YtgfdielipbcfeaaLive8
import Derived.Test.YtgfdielipbcfeaaAmoG
import Derived.StillTailTactics
namespace Go.Proofs.Ytgfdielipbcfeaa
open Go.ChangeShapes Go.WideShapes Go.ChangeAt Go.RowKit Wd

theorem turn8 {P : Program} {f : FuncId} {args : Array Value} {w : World} {v : Value} (h : Calls P f args w fun e w' => e = .returned v ∧ w = w') : Calls P f args w fun e w' => e = .returned v ∧ w' = w :=
  h.mono fun _ _ ⟨a, b⟩ => ⟨a, b.symm⟩
/-- What an AMO does, as a function of words. -/
structure AmoFn (op : Int) (g : Int → Int → Int) : Prop where
  does : ∀ m x, WordB m → WordB x → AmoIs op m x (g m x) true
  word : ∀ m x, WordB m → WordB x → WordB (g m x)
  swap : op = 69 ∨ op = 80 → ∀ m m' x, WordB m → WordB m' → WordB x → g m x = g m' x
  either : ¬ (op = 69 ∨ op = 80) → Either g
  once : ¬ (op = 70 ∨ op = 81 ∨ op = 71 ∨ op = 82) → Once g
theorem narrow_swap (m m' x : Int) : narrow (amoG 0) m x = narrow (amoG 0) m' x := by
  unfold narrow
  rw [amoG_0, amoG_0]
theorem narrow_once0 : Once (narrow (amoG 0)) := fun _ _ _ _ => narrow_swap _ _ _
theorem amo_fn (op : Int) (h : isB op = true) : ∃ g, AmoFn op g := by
  have hk : kindN op = 1 := by rw [isB_one] at h; simpa using h
  have hr : 67 ≤ op ∧ op ≤ 88 ∧ op ≠ 67 ∧ op ≠ 78 ∧ op ≠ 68 ∧ op ≠ 79 := by
    unfold kindN at hk
    split at hk
    · rename_i h7
      have := class_seven.1 h7
      split at hk
      · omega
      · split at hk
        · omega
        · omega
    · omega
  have : op = 69 ∨ op = 70 ∨ op = 71 ∨ op = 72 ∨ op = 73 ∨ op = 74 ∨ op = 75 ∨ op = 76 ∨ op = 77 ∨ op = 80 ∨ op = 81 ∨ op = 82 ∨ op = 83 ∨ op = 84 ∨ op = 85 ∨ op = 86 ∨ op = 87 ∨ op = 88 := by omega
  clear h hk hr
  rcases this with rfl | rfl | rfl | rfl | rfl | rfl | rfl | rfl | rfl | rfl | rfl | rfl | rfl | rfl | rfl | rfl | rfl | rfl
  · exact ⟨narrow (amoG 0), ⟨fun m x hm hx w => amo_w0 m x w hm.1 hm.2 hx.1 hx.2, fun m x _ _ => narrow_word m x, fun _ m m' x _ _ _ => narrow_swap m m' x, fun h => absurd (by omega) h, fun _ => narrow_once0⟩⟩
  · exact ⟨narrow (amoG 1), ⟨fun m x hm hx w => amo_w1 m x w hm.1 hm.2 hx.1 hx.2, fun m x _ _ => narrow_word m x, fun h => absurd h (by omega), fun _ => either_w1, fun h => absurd (by omega) h⟩⟩
  · exact ⟨narrow (amoG 2), ⟨fun m x hm hx w => amo_w2 m x w hm.1 hm.2 hx.1 hx.2, fun m x _ _ => narrow_word m x, fun h => absurd h (by omega), fun _ => either_w (fun _ _ a b => amoG_word 2 a b) kept_2 either_2, fun h => absurd (by omega) h⟩⟩
  · exact ⟨narrow (amoG 3), ⟨fun m x hm hx w => amo_w3 m x w hm.1 hm.2 hx.1 hx.2, fun m x _ _ => narrow_word m x, fun h => absurd h (by omega), fun _ => either_w (fun _ _ a b => amoG_word 3 a b) kept_3 either_3, fun _ => once_w (fun _ _ a b => amoG_word 3 a b) kept_3 once_3⟩⟩
  · exact ⟨narrow (amoG 4), ⟨fun m x hm hx w => amo_w4 m x w hm.1 hm.2 hx.1 hx.2, fun m x _ _ => narrow_word m x, fun h => absurd h (by omega), fun _ => either_w (fun _ _ a b => amoG_word 4 a b) kept_4 either_4, fun _ => once_w (fun _ _ a b => amoG_word 4 a b) kept_4 once_4⟩⟩
  · exact ⟨narrow (amoG 5), ⟨fun m x hm hx w => amo_w5 m x w hm.1 hm.2 hx.1 hx.2, fun m x _ _ => narrow_word m x, fun h => absurd h (by omega), fun _ => either_w (fun _ _ a b => amoG_word 5 a b) kept_5 either_5, fun _ => once_w (fun _ _ a b => amoG_word 5 a b) kept_5 once_5⟩⟩
  · exact ⟨narrow (amoG 6), ⟨fun m x hm hx w => amo_w6 m x w hm.1 hm.2 hx.1 hx.2, fun m x _ _ => narrow_word m x, fun h => absurd h (by omega), fun _ => either_w (fun _ _ a b => amoG_word 6 a b) kept_6 either_6, fun _ => once_w (fun _ _ a b => amoG_word 6 a b) kept_6 once_6⟩⟩
  · exact ⟨narrow (amoG 7), ⟨fun m x hm hx w => amo_w7 m x w hm.1 hm.2 hx.1 hx.2, fun m x _ _ => narrow_word m x, fun h => absurd h (by omega), fun _ => either_w (fun _ _ a b => amoG_word 7 a b) kept_7 either_7, fun _ => once_w (fun _ _ a b => amoG_word 7 a b) kept_7 once_7⟩⟩
  · exact ⟨narrow (amoG 8), ⟨fun m x hm hx w => amo_w8 m x w hm.1 hm.2 hx.1 hx.2, fun m x _ _ => narrow_word m x, fun h => absurd h (by omega), fun _ => either_w (fun _ _ a b => amoG_word 8 a b) kept_8 either_8, fun _ => once_w (fun _ _ a b => amoG_word 8 a b) kept_8 once_8⟩⟩
  · exact ⟨amoG 0, ⟨fun m x hm hx w => amo_d0 m x w hm.1 hm.2 hx.1 hx.2, fun m x hm hx => amoG_word 0 hm hx, fun _ _ _ _ _ _ _ => rfl, fun h => absurd (by omega) h, fun _ _ _ _ _ => rfl⟩⟩
  · exact ⟨amoG 1, ⟨fun m x hm hx w => amo_d1 m x w hm.1 hm.2 hx.1 hx.2, fun m x hm hx => amoG_word 1 hm hx, fun h => absurd h (by omega), fun _ => either_1, fun h => absurd (by omega) h⟩⟩
  · exact ⟨amoG 2, ⟨fun m x hm hx w => amo_d2 m x w hm.1 hm.2 hx.1 hx.2, fun m x hm hx => amoG_word 2 hm hx, fun h => absurd h (by omega), fun _ => either_2, fun h => absurd (by omega) h⟩⟩
  · exact ⟨amoG 3, ⟨fun m x hm hx w => amo_d3 m x w hm.1 hm.2 hx.1 hx.2, fun m x hm hx => amoG_word 3 hm hx, fun h => absurd h (by omega), fun _ => either_3, fun _ => once_3⟩⟩
  · exact ⟨amoG 4, ⟨fun m x hm hx w => amo_d4 m x w hm.1 hm.2 hx.1 hx.2, fun m x hm hx => amoG_word 4 hm hx, fun h => absurd h (by omega), fun _ => either_4, fun _ => once_4⟩⟩
  · exact ⟨amoG 5, ⟨fun m x hm hx w => amo_d5 m x w hm.1 hm.2 hx.1 hx.2, fun m x hm hx => amoG_word 5 hm hx, fun h => absurd h (by omega), fun _ => either_5, fun _ => once_5⟩⟩
  · exact ⟨amoG 6, ⟨fun m x hm hx w => amo_d6 m x w hm.1 hm.2 hx.1 hx.2, fun m x hm hx => amoG_word 6 hm hx, fun h => absurd h (by omega), fun _ => either_6, fun _ => once_6⟩⟩
  · exact ⟨amoG 7, ⟨fun m x hm hx w => amo_d7 m x w hm.1 hm.2 hx.1 hx.2, fun m x hm hx => amoG_word 7 hm hx, fun h => absurd h (by omega), fun _ => either_7, fun _ => once_7⟩⟩
  · exact ⟨amoG 8, ⟨fun m x hm hx w => amo_d8 m x w hm.1 hm.2 hx.1 hx.2, fun m x hm hx => amoG_word 8 hm hx, fun h => absurd h (by omega), fun _ => either_8, fun _ => once_8⟩⟩
theorem box2 (W : World) (a b : Value) (t : TypeId) : (W.alloc (.cells #[a, b] t)).cell? ⟨W.heap.size, 0, none⟩ = some a ∧ (W.alloc (.cells #[a, b] t)).cell? ⟨W.heap.size, 1, none⟩ = some b := by
  refine ⟨?_, ?_⟩ <;> simp [go_sem]
theorem drew8 (w : World) : ({ heap := w.heap, tape := w.tape, drawn := w.drawn + 1, os := w.os, output := w.output } : World) = w.drew := rfl
theorem cell_drew (w : World) (p : Addr) : w.drew.cell? p = w.cell? p := rfl
set_option maxHeartbeats 4000000 in
theorem laws8_walk (op m x y : Int) (_h0 : -9223372036854775808 ≤ op ∧ op ≤ 9223372036854775807) (h1 : 0 ≤ m ∧ m ≤ 18446744073709551615) (h2 : 0 ≤ x ∧ x ≤ 18446744073709551615) (h3 : 0 ≤ y ∧ y ≤ 18446744073709551615) (w : World) :
    Calls Try.prog 4 #[.int .i64 op, .int .u64 m, .agg #[.int .u64 x, .int .u64 y]] w fun e w' => e = .returned (.bool true) ∧ Below w.heap.size w w' := by
  have wm : WordB m := ⟨h1.1, by omega⟩
  have wx : WordB x := ⟨h2.1, by omega⟩
  have wy : WordB y := ⟨h3.1, by omega⟩
  clear h1 h2 h3
  by_cases hi : isB op = true
  case neg =>
    have hi' : isB op = false := by simpa using hi
    have hk : (kindN op != 1) = true := by rw [isB_one] at hi'; simpa using hi'
    go_enter Try.func4, Try.ntmps4
    go_wp2_with fail
    refine (is_c _ _).mono ?_
    rintro e w' ⟨rfl, rfl⟩
    rw [hi']
    have HB0 := Lib.hid ((Below.refl w.heap.size w).alloc (Nat.le_refl _) (.cells #[.int .u64 x, .int .u64 y] 33))
    generalize (w.alloc (.cells #[.int .u64 x, .int .u64 y] 33)) = W at *
    go_wp2_with fail
    refine (refIs_c _ _).mono ?_
    rintro e w1 ⟨rfl, hb⟩
    have HB1 := Lib.hid (HB0.out.trans (hb.mono HB0.out.size))
    clear hb
    go_wp2_with fail
    refine (live8_c _).mono ?_
    rintro e w' ⟨rfl, rfl⟩
    go_wp2_with fail
    go_ret
    exact ⟨rfl, HB1.out⟩
  obtain ⟨g, hg⟩ := amo_fn op hi
  have wa := hg.word m x wm wx
  have wb := hg.word m y wm wy
  have H1 := Lib.hid (fun w' => ldo8 (hg.does m x wm wx) w')
  have H2 := Lib.hid (fun w' => ldo8 (hg.does (g m x) x wa wx) w')
  have H3 := Lib.hid (fun w' => ldo8 (hg.does y x wy wx) w')
  have H4 := Lib.hid (fun w' => ldo8 (hg.does (g m x) y wa wy) w')
  have H5 := Lib.hid (fun w' => ldo8 (hg.does m y wm wy) w')
  have H6 := Lib.hid (fun w' => ldo8 (hg.does (g m y) x wb wx) w')
  by_cases c1 : op = 69 ∨ op = 80
  · have e1 := Lib.hid (hg.swap c1 m (g m x) x wm wa wx)
    have e2 := Lib.hid (hg.swap c1 m y x wm wy wx)
    have hE : (g m x == g m x) = true := by simp
    have hc : (op == 69) = true ∨ (op == 69) = false ∧ (op == 80) = true := by rcases c1 with rfl | rfl <;> simp
    clear hg wa wb wm wx wy c1
    rcases hc with c | ⟨c, c'⟩
    · go_enter Try.func4, Try.ntmps4
      go_wp2_with fail
      refine (is_c _ _).mono ?_
      rintro e w' ⟨rfl, rfl⟩
      rw [hi]
      obtain ⟨b0, b1⟩ := box2 w (.int .u64 x) (.int .u64 y) 33
      have HB0 := Lib.hid ((Below.refl w.heap.size w).alloc (Nat.le_refl _) (.cells #[.int .u64 x, .int .u64 y] 33))
      generalize (w.alloc (.cells #[.int .u64 x, .int .u64 y] 33)) = W at *
      go_wp2_with fail
      refine (H1.out _).mono ?_
      rintro e w' ⟨rfl, rfl⟩
      go_wp2_with fail
      refine (H2.out _).mono ?_
      rintro e w' ⟨rfl, rfl⟩
      rw [← e1.out]
      go_wp2_with fail
      refine (H3.out _).mono ?_
      rintro e w' ⟨rfl, rfl⟩
      rw [← e2.out]
      go_wp2_with fail
      refine (live8_c _).mono ?_
      rintro e w' ⟨rfl, rfl⟩
      go_wp2_with fail
      go_ret
      exact ⟨rfl, HB0.out⟩
    · go_enter Try.func4, Try.ntmps4
      go_wp2_with fail
      refine (is_c _ _).mono ?_
      rintro e w' ⟨rfl, rfl⟩
      rw [hi]
      obtain ⟨b0, b1⟩ := box2 w (.int .u64 x) (.int .u64 y) 33
      have HB0 := Lib.hid ((Below.refl w.heap.size w).alloc (Nat.le_refl _) (.cells #[.int .u64 x, .int .u64 y] 33))
      generalize (w.alloc (.cells #[.int .u64 x, .int .u64 y] 33)) = W at *
      go_wp2_with fail
      refine (H1.out _).mono ?_
      rintro e w' ⟨rfl, rfl⟩
      go_wp2_with fail
      refine (H2.out _).mono ?_
      rintro e w' ⟨rfl, rfl⟩
      rw [← e1.out]
      go_wp2_with fail
      refine (H3.out _).mono ?_
      rintro e w' ⟨rfl, rfl⟩
      rw [← e2.out]
      go_wp2_with fail
      refine (live8_c _).mono ?_
      rintro e w' ⟨rfl, rfl⟩
      go_wp2_with fail
      go_ret
      exact ⟨rfl, HB0.out⟩
  · have e1 := hg.either c1 m x y wm wx wy
    have HE1 := Lib.hid e1
    have n1 : (op == 69) = false := by simp; omega
    have n2 : (op == 80) = false := by simp; omega
    by_cases c2 : op = 70 ∨ op = 81 ∨ op = 71 ∨ op = 82
    · have hE : (g (g m y) x == g (g m y) x) = true := by simp
      clear hg wa wb wm wx wy c1 e1
      rcases c2 with rfl | rfl | rfl | rfl
      · go_enter Try.func4, Try.ntmps4
        go_wp2_with fail
        refine (is_c _ _).mono ?_
        rintro e w' ⟨rfl, rfl⟩
        rw [hi]
        obtain ⟨b0, b1⟩ := box2 w (.int .u64 x) (.int .u64 y) 33
        have HB0 := Lib.hid ((Below.refl w.heap.size w).alloc (Nat.le_refl _) (.cells #[.int .u64 x, .int .u64 y] 33))
        generalize (w.alloc (.cells #[.int .u64 x, .int .u64 y] 33)) = W at *
        go_wp2_with fail
        refine (H1.out _).mono ?_
        rintro e w' ⟨rfl, rfl⟩
        go_wp2_with fail
        refine (H2.out _).mono ?_
        rintro e w' ⟨rfl, rfl⟩
        go_wp2_with fail
        refine wp_region_still_lit (by kernel_rfl) (by kernel_rfl) ?_
        simp only [drew8]
        have b0' : W.drew.cell? ⟨w.heap.size, 0, none⟩ = some (.int .u64 x) := b0
        have b1' : W.drew.cell? ⟨w.heap.size, 1, none⟩ = some (.int .u64 y) := b1
        have HB2 := Lib.hid (HB0.out.drew)
        clear b0 b1 HB0
        generalize W.drew = W2 at *
        iterate 5 still_step
        still_call (turn8 (H1.out _))
        iterate 2 still_step
        still_call (turn8 (H4.out _))
        rw [HE1.out]
        iterate 5 still_step
        still_call (turn8 (H5.out _))
        iterate 2 still_step
        still_call (turn8 (H6.out _))
        iterate 2 still_step
        still_call (turn8 (live8_c _))
        iterate 2 still_step
        refine wpStill_nil ?_
        go_wp2_with fail
        go_ret
        exact ⟨rfl, HB2.out⟩
      · go_enter Try.func4, Try.ntmps4
        go_wp2_with fail
        refine (is_c _ _).mono ?_
        rintro e w' ⟨rfl, rfl⟩
        rw [hi]
        obtain ⟨b0, b1⟩ := box2 w (.int .u64 x) (.int .u64 y) 33
        have HB0 := Lib.hid ((Below.refl w.heap.size w).alloc (Nat.le_refl _) (.cells #[.int .u64 x, .int .u64 y] 33))
        generalize (w.alloc (.cells #[.int .u64 x, .int .u64 y] 33)) = W at *
        go_wp2_with fail
        refine (H1.out _).mono ?_
        rintro e w' ⟨rfl, rfl⟩
        go_wp2_with fail
        refine (H2.out _).mono ?_
        rintro e w' ⟨rfl, rfl⟩
        go_wp2_with fail
        refine wp_region_still_lit (by kernel_rfl) (by kernel_rfl) ?_
        simp only [drew8]
        have b0' : W.drew.cell? ⟨w.heap.size, 0, none⟩ = some (.int .u64 x) := b0
        have b1' : W.drew.cell? ⟨w.heap.size, 1, none⟩ = some (.int .u64 y) := b1
        have HB2 := Lib.hid (HB0.out.drew)
        clear b0 b1 HB0
        generalize W.drew = W2 at *
        iterate 5 still_step
        still_call (turn8 (H1.out _))
        iterate 2 still_step
        still_call (turn8 (H4.out _))
        rw [HE1.out]
        iterate 5 still_step
        still_call (turn8 (H5.out _))
        iterate 2 still_step
        still_call (turn8 (H6.out _))
        iterate 2 still_step
        still_call (turn8 (live8_c _))
        iterate 2 still_step
        refine wpStill_nil ?_
        go_wp2_with fail
        go_ret
        exact ⟨rfl, HB2.out⟩
      · go_enter Try.func4, Try.ntmps4
        go_wp2_with fail
        refine (is_c _ _).mono ?_
        rintro e w' ⟨rfl, rfl⟩
        rw [hi]
        obtain ⟨b0, b1⟩ := box2 w (.int .u64 x) (.int .u64 y) 33
        have HB0 := Lib.hid ((Below.refl w.heap.size w).alloc (Nat.le_refl _) (.cells #[.int .u64 x, .int .u64 y] 33))
        generalize (w.alloc (.cells #[.int .u64 x, .int .u64 y] 33)) = W at *
        go_wp2_with fail
        refine (H1.out _).mono ?_
        rintro e w' ⟨rfl, rfl⟩
        go_wp2_with fail
        refine (H2.out _).mono ?_
        rintro e w' ⟨rfl, rfl⟩
        go_wp2_with fail
        refine wp_region_still_lit (by kernel_rfl) (by kernel_rfl) ?_
        simp only [drew8]
        have b0' : W.drew.cell? ⟨w.heap.size, 0, none⟩ = some (.int .u64 x) := b0
        have b1' : W.drew.cell? ⟨w.heap.size, 1, none⟩ = some (.int .u64 y) := b1
        have HB2 := Lib.hid (HB0.out.drew)
        clear b0 b1 HB0
        generalize W.drew = W2 at *
        iterate 5 still_step
        still_call (turn8 (H1.out _))
        iterate 2 still_step
        still_call (turn8 (H4.out _))
        rw [HE1.out]
        iterate 5 still_step
        still_call (turn8 (H5.out _))
        iterate 2 still_step
        still_call (turn8 (H6.out _))
        iterate 2 still_step
        still_call (turn8 (live8_c _))
        iterate 2 still_step
        refine wpStill_nil ?_
        go_wp2_with fail
        go_ret
        exact ⟨rfl, HB2.out⟩
      · go_enter Try.func4, Try.ntmps4
        go_wp2_with fail
        refine (is_c _ _).mono ?_
        rintro e w' ⟨rfl, rfl⟩
        rw [hi]
        obtain ⟨b0, b1⟩ := box2 w (.int .u64 x) (.int .u64 y) 33
        have HB0 := Lib.hid ((Below.refl w.heap.size w).alloc (Nat.le_refl _) (.cells #[.int .u64 x, .int .u64 y] 33))
        generalize (w.alloc (.cells #[.int .u64 x, .int .u64 y] 33)) = W at *
        go_wp2_with fail
        refine (H1.out _).mono ?_
        rintro e w' ⟨rfl, rfl⟩
        go_wp2_with fail
        refine (H2.out _).mono ?_
        rintro e w' ⟨rfl, rfl⟩
        go_wp2_with fail
        refine wp_region_still_lit (by kernel_rfl) (by kernel_rfl) ?_
        simp only [drew8]
        have b0' : W.drew.cell? ⟨w.heap.size, 0, none⟩ = some (.int .u64 x) := b0
        have b1' : W.drew.cell? ⟨w.heap.size, 1, none⟩ = some (.int .u64 y) := b1
        have HB2 := Lib.hid (HB0.out.drew)
        clear b0 b1 HB0
        generalize W.drew = W2 at *
        iterate 5 still_step
        still_call (turn8 (H1.out _))
        iterate 2 still_step
        still_call (turn8 (H4.out _))
        rw [HE1.out]
        iterate 5 still_step
        still_call (turn8 (H5.out _))
        iterate 2 still_step
        still_call (turn8 (H6.out _))
        iterate 2 still_step
        still_call (turn8 (live8_c _))
        iterate 2 still_step
        refine wpStill_nil ?_
        go_wp2_with fail
        go_ret
        exact ⟨rfl, HB2.out⟩
    · have e2 := hg.once c2 m x wm wx
      have HE2 := Lib.hid e2
      have n3 : (op == 70) = false := by simp; omega
      have n4 : (op == 81) = false := by simp; omega
      have n5 : (op == 71) = false := by simp; omega
      have n6 : (op == 82) = false := by simp; omega
      have hE : (g (g m y) x == g (g m y) x) = true := by simp
      have hE2 : (g m x == g m x) = true := by simp
      clear hg wa wb wm wx wy c1 c2 e1 e2
      go_enter Try.func4, Try.ntmps4
      go_wp2_with fail
      refine (is_c _ _).mono ?_
      rintro e w' ⟨rfl, rfl⟩
      rw [hi]
      obtain ⟨b0, b1⟩ := box2 w (.int .u64 x) (.int .u64 y) 33
      have HB0 := Lib.hid ((Below.refl w.heap.size w).alloc (Nat.le_refl _) (.cells #[.int .u64 x, .int .u64 y] 33))
      generalize (w.alloc (.cells #[.int .u64 x, .int .u64 y] 33)) = W at *
      go_wp2_with fail
      refine (H1.out _).mono ?_
      rintro e w' ⟨rfl, rfl⟩
      go_wp2_with fail
      refine (H2.out _).mono ?_
      rintro e w' ⟨rfl, rfl⟩
      rw [HE2.out]
      go_wp2_with fail
      refine wp_region_still_lit (by kernel_rfl) (by kernel_rfl) ?_
      simp only [drew8]
      have b0' : W.drew.cell? ⟨w.heap.size, 0, none⟩ = some (.int .u64 x) := b0
      have b1' : W.drew.cell? ⟨w.heap.size, 1, none⟩ = some (.int .u64 y) := b1
      have HB2 := Lib.hid (HB0.out.drew)
      clear b0 b1 HB0
      generalize W.drew = W2 at *
      iterate 9 still_step
      still_call (turn8 (H1.out _))
      iterate 2 still_step
      still_call (turn8 (H4.out _))
      rw [HE1.out]
      iterate 5 still_step
      still_call (turn8 (H5.out _))
      iterate 2 still_step
      still_call (turn8 (H6.out _))
      iterate 3 still_step
      still_call (turn8 (live8_c _))
      iterate 2 still_step
      refine wpStill_nil ?_
      go_wp2_with fail
      go_ret
      exact ⟨rfl, HB2.out⟩

set_option maxRecDepth 100000 in
theorem laws8_lifted (os : Os) (started : os.Started) (H : Type) (enc : TypeId × Value → H) :
    ReturnsInHanded {} Try.checked os 4 .any (Rows.amoLawsSpec.pre6 enc Try.prog Try.f4 Rows.amoLawsRow.domain false) (Rows.amoLawsSpec.post enc Try.prog Try.f4 false true false false) := by
  refine returnsInHanded_of_change (C := Try.checked) own started (by kernel_rfl) Try.func4
    (ChangeSpec.witness6 (enc := enc) (C := Try.checked) false ⟨#[], #[.int .i64 0, .int .u64 0, .agg #[.int .u64 0, .int .u64 0]], []⟩ 8 (by kernel_rfl) (by kernel_rfl) (by kernel_rfl) (by kernel_rfl)) ?_
  intro W base args ds gs before hval0 hW hcnd _
  have hval : ∀ (j : Nat) t v, Try.f4.params[j]? = some t → args[j]? = some v → Value.okWide Try.prog W .any base t v := hval0
  have hW' := hW
  obtain ⟨p, q, hA0, hV, rfl, hfz, hnd⟩ := hW
  have hA : DataW.TrodAll enc Try.prog W 0 (fun _ => true) true Try.f4.params.toList args.toList ds p := hA0
  rw [Try.params4] at hA hval
  obtain ⟨v0, vs0, d0, ds0, p0, q0, hargs, rfl, rfl, h0, r0⟩ := trodAll_cons hA
  obtain ⟨v1, vs1, d1, ds1, p1, q1, rfl, rfl, rfl, h1, r1⟩ := trodAll_cons r0
  obtain ⟨v2, vs2, d2, ds2, p2, q2, rfl, rfl, rfl, h2, r2⟩ := trodAll_cons r1
  obtain ⟨rfl, rfl, rfl⟩ := trodAll_nil r2
  obtain rfl : args = #[v0, v1, v2] := by cases args; simp_all
  obtain ⟨rfl, rfl⟩ := trodVars_none hV
  obtain ⟨a0, rfl, rfl, rfl, w0⟩ := open_int Try.underlying3 (hval 0 3 v0 rfl rfl) h0
  obtain ⟨a1, rfl, rfl, rfl, w1⟩ := open_int Try.underlying22 (hval 1 22 v1 rfl rfl) h1
  have k2 := h2
  have lt2 : ∀ x ∈ p2, x.block < W.heap.size := by obtain ⟨m, hm⟩ := k2; exact DataW.trod_lt m _ _ _ hm
  obtain ⟨a2, b2, rfl, w2, z2⟩ := open_arr2 Try.underlying33 Try.underlying22 (by kernel_rfl) (by kernel_rfl) (hval 2 33 v2 rfl rfl) h2
  clear hA0 hval0
  refine (laws8_walk a0 a1 a2 b2 (bounds_i64 w0) (bounds_u64 w1) (bounds_u64 w2) (bounds_u64 z2) W).mono fun e W' ⟨he, bel⟩ => ?_
  subst he
  exact ⟨_, rfl, _, _, _, [], _, [], hW', trodAll_mk1 (shut_bool Try.underlying4 _), (trodAll_cons_mk (shut_int Try.underlying3 w0) (trodAll_cons_mk (shut_int Try.underlying22 w1) (trodAll_cons_mk (Below.trod laidOut (by kernel_rfl) (of_decide_eq_true (by kernel_rfl)) k2 bel lt2) trodAll_mk0))), rfl, bel.frame _, fun h => by cases h⟩

theorem laws8_over : Rows.amoLawsRow.holds Try.pinned (OpenSpec.ofChange Rows.amoLawsSpec) :=
  OpenClaim.holds_of_wide 4 Try.f4 rfl rfl rfl rfl rfl rfl rfl ⟨rfl, rfl, rfl, rfl, rfl⟩ rfl rfl rfl rfl rfl (by kernel_rfl) Try.func4 (by kernel_rfl)
    (of_decide_eq_true (by kernel_rfl)) (by unfold Func.isWrapper; first | (rw [if_pos (by decide +kernel)]; kernel_rfl) | (rw [if_neg (by decide +kernel)]; exact ⟨rfl, rfl⟩))
    (fun os started H enc _ => laws8_lifted os started H enc)

theorem laws8_said : Rows.AmoLawsSaid := laws8_over
end Go.Proofs.Ytgfdielipbcfeaa
