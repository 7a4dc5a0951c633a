/-
  The reference of layer 16: New, Word, best, Line.
-/
import Derived.Test.YtjeolfcefeglpaaPcX
set_option maxRecDepth 20000
namespace Go.Proofs.Ytjeolfcefeglpaa
open Go.ChangeShapes Go.WideShapes Go.ChangeAt Go.RowKit

namespace Pc
open Wd
theorem div_step {x : Int} (h0 : 0 ≤ x) (i : Nat) : 2 * (x / 2 ^ (i + 1)) + (if tb x i = true then 1 else 0) = x / 2 ^ i := by
  have h1 := div_next (S := x) i
  have h2 : 0 ≤ x / 2 ^ i := Int.ediv_nonneg h0 (Int.pow_nonneg (by omega))
  have h3 := tb_div h0 i 0
  rw [Nat.zero_add] at h3
  rw [← h3, tb, Nat.testBit_zero, ← h1]
  have h4 : ((x / 2 ^ i).toNat : Int) = x / 2 ^ i := Int.toNat_of_nonneg h2
  split
  · rename_i h; simp only [decide_eq_true_eq] at h; omega
  · rename_i h; simp only [decide_eq_true_eq] at h; omega
theorem dn_lt (S : Int) (pr : Nat → Int) (lv : Int) : ∀ k, k ≤ 31 → dn S pr lv k < 32
  | 0, _ => by unfold dn; omega
  | k + 1, hk => by
    have := dn_lt S pr lv k (by omega)
    unfold dn
    split <;> omega
end Pc
abbrev T61 : TypeId := 61
set_option maxHeartbeats 4000000 in
theorem rword_c (x : Int) (h0 : 0 ≤ x) (h1 : x < 4294967296) (w : World) : Calls Try.prog 30 #[.agg (bV x)] w fun e w' => e = .returned (.int .u64 x) ∧ Below w.heap.size w w' := by
  have HB := Lib.hid ((Below.refl w.heap.size w).alloc (Nat.le_refl _) (Obj.cells (bV x) T61))
  have HR := Lib.hid (CsAt.new w T61 (bV x))
  go_enter Try.func30, Try.ntmps30
  go_upto_region 1 with fail
  generalize w.alloc (Obj.cells (bV x) T61) = w1 at *
  go_wp2_with fail
  go_loopw [3, 4] (fun wv iv wr => ∃ j : Nat, j ≤ 32 ∧ iv = .int .i64 ((j : Int) - 1) ∧ wv = .int .u64 (x / 2 ^ j) ∧ wr = w1) (fun _ iv _ => (intOf iv + 1).toNat)
  case atStart => exact ⟨32, by omega, rfl, by rw [Int.ediv_eq_zero_of_lt h0 (by simpa using h1)], rfl⟩
  case round =>
    obtain ⟨j, hj, rfl, rfl, hwr⟩ := hrel
    have HWR := Lib.hid hwr
    have HR2 := Lib.hid (show CsAt wr w.heap.size T61 (bV x) by rw [hwr]; exact HR.out)
    clear hwr
    cases j with
    | zero =>
      have HB2 := Lib.hid (show Below w.heap.size w wr by rw [HWR.out]; exact HB.out)
      rw [show x / 2 ^ 0 = x by simp, show ((0 : Nat) : Int) - 1 = -1 by rfl]
      go_wp2_with fail
      go_ret
      exact ⟨rfl, HB2.out⟩
    | succ i =>
      have e0 : decide ((i : Int) ≥ 0) = true := by simp
      have gi : (i : Int) < 32 := by omega
      have q : wr.cell? ⟨w.heap.size, i, none⟩ = some (.bool (Wd.tb x i)) := by rw [HR2.out.cell]; exact bV_at x (by omega)
      have hb := Pc.div_step h0 i
      have hr : 0 ≤ x / 2 ^ (i + 1) ∧ x / 2 ^ (i + 1) < 4294967296 := by
        refine ⟨Int.ediv_nonneg h0 (Int.pow_nonneg (by omega)), Int.lt_of_le_of_lt (Int.ediv_le_self _ h0) h1⟩
      have HN := Lib.hid hb
      clear hb
      rw [show ((i + 1 : Nat) : Int) - 1 = (i : Int) by omega]
      generalize x / 2 ^ (i + 1) = y at *
      have p1 : IntKind.u64.wrap (2 * y) = 2 * y := by rw [IntKind.wrap_u64]; omega
      have p2 : IntKind.u64.wrap (2 * y + 1) = 2 * y + 1 := by rw [IntKind.wrap_u64]; omega
      cases ht : Wd.tb x i with
      | true =>
        rw [ht] at q HN
        go_wp2_with fail
        go_roundw
        case rel => exact ⟨i, by omega, rfl, by have := HN.out; simpa using this, HWR.out⟩
        case measure => simp [intOf]
      | false =>
        rw [ht] at q HN
        go_wp2_with fail
        go_roundw
        case rel => exact ⟨i, by omega, rfl, by have := HN.out; simpa using this, HWR.out⟩
        case measure => simp [intOf]
set_option maxHeartbeats 16000000 in
theorem rbest_c (n : Nat) (ws : List Int) (hk : Pc.Ok n ws) (c : Nat) (hc : c < 16) (lv : Int) (w : World) :
    Calls Try.prog 47 #[.agg (x16V n ws), .int .i64 c, .int .i64 lv] w fun e w' => e = .returned (.int .i64 (Pc.bst ws c lv)) ∧ Below w.heap.size w w' := by
  have HB := Lib.hid ((Below.refl w.heap.size w).alloc (Nat.le_refl _) (Obj.cells (x16V n ws) X16))
  have HX := Lib.hid (XpAt.box w n ws)
  have he := hk.en c hc
  have HT := Lib.hid (fun i => Wd.tb_and hk.wait.lo hk.wait.hi he.lo he.hi i)
  have HS0 := Lib.hid (hk.wait.and he.lo he.hi).at0
  have HP := Lib.hid hk.pri
  have HG := Lib.hid (show Pc.bst ws c lv = Pc.best (bits .and .u64 (ws.getD 1 0) (ws.getD (35 + c) 0)) (fun i => ws.getD (3 + i) 0) lv from rfl)
  rw [HG.out]
  clear hk he HG
  generalize bits .and .u64 (ws.getD 1 0) (ws.getD (35 + c) 0) = S at *
  obtain ⟨pr, hpr⟩ : ∃ pr : Nat → Int, pr = fun i => ws.getD (3 + i) 0 := ⟨_, rfl⟩
  have HPK := Lib.hid (fun i => show ws.getD (3 + i) 0 = pr i by rw [hpr])
  rw [← hpr]
  clear hpr
  have gc : (c : Int) < 16 := by omega
  go_enter Try.func47, Try.ntmps47
  go_upto_region 1 with fail
  generalize w.alloc (Obj.cells (x16V n ws) X16) = w1 at *
  go_wp2_with fail
  go_loopw [7, 8] (fun ov iv wr => ∃ k : Nat, k ≤ 31 ∧ iv = .int .i64 ((31 - k : Nat) : Int) ∧ ov = .int .i64 (Pc.dn S pr lv k : Nat) ∧ XpAt wr w.heap.size n ws ∧ Below w.heap.size w wr) (fun _ iv _ => (intOf iv).toNat)
  case atStart => exact ⟨0, by omega, rfl, rfl, HX.out, HB.out⟩
  case round =>
    obtain ⟨k, hk, rfl, rfl, hx, hb⟩ := hrel
    have HXR := Lib.hid hx
    have HBR := Lib.hid hb
    clear hx hb HX HB
    by_cases hlt : k < 31
    · have hdn := Pc.dn_lt S pr lv k (by omega)
      have HD := Lib.hid (show Pc.dn S pr lv (k + 1) = if Wd.tb S (31 - k) = true ∧ pr (31 - k) > lv ∧ (Pc.dn S pr lv k = 0 ∨ pr (31 - k) ≥ pr (Pc.dn S pr lv k)) then 31 - k else Pc.dn S pr lv k from rfl)
      generalize Pc.dn S pr lv k = d at *
      obtain ⟨i, hi⟩ : ∃ i, 31 - k = i := ⟨_, rfl⟩
      rw [hi] at HD ⊢
      have hi1 : 1 ≤ i := by omega
      have hi2 : i < 32 := by omega
      have HI := Lib.hid hi
      clear hi
      have e0 : decide ((i : Int) ≥ 1) = true := by simp; omega
      have gi : (i : Int) < 32 := by omega
      have gd : (d : Int) < 32 := by omega
      have q1 := HXR.out.wait hi2
      have q2 := HXR.out.on hc hi2
      have q3 := HXR.out.pri hi2
      have q4 := HXR.out.pri hdn
      rw [HPK.out] at q3 q4
      have htb := HT.out i
      rw [htb] at HD
      have HC := Lib.hid (show ∀ v : Nat, Pc.dn S pr lv (k + 1) = v → ∃ k' : Nat, k' ≤ 31 ∧ Value.int .i64 ((i : Int) - 1) = .int .i64 ((31 - k' : Nat) : Int) ∧ Value.int .i64 (v : Int) = .int .i64 (Pc.dn S pr lv k' : Nat) from
        fun v hv => ⟨k + 1, by omega, by rw [show ((31 - (k + 1) : Nat) : Int) = (i : Int) - 1 by have := HI.out; omega], by rw [hv]⟩)
      clear htb HT
      generalize Wd.tb (ws.getD 1 0) i = a at *
      generalize Wd.tb (ws.getD (35 + c) 0) i = b at *
      generalize pr i = p at *
      generalize pr d = pd at *
      cases a with
      | false =>
        have HE := Lib.hid (HC.out d (by rw [HD.out, if_neg (by simp)]))
        clear HC HD
        go_upto_region 5 with fail
        go_quiet (fail)
        have HX2 := Lib.hid (HXR.out.low (below_dnC (Below.refl _ _) nq))
        have HB2 := Lib.hid (below_dnC HBR.out nq)
        go_wp2_with fail
        go_roundw
        case rel =>
          obtain ⟨k', h1, h2, h3⟩ := HE.out
          exact ⟨k', h1, h2, h3, HX2.out, HB2.out⟩
        case measure => simp [intOf]; omega
      | true =>
        cases b with
        | false =>
          have HE := Lib.hid (HC.out d (by rw [HD.out, if_neg (by simp)]))
          clear HC HD
          go_upto_region 5 with fail
          go_quiet (fail)
          have HX2 := Lib.hid (HXR.out.low (below_dnC (Below.refl _ _) nq))
          have HB2 := Lib.hid (below_dnC HBR.out nq)
          go_wp2_with fail
          go_roundw
          case rel =>
            obtain ⟨k', h1, h2, h3⟩ := HE.out
            exact ⟨k', h1, h2, h3, HX2.out, HB2.out⟩
          case measure => simp [intOf]; omega
        | true =>
          by_cases hp : lv < p
          · have f1 : decide (p > lv) = true := by simpa using hp
            by_cases hd0 : d = 0
            · have f2 : ((d : Int) == 0) = true := by simp; omega
              have HE := Lib.hid (HC.out i (by rw [HD.out, if_pos ⟨rfl, hp, .inl hd0⟩]))
              clear HC HD
              go_upto_region 5 with fail
              go_quiet (fail)
              have HX2 := Lib.hid (HXR.out.low (below_dnC (Below.refl _ _) nq))
              have HB2 := Lib.hid (below_dnC HBR.out nq)
              go_wp2_with fail
              go_roundw
              case rel =>
                obtain ⟨k', h1, h2, h3⟩ := HE.out
                exact ⟨k', h1, h2, h3, HX2.out, HB2.out⟩
              case measure => simp [intOf]; omega
            · have f2 : ((d : Int) == 0) = false := by simp; omega
              by_cases hq : pd ≤ p
              · have f3 : decide (p ≥ pd) = true := by simpa using hq
                have HE := Lib.hid (HC.out i (by rw [HD.out, if_pos ⟨rfl, hp, .inr hq⟩]))
                clear HC HD
                go_upto_region 5 with fail
                go_quiet (fail)
                have HX2 := Lib.hid (HXR.out.low (below_dnC (Below.refl _ _) nq))
                have HB2 := Lib.hid (below_dnC HBR.out nq)
                go_wp2_with fail
                go_roundw
                case rel =>
                  obtain ⟨k', h1, h2, h3⟩ := HE.out
                  exact ⟨k', h1, h2, h3, HX2.out, HB2.out⟩
                case measure => simp [intOf]; omega
              · have f3 : decide (p ≥ pd) = false := by simpa using hq
                have HE := Lib.hid (HC.out d (by rw [HD.out, if_neg (fun h => by rcases h.2.2 with h | h <;> omega)]))
                clear HC HD
                go_upto_region 5 with fail
                go_quiet (fail)
                have HX2 := Lib.hid (HXR.out.low (below_dnC (Below.refl _ _) nq))
                have HB2 := Lib.hid (below_dnC HBR.out nq)
                go_wp2_with fail
                go_roundw
                case rel =>
                  obtain ⟨k', h1, h2, h3⟩ := HE.out
                  exact ⟨k', h1, h2, h3, HX2.out, HB2.out⟩
                case measure => simp [intOf]; omega
          · have f1 : decide (p > lv) = false := by simpa using hp
            have HE := Lib.hid (HC.out d (by rw [HD.out, if_neg (fun h => hp h.2.1)]))
            clear HC HD
            go_upto_region 5 with fail
            go_quiet (fail)
            have HX2 := Lib.hid (HXR.out.low (below_dnC (Below.refl _ _) nq))
            have HB2 := Lib.hid (below_dnC HBR.out nq)
            go_wp2_with fail
            go_roundw
            case rel =>
              obtain ⟨k', h1, h2, h3⟩ := HE.out
              exact ⟨k', h1, h2, h3, HX2.out, HB2.out⟩
            case measure => simp [intOf]; omega
    · obtain rfl : k = 31 := by omega
      have e0 : decide ((0 : Int) ≥ 1) = false := by simp
      have HF := Lib.hid (Pc.dn_up (S := S) (pr := pr) (lv := lv) HS0.out)
      rw [show ((31 - 31 : Nat) : Int) = 0 from rfl, HF.out]
      go_wp2_with fail
      go_ret
      exact ⟨rfl, HBR.out⟩
set_option maxHeartbeats 8000000 in
theorem rline16_c (n : Nat) (ws : List Int) (hk : Pc.Ok n ws) (c : Int) (w : World) :
    Calls Try.prog 33 #[.agg (x16V n ws), .int .i64 c] w fun e w' => e = .returned (.bool (Pc.lineP n ws c)) ∧ Below w.heap.size w w' := by
  have HB := Lib.hid ((Below.refl w.heap.size w).alloc (Nat.le_refl _) (Obj.cells (x16V n ws) X16))
  have HX := Lib.hid (XpAt.box w n ws)
  have hn8 := hk.n8
  by_cases hneg : c < 0
  · have HE := Lib.hid (show Pc.lineP n ws c = false by unfold Pc.lineP; simp; omega)
    rw [HE.out]
    have e0 : decide (c ≥ 0) = false := by simp; omega
    clear hk HE hneg
    go_enter Try.func33, Try.ntmps33
    go_upto_region 1 with fail
    generalize w.alloc (Obj.cells (x16V n ws) X16) = w1 at *
    go_quiet (fail)
    have HB2 := Lib.hid (below_dnC HB.out nq)
    go_wp2_with fail
    go_ret
    exact ⟨rfl, HB2.out⟩
  · have e0 : decide (c ≥ 0) = true := by simp; omega
    obtain ⟨k, rfl⟩ := Int.eq_ofNat_of_zero_le (by omega : 0 ≤ c)
    by_cases hlt : k < 2 * n
    · have hk16 : k < 16 := by omega
      have e1 : decide ((k : Int) < 2 * (n : Int)) = true := by simp; omega
      have gk : (k : Int) < 16 := by omega
      have HBst := Lib.hid (rbest_c n ws hk k hk16 (ws.getD (51 + k) 0))
      have HE := Lib.hid (show Pc.lineP n ws (k : Int) = decide (((Pc.bst ws k (ws.getD (51 + k) 0) : Nat) : Int) > 0) by
        unfold Pc.lineP
        rw [Int.toNat_natCast]
        apply decide_eq_decide.2
        omega)
      rw [HE.out]
      have HF := Lib.hid (show ∀ m : Nat, decide (0 < m) = decide ((m : Int) > 0) from fun m => by
        apply decide_eq_decide.2
        omega)
      have e1w : decide ((k : Int) < IntKind.i64.wrap (2 * (n : Int))) = true := by rw [show IntKind.i64.wrap (2 * (n : Int)) = 2 * (n : Int) by rw [IntKind.wrap_i64]; omega]; exact e1
      clear hk HE hneg
      generalize Pc.bst ws k (ws.getD (51 + k) 0) = m at *
      obtain ⟨t, ht⟩ : ∃ t, ws.getD (51 + k) 0 = t := ⟨_, rfl⟩
      rw [ht] at HBst
      go_enter Try.func33, Try.ntmps33
      go_upto_region 1 with fail
      generalize w.alloc (Obj.cells (x16V n ws) X16) = w1 at *
      refine wp_region_steady (fun W => XpAt W w.heap.size n ws ∧ Below w.heap.size w W) (by kernel_rfl) (by kernel_rfl) ⟨HX.out.low (below_dnC (Below.refl _ _) 1), below_dnC HB.out 1⟩ ?_
      iterate 5
        refine steady_val ?_ ?_ (by kernel_rfl) (fun W hS => ?_) ?_ ?_
        rotate_left 2
        · go_simp
          exact rfl
        · go_simp
          exact rfl
      refine steady_val ?_ ?_ (by kernel_rfl) (fun W hS => ?_) ?_ ?_
      rotate_left 2
      · (have q0 := hS.1.n0); go_simp
        exact rfl
      · go_simp
        exact rfl
      iterate 4
        refine steady_val ?_ ?_ (by kernel_rfl) (fun W hS => ?_) ?_ ?_
        rotate_left 2
        · go_simp
          exact rfl
        · go_simp
          exact rfl
      refine steady_val (.agg (x16V n ws)) ?_ (by kernel_rfl) (fun W hS => exec_load_row _ _ rfl _ rfl _ _ _ hS.1 Try.underlying65 rfl iX16) ?_ ?_
      rotate_left 1
      · go_simp
        exact rfl
      iterate 4
        refine steady_val ?_ ?_ (by kernel_rfl) (fun W hS => ?_) ?_ ?_
        rotate_left 2
        · go_simp
          exact rfl
        · go_simp
          exact rfl
      refine steady_val ?_ ?_ (by kernel_rfl) (fun W hS => ?_) ?_ ?_
      rotate_left 2
      · (have q := hS.1.lev hk16; rw [ht] at q); go_simp
        exact rfl
      · go_simp
        exact rfl
      refine steady_enter (.int .i64 (m : Int)) 47 #[.agg (x16V n ws), .int .i64 (k : Int), .int .i64 t] ?_ (by kernel_rfl) (fun W hS => ?_) (fun W hS => (HBst.out W).mono (by rintro e w' ⟨rfl, hb⟩; exact ⟨rfl, hS.1.low hb, hS.2.trans (hb.mono hS.2.size)⟩)) ?_ ?_
      rotate_left 1
      · go_simp
      · go_simp
        exact rfl
      iterate 3
        refine steady_val ?_ ?_ (by kernel_rfl) (fun W hS => ?_) ?_ ?_
        rotate_left 2
        · go_simp
          exact rfl
        · go_simp
          exact rfl
      refine steady_nil ?_
      intro W hS
      have HB2 := Lib.hid hS.2
      clear hS
      go_wp2_with fail
      go_ret
      exact ⟨congrArg (fun b => Ending.returned (.bool b)) (HF.out m), HB2.out⟩
    · have HE := Lib.hid (show Pc.lineP n ws (k : Int) = false by unfold Pc.lineP; simp; omega)
      rw [HE.out]
      have e1 : decide ((k : Int) < 2 * (n : Int)) = false := by simp; omega
      clear hk HE hneg
      go_enter Try.func33, Try.ntmps33
      go_upto_region 1 with fail
      generalize w.alloc (Obj.cells (x16V n ws) X16) = w1 at *
      have q0 := HX.out.n0
      go_quiet (fail)
      have HB2 := Lib.hid (below_dnC HB.out nq)
      go_wp2_with fail
      go_ret
      exact ⟨rfl, HB2.out⟩
theorem x16_n (n : Nat) : (x16V 0 Pc.zeros).setIfInBounds 0 (.int .i64 n) = x16V n Pc.zeros := by
  refine x16_set (i := 0) (by omega) rfl fun j _ e => ?_
  unfold xc
  simp only [if_neg (Ne.symm e)]
set_option maxRecDepth 100000 in
set_option maxHeartbeats 4000000 in
theorem rnew16_c (harts : Int) (w : World) : Calls Try.prog 25 #[.int .i64 harts] w fun e w' => e = .returned (.agg (x16V (Ct.cnt harts) Pc.zeros)) ∧ Below w.heap.size w w' := by
  have HB0 := Lib.hid ((Below.refl w.heap.size w).alloc (Nat.le_refl _) (Obj.cells (x16V 0 Pc.zeros) X16))
  have HR0 := Lib.hid (CsAt.new w X16 (x16V 0 Pc.zeros))
  have hz := zero_x16
  by_cases hlo : harts < 1
  · have HE := Lib.hid (show Ct.cnt harts = 0 by unfold Ct.cnt; rw [if_neg (by omega)])
    rw [HE.out]
    have g0 : decide (harts < 1) = true := by simpa using hlo
    clear hlo
    go_enter Try.func25, Try.ntmps25
    go_upto_region 1 with fail
    go_wp2_with (refine wpList_storeNew (w0 := w) rfl X16 _ _ rfl _ (x16V 0 Pc.zeros) _ rfl rfl iX16 rfl x16_one ?_)
    exact bodyPost_ret (results_cell_row Try.results25 _ _ _ _ _ _ _ rfl HR0.out Try.underlying65 rfl iX16) rfl ⟨rfl, HB0.out⟩
  · have g0 : decide (harts < 1) = false := by simpa using hlo
    by_cases hhi : 8 < harts
    · have HE := Lib.hid (show Ct.cnt harts = 0 by unfold Ct.cnt; rw [if_neg (by omega)])
      rw [HE.out]
      have g1 : decide (harts > 8) = true := by simpa using hhi
      clear hlo hhi
      go_enter Try.func25, Try.ntmps25
      go_upto_region 1 with fail
      go_wp2_with (refine wpList_storeNew (w0 := w) rfl X16 _ _ rfl _ (x16V 0 Pc.zeros) _ rfl rfl iX16 rfl x16_one ?_)
      exact bodyPost_ret (results_cell_row Try.results25 _ _ _ _ _ _ _ rfl HR0.out Try.underlying65 rfl iX16) rfl ⟨rfl, HB0.out⟩
    · obtain ⟨n, hn⟩ : ∃ n : Nat, harts = n := ⟨harts.toNat, by omega⟩
      subst hn
      have HE := Lib.hid (show Ct.cnt (n : Int) = n by unfold Ct.cnt; rw [if_pos (by omega)]; omega)
      rw [HE.out]
      have g1 : decide ((n : Int) > 8) = false := by simpa using hhi
      have HB1 := Lib.hid ((Below.refl w.heap.size w).alloc (Nat.le_refl _) (Obj.cells (x16V n Pc.zeros) X16))
      have HR1 := Lib.hid (CsAt.new w X16 (x16V n Pc.zeros))
      have hfill := x16_n n
      clear hlo hhi HE
      go_enter Try.func25, Try.ntmps25
      go_upto_region 1 with fail
      go_wp2_with (refine wpList_storeNew (w0 := w) rfl X16 _ _ rfl _ (x16V n Pc.zeros) _ rfl rfl iX16 rfl x16_one ?_)
      exact bodyPost_ret (results_cell_row Try.results25 _ _ _ _ _ _ _ rfl HR1.out Try.underlying65 rfl iX16) rfl ⟨rfl, HB1.out⟩
end Go.Proofs.Ytjeolfcefeglpaa
