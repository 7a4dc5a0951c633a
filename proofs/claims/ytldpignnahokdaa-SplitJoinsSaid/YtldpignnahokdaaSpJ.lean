/-
  Contract of the reference of layer 11: Join.
-/
import Derived.Test.YtldpignnahokdaaSpI
namespace Go.Proofs.Ytldpignnahokdaa
open Go.ChangeShapes Go.WideShapes Go.ChangeAt Go.RowKit Wd

set_option maxRecDepth 4000 in
set_option maxHeartbeats 4000000 in
theorem rjoin_c (l : List Sp.P) (us : List Int) (po pu : Option Addr) (cap capu : Nat) (w : World) (hl : Vw w po (Sp.cellsOf l)) (hu : Vw w pu (uV us)) (hr : ∀ u ∈ us, 0 ≤ u ∧ u < 18446744073709551616) (hll : l.length ≤ 1000000) (hul : us.length ≤ 1000000) :
    Calls Try.prog 22 #[.slice po l.length cap, .slice pu us.length capu] w fun e w' => e = .returned (.int .u64 (joinS l us (min l.length us.length))) ∧ Below w.heap.size w w' := by
  have HL := Lib.hid hl
  have HU := Lib.hid hu
  have HR := Lib.hid hr
  have HLL := Lib.hid (And.intro hll hul)
  clear hl hu hr
  obtain ⟨t, ht⟩ : ∃ t, t = min l.length us.length := ⟨_, rfl⟩
  have ht1 : t ≤ l.length := by omega
  have ht2 : t ≤ us.length := by omega
  have HT := Lib.hid ht
  clear ht
  go_enter Try.func22, Try.ntmps22
  go_wp2_with fail
  go_loopw [5, 6] (fun v iv wr => ∃ k : Nat, k ≤ t ∧ iv = .int .i64 k ∧ v = .int .u64 (joinS l us k) ∧ Below w.heap.size w wr) (fun _ iv _ => t - (intOf iv).toNat)
  case atStart => exact ⟨0, Nat.zero_le _, rfl, rfl, Below.refl _ _⟩
  case round =>
    obtain ⟨k, hk, rfl, rfl, hbr⟩ := hrel
    have HBR := Lib.hid hbr
    clear hbr
    have hk6 : k ≤ 1000000 := by have := HLL.out.1; omega
    by_cases hlt0 : k < t
    · have hkl : k < l.length := by omega
      have hku : k < us.length := by omega
      obtain ⟨b, off, rfl, hlt, hc⟩ := HL.out.resolve_left (fun h => by
        have := congrArg List.length h
        rw [Sp.cellsOf_len, List.length_nil] at this
        omega)
      obtain ⟨bu, offu, rfl, hltu, hcu⟩ := HU.out.resolve_left (fun h => by
        have := congrArg List.length h
        rw [List.length_map, List.length_nil] at this
        omega)
      have hq0 := vw_range hc k hkl
      have hu0 := hcu k _ (uV_at us k hku)
      have HJ := Lib.hid (show joinS l us (k + 1) = if rightB (l.getD k Sp.p0).n (l.getD k Sp.p0).s then putS (joinS l us k) (l.getD k Sp.p0).s (8 * (l.getD k Sp.p0).n) (us.getD k 0) else joinS l us k from rfl)
      have hur := HR.out (us.getD k 0) (by rw [List.getD, List.getElem?_eq_getElem hku]; exact List.getElem_mem _)
      have hjr := joinS_range l us k
      generalize us.getD k 0 = x at *
      generalize l.getD k Sp.p0 = q at *
      obtain ⟨qa, qn, qs⟩ := q
      have HX := Lib.hid hur
      have HJR := Lib.hid hjr
      have HQ0 := Lib.hid (show wr.rangeAt b (off + k * 3) [.int .u64 qa, .int .i64 qn, .int .i64 qs] from rangeB HBR.out hlt hq0)
      have HD1 := Lib.hid (show w.cell? ⟨b, off + k * 3 + 1, none⟩ = some (.int .i64 qn) from hq0 1 _ rfl)
      have HD2 := Lib.hid (show w.cell? ⟨b, off + k * 3 + 2, none⟩ = some (.int .i64 qs) from hq0 2 _ rfl)
      have HU0 := Lib.hid hu0
      have HHL := Lib.hid hlt
      have HHU := Lib.hid hltu
      clear hc hcu hq0 hu0 hur hjr hlt hltu
      generalize joinS l us k = jv at *
      have hli : (k : Int) < l.length := by omega
      have hlu : (k : Int) < us.length := by omega
      have gl : decide ((k : Int) < ((l.length : Nat) : Int)) = true := by simpa using hkl
      have gl2 : decide (k < l.length) = true := by simpa using hkl
      have gu : decide ((k : Int) < ((us.length : Nat) : Int)) = true := by simpa using hku
      have gu2 : decide (k < us.length) = true := by simpa using hku
      go_wp2_with (refine wpList_load_mid rfl 38 _ rfl b (off + k * 3) rfl [.int .u64 qa, .int .i64 qn, .int .i64 qs] _ HQ0.out Try.underlying38 rfl (by kernel_rfl) ?_)
      refine (right_c _ _ _ _).mono ?_
      rintro e w4 ⟨rfl, hb4⟩
      have HBY := Lib.hid (HBR.out.trans (hb4.mono HBR.out.size))
      clear hb4 HBR
      by_cases h : 1 ≤ qn ∧ qn ≤ 8 ∧ 0 ≤ qs ∧ qs ≤ 63
      · have HJ2 := Lib.hid (show joinS l us (k + 1) = putS jv qs (8 * qn) x from HJ.out.trans (if_pos (rightB_iff.2 h)))
        rw [rightB_iff.2 h]
        have HM8 := Lib.hid (show IntKind.i64.wrap (8 * qn) = 8 * qn by rw [IntKind.wrap_i64]; omega)
        have HPB := Lib.hid (show -9223372036854775808 ≤ qs ∧ 8 * qn < 9223372036854775808 by omega)
        clear h
        go_wp2_with fail
        refine wp_region_steady (fun W => Below w.heap.size w W) (by kernel_rfl) (by kernel_rfl) HBY.out.drew ?_
        iterate 6
          refine steady_val ?_ ?_ (by kernel_rfl) (fun W hS => ?_) ?_ ?_
          rotate_left 2
          · have d2 := (hS.cell (p := ⟨b, off + k * 3 + 2, none⟩) HHL.out).trans HD2.out; go_simp
            exact rfl
          · go_simp
            exact rfl
        iterate 6
          refine steady_val ?_ ?_ (by kernel_rfl) (fun W hS => ?_) ?_ ?_
          rotate_left 2
          · have d1 := (hS.cell (p := ⟨b, off + k * 3 + 1, none⟩) HHL.out).trans HD1.out; have hm := HM8.out; go_simp
            exact rfl
          · go_simp
            exact rfl
        iterate 4
          refine steady_val ?_ ?_ (by kernel_rfl) (fun W hS => ?_) ?_ ?_
          rotate_left 2
          · have du := (hS.cell (p := ⟨bu, offu + k, none⟩) HHU.out).trans HU0.out; go_simp
            exact rfl
          · go_simp
            exact rfl
        refine steady_enter (.int .u64 (putS jv qs (8 * qn) x)) 32 #[.int .u64 jv, .int .i64 qs, .int .i64 (8 * qn), .int .u64 x] ?_ (by kernel_rfl) (fun W hS => ?_) (fun W hS => (refPut_c _ _ _ _ _ HJR.out.1 HJR.out.2 HPB.out.1 HPB.out.2 HX.out.1 HX.out.2).mono fun e W' ⟨he, hb⟩ => ⟨he, hS.trans (hb.mono hS.size)⟩) ?_ ?_
        rotate_left 1
        · go_simp
        · go_simp
          exact rfl
        refine steady_val ?_ ?_ (by kernel_rfl) (fun W hS => ?_) ?_ ?_
        rotate_left 2
        · go_simp
          exact rfl
        · go_simp
          exact rfl
        refine steady_nil ?_
        intro w5 h5
        have H5 := Lib.hid h5
        clear h5
        go_wp2_with fail
        go_roundw
        case rel => exact ⟨k + 1, by omega, by go_num, by rw [HJ2.out], H5.out⟩
        case measure => simp [intOf]; omega
      · have HJ2 := Lib.hid (show joinS l us (k + 1) = jv from HJ.out.trans (if_neg (by rw [rightB_no h]; simp)))
        rw [rightB_no h]
        clear h
        go_wp2_with fail
        go_roundw
        case rel => exact ⟨k + 1, by omega, by go_num, by rw [HJ2.out], HBY.out⟩
        case measure => simp [intOf]; omega
    · obtain rfl : k = t := by omega
      by_cases hkl : k < l.length
      · have hku : ¬ k < us.length := by have := HT.out; omega
        have gl : decide ((k : Int) < ((l.length : Nat) : Int)) = true := by simpa using hkl
        have gl2 : decide (k < l.length) = true := by simpa using hkl
        have gu : decide ((k : Int) < ((us.length : Nat) : Int)) = false := by simpa using hku
        have gu2 : decide (k < us.length) = false := by simpa using hku
        go_wp2_with fail
        go_ret
        exact ⟨sret_u (by rw [HT.out]), HBR.out⟩
      · have gl : decide ((k : Int) < ((l.length : Nat) : Int)) = false := by simpa using hkl
        have gl2 : decide (k < l.length) = false := by simpa using hkl
        go_wp2_with fail
        go_ret
        exact ⟨sret_u (by rw [HT.out]), HBR.out⟩
end Go.Proofs.Ytldpignnahokdaa
