/-
  CsrTells walked.
-/
import Derived.Test.YtkknfhbaldeigaaDoorCsrH
import Derived.Test.YtkknfhbaldeigaaDoorSteady
namespace Go.Proofs.YtkknfhbaldeigaaDoor
open Go.ChangeShapes Go.WideShapes Go.ChangeAt Go.RowKit Wd Csr

/-- What stands while CsrTells compares: the program's table, the reference's row. -/
structure TlS (w W : World) (b0 : Nat) (a : Int) (b : ByteArray) (m : Int) : Prop where
  r : RowsIn W
  c0 : W.cell? ⟨b0, 0, none⟩ = some (.int .i64 a)
  c1 : W.cell? ⟨b0, 1, none⟩ = some (.string b)
  c2 : W.cell? ⟨b0, 2, none⟩ = some (.int .u64 m)
  lt : b0 < W.heap.size
  bel : Below w.heap.size w W
theorem TlS.low {w W W' : World} {b0 : Nat} {a : Int} {b : ByteArray} {m : Int} (h : TlS w W b0 a b m) (hb : Below W.heap.size W W') : TlS w W' b0 a b m :=
  ⟨h.r.low hb, (hb.cell (p := ⟨b0, 0, none⟩) h.lt).trans h.c0, (hb.cell (p := ⟨b0, 1, none⟩) h.lt).trans h.c1, (hb.cell (p := ⟨b0, 2, none⟩) h.lt).trans h.c2, Nat.lt_of_lt_of_le h.lt hb.size, h.bel.trans (hb.mono h.bel.size)⟩
theorem TlS.drew {w W : World} {b0 : Nat} {a : Int} {b : ByteArray} {m : Int} (h : TlS w W b0 a b m) : TlS w W.drew b0 a b m := ⟨h.r, h.c0, h.c1, h.c2, h.lt, h.bel.drew⟩
set_option maxHeartbeats 4000000 in
set_option maxRecDepth 100000 in
theorem tells_walk (n p : Int) (s : ByteArray) (_hn : -9223372036854775808 ≤ n ∧ n ≤ 9223372036854775807) (_hp : -9223372036854775808 ≤ p ∧ p ≤ 9223372036854775807) (_hs : s.size ≤ maxLen) (w : World) (hN : RowsIn w) :
    Calls Tryd.prog 3 #[.int .i64 n, .int .i64 p, .string s] w fun e w' => e = .returned (.bool true) ∧ Below w.heap.size w w' := by
  have HN := Lib.hid hN
  have HL := Lib.hid (fun W h => live19_c W h)
  by_cases hl : 50 < s.size
  · have el : decide (50 < (s.size : Int)) = true := by simp; omega
    unfold maxLen at _hs
    clear hN _hn _hp
    go_enter Tryd.func3, Tryd.ntmps3
    go_wp2_with fail
    refine (HL.out _ HN.out).mono ?_
    rintro e w1 ⟨rfl, hb⟩
    have HB1 := Lib.hid hb
    clear hb
    go_wp2_with fail
    go_ret
    exact ⟨rfl, HB1.out⟩
  · have el : decide (50 < (s.size : Int)) = false := by simp; omega
    clear hN _hn _hp _hs hl
    have HO := Lib.hid (fun W => rof_c n W)
    have HFn := Lib.hid (fun W h => cfindn_c s W h)
    have HRn := Lib.hid (fun W => rnum_c s W)
    have HK := Lib.hid (fun W h => known_c n W h)
    have HNm := Lib.hid (fun W h => cname_c n W h)
    have HMk := Lib.hid (fun W h => cmask_c n W h)
    obtain ⟨a, b, m, hv, hk, hm, hbb⟩ := of_parts n
    have HLe := Lib.hid (fun W h => cleast_c n W h)
    have HRl := Lib.hid (fun W => rleast_c n W)
    have HRo := Lib.hid (fun W h => cro_c n W h)
    have HRr := Lib.hid (fun W => rro_c n W)
    have HM0 := Lib.hid (fun W h => cmay_c n p false W h)
    have HM1 := Lib.hid (fun W h => cmay_c n p true W h)
    have HR0 := Lib.hid (fun W => rmay_c n p false W)
    have HR1 := Lib.hid (fun W => rmay_c n p true W)
    rw [hv] at HO
    rw [← hm] at HMk
    rw [← hbb] at HNm
    clear hv hm hbb
    generalize known n = k at *
    generalize leastC n = l at *
    generalize roC n = ro at *
    generalize mayC n p false = m0 at *
    generalize mayC n p true = m1 at *
    generalize hz : (numC s != 0) = z at *
    generalize numC s = x at *
    have hk' : (a != 0) = k := hk.symm
    have q1 : (k == k) = true := by simp
    have q2 : (b.toList == b.toList) = true := by simp
    have q3 : (m == m) = true := by simp
    have q4 : (x == x) = true := by simp
    have q5 : (z == z) = true := by simp
    have q6 : (ro == ro) = true := by simp
    have q7 : (m0 == m0) = true := by simp
    have q8 : (m1 == m1) = true := by simp
    have q9 : (l == l) = true := by simp
    clear hk
    go_enter Tryd.func3, Tryd.ntmps3
    go_wp2_with fail
    refine (HO.out _).mono ?_
    rintro e w1 ⟨rfl, hb⟩
    have HB1 := Lib.hid hb
    clear hb
    go_wp2_with fail
    have hS : TlS w (w1.alloc (.cells #[.int .i64 a, .string b, .int .u64 m] RrT)) w1.heap.size a b m := by
      have hr := CsAt.new w1 RrT #[.int .i64 a, .string b, .int .u64 m]
      exact ⟨(HN.out.low HB1.out).low ((Below.refl _ _).alloc (Nat.le_refl _) _), hr.cell 0, hr.cell 1, hr.cell 2, hr.lt, HB1.out.alloc HB1.out.size _⟩
    generalize w1.alloc (.cells #[.int .i64 a, .string b, .int .u64 m] RrT) = w2 at *
    have HS := Lib.hid hS
    clear hS
    refine (HFn.out _ HS.out.r).mono ?_
    rintro e w3 ⟨rfl, hb⟩
    have HS3 := Lib.hid (HS.out.low hb)
    clear hb HS
    go_wp2_with fail
    refine (HRn.out _).mono ?_
    rintro e w4 ⟨rfl, hb⟩
    have HS := Lib.hid (HS3.out.low hb)
    clear hb HS3
    go_upto_region 6 with fail
    refine wp_region_steady (fun W => TlS w W w1.heap.size a b m) (by kernel_rfl) (by kernel_rfl) HS.out.drew ?_
    refine steady_val ?_ ?_ (by kernel_rfl) (fun W hS => ?_) ?_ ?_
    rotate_left 2
    · go_simp
      exact rfl
    · go_simp
      exact rfl
    refine steady_enter (.bool k) 12 #[.int .i64 n] ?_ (by kernel_rfl) (fun W hS => ?_) (fun W hS => (HK.out W hS.r).mono (by rintro e w' ⟨rfl, hb⟩; exact ⟨rfl, hS.low hb⟩)) ?_ ?_
    rotate_left 1
    · go_simp
    · go_simp
      exact rfl
    refine steady_val ?_ ?_ (by kernel_rfl) (fun W hS => ?_) ?_ ?_
    rotate_left 2
    · go_simp
      exact rfl
    · go_simp
      exact rfl
    refine steady_val ?_ ?_ (by kernel_rfl) (fun W hS => ?_) ?_ ?_
    rotate_left 2
    · have q := hS.c0; go_simp
      exact rfl
    · go_simp
      exact rfl
    iterate 3
      refine steady_val ?_ ?_ (by kernel_rfl) (fun W hS => ?_) ?_ ?_
      rotate_left 2
      · go_simp
        exact rfl
      · go_simp
        exact rfl
    refine steady_val ?_ ?_ (by kernel_rfl) (fun W hS => ?_) ?_ ?_
    rotate_left 2
    · go_simp
      exact rfl
    · go_simp
      exact rfl
    refine steady_enter (.string b) 13 #[.int .i64 n] ?_ (by kernel_rfl) (fun W hS => ?_) (fun W hS => (HNm.out W hS.r).mono (by rintro e w' ⟨rfl, hb⟩; exact ⟨rfl, hS.low hb⟩)) ?_ ?_
    rotate_left 1
    · go_simp
    · go_simp
      exact rfl
    refine steady_val ?_ ?_ (by kernel_rfl) (fun W hS => ?_) ?_ ?_
    rotate_left 2
    · go_simp
      exact rfl
    · go_simp
      exact rfl
    refine steady_val ?_ ?_ (by kernel_rfl) (fun W hS => ?_) ?_ ?_
    rotate_left 2
    · have q := hS.c1; go_simp
      exact rfl
    · go_simp
      exact rfl
    iterate 3
      refine steady_val ?_ ?_ (by kernel_rfl) (fun W hS => ?_) ?_ ?_
      rotate_left 2
      · go_simp
        exact rfl
      · go_simp
        exact rfl
    refine steady_val ?_ ?_ (by kernel_rfl) (fun W hS => ?_) ?_ ?_
    rotate_left 2
    · go_simp
      exact rfl
    · go_simp
      exact rfl
    refine steady_enter (.int .u64 m) 14 #[.int .i64 n] ?_ (by kernel_rfl) (fun W hS => ?_) (fun W hS => (HMk.out W hS.r).mono (by rintro e w' ⟨rfl, hb⟩; exact ⟨rfl, hS.low hb⟩)) ?_ ?_
    rotate_left 1
    · go_simp
    · go_simp
      exact rfl
    refine steady_val ?_ ?_ (by kernel_rfl) (fun W hS => ?_) ?_ ?_
    rotate_left 2
    · go_simp
      exact rfl
    · go_simp
      exact rfl
    refine steady_val ?_ ?_ (by kernel_rfl) (fun W hS => ?_) ?_ ?_
    rotate_left 2
    · have q := hS.c2; go_simp
      exact rfl
    · go_simp
      exact rfl
    iterate 3
      refine steady_val ?_ ?_ (by kernel_rfl) (fun W hS => ?_) ?_ ?_
      rotate_left 2
      · go_simp
        exact rfl
      · go_simp
        exact rfl
    iterate 10
      refine steady_val ?_ ?_ (by kernel_rfl) (fun W hS => ?_) ?_ ?_
      rotate_left 2
      · go_simp
        exact rfl
      · go_simp
        exact rfl
    refine steady_nil ?_
    intro W hS
    have HS5 := Lib.hid hS
    clear hS HS
    go_wp2_with fail
    refine (HLe.out _ HS5.out.r).mono ?_
    rintro e w5 ⟨rfl, hb⟩
    have HS6 := Lib.hid (HS5.out.low hb)
    clear hb
    go_wp2_with fail
    refine (HRl.out _).mono ?_
    rintro e w6 ⟨rfl, hb⟩
    have HS7 := Lib.hid (HS6.out.low hb)
    clear hb
    go_wp2_with fail
    refine (HRo.out _ HS7.out.r).mono ?_
    rintro e w7 ⟨rfl, hb⟩
    have HS8 := Lib.hid (HS7.out.low hb)
    clear hb
    go_wp2_with fail
    refine (HRr.out _).mono ?_
    rintro e w8 ⟨rfl, hb⟩
    have HS9 := Lib.hid (HS8.out.low hb)
    clear hb
    go_wp2_with fail
    refine (HM0.out _ HS9.out.r).mono ?_
    rintro e w9 ⟨rfl, hb⟩
    have HSa := Lib.hid (HS9.out.low hb)
    clear hb
    go_wp2_with fail
    refine (HR0.out _).mono ?_
    rintro e w10 ⟨rfl, hb⟩
    have HSb := Lib.hid (HSa.out.low hb)
    clear hb
    go_wp2_with fail
    refine (HM1.out _ HSb.out.r).mono ?_
    rintro e w11 ⟨rfl, hb⟩
    have HSc := Lib.hid (HSb.out.low hb)
    clear hb
    go_wp2_with fail
    refine (HR1.out _).mono ?_
    rintro e w12 ⟨rfl, hb⟩
    have HSd := Lib.hid (HSc.out.low hb)
    clear hb
    go_wp2_with fail
    refine (HL.out _ HSd.out.r).mono ?_
    rintro e w13 ⟨rfl, hb⟩
    have HSe := Lib.hid (HSd.out.low hb)
    clear hb
    go_wp2_with fail
    go_ret
    exact ⟨rfl, HSe.out.bel⟩
end Go.Proofs.YtkknfhbaldeigaaDoor
