/-
  StatusViews walked; what is asked, opened.
-/
import Derived.Test.YtkknfhbaldeigaaDoorStaE
import Derived.Test.YtkknfhbaldeigaaDoorStaF
import Derived.Test.YtkknfhbaldeigaaDoorStaG
import Derived.OpenShut
namespace Go.Proofs.YtkknfhbaldeigaaDoor
open Go.ChangeShapes Go.WideShapes Go.ChangeAt Go.RowKit Wd Csr Sta

/-- What stands while StatusViews compares: the program's table, what is asked. -/
structure AsS (w W : World) (b0 : Nat) (p dst : Int) (nm : ByteArray) : Prop where
  r : RowsIn W
  c0 : W.cell? ⟨b0, 0, none⟩ = some (.int .i64 p)
  c1 : W.cell? ⟨b0, 1, none⟩ = some (.int .i64 dst)
  c2 : W.cell? ⟨b0, 2, none⟩ = some (.string nm)
  lt : b0 < W.heap.size
  bel : Below w.heap.size w W
theorem AsS.low {w W W' : World} {b0 : Nat} {p dst : Int} {nm : ByteArray} (h : AsS w W b0 p dst nm) (hb : Below W.heap.size W W') : AsS w W' b0 p dst nm :=
  ⟨h.r.low hb, (hb.cell (p := ⟨b0, 0, none⟩) h.lt).trans h.c0, (hb.cell (p := ⟨b0, 1, none⟩) h.lt).trans h.c1, (hb.cell (p := ⟨b0, 2, none⟩) h.lt).trans h.c2, Nat.lt_of_lt_of_le h.lt hb.size, h.bel.trans (hb.mono h.bel.size)⟩
theorem AsS.drew {w W : World} {b0 : Nat} {p dst : Int} {nm : ByteArray} (h : AsS w W b0 p dst nm) : AsS w W.drew b0 p dst nm := ⟨h.r, h.c0, h.c1, h.c2, h.lt, h.bel.drew⟩
theorem AsS.new (w : World) (hN : RowsIn w) (p dst : Int) (nm : ByteArray) : AsS w (w.alloc (.cells #[.int .i64 p, .int .i64 dst, .string nm] 48)) w.heap.size p dst nm := by
  have hr := CsAt.new w 48 #[.int .i64 p, .int .i64 dst, .string nm]
  have hb : Below w.heap.size w (w.alloc (.cells #[.int .i64 p, .int .i64 dst, .string nm] 48)) := (Below.refl _ _).alloc (Nat.le_refl _) _
  exact ⟨hN.low hb, hr.cell 0, hr.cell 1, hr.cell 2, hr.lt, hb⟩
set_option maxHeartbeats 4000000 in
set_option maxRecDepth 100000 in
theorem views_walk (x v p dst : Int) (nm : ByteArray) (hx0 : 0 ≤ x ∧ x ≤ 18446744073709551615) (hv0 : 0 ≤ v ∧ v ≤ 18446744073709551615) (_hs : nm.size ≤ maxLen) (w : World) (hN : RowsIn w) :
    Calls Tryd.prog 6 #[.int .u64 x, .int .u64 v, .agg #[.int .i64 p, .int .i64 dst, .string nm]] w fun e w' => e = .returned (.bool true) ∧ Below w.heap.size w w' := by
  have hx : W64 x := by unfold W64; omega
  have hv : W64 v := by unfold W64; omega
  have HS := Lib.hid (AsS.new w hN p dst nm)
  have HLv := Lib.hid (fun W => live20_c W)
  by_cases hl : 30 < nm.size
  · have el : decide (30 < (nm.size : Int)) = true := by simp; omega
    unfold maxLen at _hs
    clear hN hx0 hv0
    go_enter Tryd.func6, Tryd.ntmps6
    go_wp2_with fail
    refine (HLv.out _).mono ?_
    rintro e w1 ⟨rfl, hb⟩
    have HB1 := Lib.hid (HS.out.low hb)
    clear hb
    go_wp2_with fail
    go_ret
    exact ⟨rfl, HB1.out.bel⟩
  · have el : decide (30 < (nm.size : Int)) = false := by simp; omega
    have HV := Lib.hid (fun W => view_c x W)
    have HRV := Lib.hid (fun W => rview_c x hx W)
    have HY := Lib.hid (fun W h => lay_c x v hx hv W h)
    have HRY := Lib.hid (fun W => rlay_c x v hx hv W)
    have HD := Lib.hid (fun W => data_c x p hx W)
    have HRD := Lib.hid (fun W => rdata_c x p hx W)
    have HL := Lib.hid (fun W => lets_c x p dst hx W)
    have HRL := Lib.hid (fun W => rlets_c x p dst hx W)
    have HH := Lib.hid (fun W => has_c x hx nm W)
    have HG := Lib.hid (fun W => rget_c x hx nm W)
    unfold hasS at HH
    clear hN hx0 hv0 _hs hl hx hv
    generalize viewS x = vw at *
    generalize legS 256 x v = z at *
    generalize dataS x p = d at *
    generalize letsS x p dst = l at *
    generalize bi (tbI x (atI nm)) = g at *
    generalize hg : (g == 1) = hh at *
    have q1 : (vw == vw) = true := by simp
    have q2 : (z == z) = true := by simp
    have q3 : (d == d) = true := by simp
    have q4 : (l == l) = true := by simp
    have q5 : (hh == hh) = true := by simp
    go_enter Tryd.func6, Tryd.ntmps6
    go_upto_region 1 with (fail)
    generalize w.alloc (.cells #[.int .i64 p, .int .i64 dst, .string nm] 48) = w1 at *
    have k2 := HS.out.c2
    go_upto_region 3 with fail
    clear k2
    refine wp_region_steady (fun W => AsS w W w.heap.size p dst nm) (by kernel_rfl) (by kernel_rfl) HS.out.drew ?_
    refine steady_val ?_ ?_ (by kernel_rfl) (fun W hS => ?_) ?_ ?_
    rotate_left 2
    · go_simp
      exact rfl
    · go_simp
      exact rfl
    refine steady_enter (.int .u64 vw) 27 #[.int .u64 x] ?_ (by kernel_rfl) (fun W hS => ?_) (fun W hS => (HV.out W).mono (by rintro e w' ⟨rfl, rfl⟩; exact ⟨rfl, hS⟩)) ?_ ?_
    rotate_left 1
    · go_simp
    · go_simp
      exact rfl
    refine steady_val ?_ ?_ (by kernel_rfl) (fun W hS => ?_) ?_ ?_
    rotate_left 2
    · go_simp
      exact rfl
    · go_simp
      exact rfl
    refine steady_enter (.int .u64 vw) 28 #[.int .u64 x] ?_ (by kernel_rfl) (fun W hS => ?_) (fun W hS => (HRV.out W).mono (by rintro e w' ⟨rfl, hb⟩; exact ⟨rfl, hS.low hb⟩)) ?_ ?_
    rotate_left 1
    · go_simp
    · go_simp
      exact rfl
    iterate 4
      refine steady_val ?_ ?_ (by kernel_rfl) (fun W hS => ?_) ?_ ?_
      rotate_left 2
      · go_simp
        exact rfl
      · go_simp
        exact rfl
    refine steady_enter (.int .u64 z) 29 #[.int .u64 x, .int .u64 v] ?_ (by kernel_rfl) (fun W hS => ?_) (fun W hS => (HY.out W hS.r).mono (by rintro e w' ⟨rfl, hb⟩; exact ⟨rfl, hS.low hb⟩)) ?_ ?_
    rotate_left 1
    · go_simp
    · go_simp
      exact rfl
    iterate 2
      refine steady_val ?_ ?_ (by kernel_rfl) (fun W hS => ?_) ?_ ?_
      rotate_left 2
      · go_simp
        exact rfl
      · go_simp
        exact rfl
    refine steady_enter (.int .u64 z) 30 #[.int .u64 x, .int .u64 v] ?_ (by kernel_rfl) (fun W hS => ?_) (fun W hS => (HRY.out W).mono (by rintro e w' ⟨rfl, hb⟩; exact ⟨rfl, hS.low hb⟩)) ?_ ?_
    rotate_left 1
    · go_simp
    · go_simp
      exact rfl
    iterate 5
      refine steady_val ?_ ?_ (by kernel_rfl) (fun W hS => ?_) ?_ ?_
      rotate_left 2
      · go_simp
        exact rfl
      · go_simp
        exact rfl
    refine steady_val ?_ ?_ (by kernel_rfl) (fun W hS => ?_) ?_ ?_
    rotate_left 2
    · have q := hS.c0; go_simp
      exact rfl
    · go_simp
      exact rfl
    refine steady_enter (.int .i64 d) 31 #[.int .u64 x, .int .i64 p] ?_ (by kernel_rfl) (fun W hS => ?_) (fun W hS => (HD.out W).mono (by rintro e w' ⟨rfl, hb⟩; exact ⟨rfl, hS.low hb⟩)) ?_ ?_
    rotate_left 1
    · go_simp
    · go_simp
      exact rfl
    iterate 2
      refine steady_val ?_ ?_ (by kernel_rfl) (fun W hS => ?_) ?_ ?_
      rotate_left 2
      · go_simp
        exact rfl
      · go_simp
        exact rfl
    refine steady_val ?_ ?_ (by kernel_rfl) (fun W hS => ?_) ?_ ?_
    rotate_left 2
    · have q := hS.c0; go_simp
      exact rfl
    · go_simp
      exact rfl
    refine steady_enter (.int .i64 d) 32 #[.int .u64 x, .int .i64 p] ?_ (by kernel_rfl) (fun W hS => ?_) (fun W hS => (HRD.out W).mono (by rintro e w' ⟨rfl, hb⟩; exact ⟨rfl, hS.low hb⟩)) ?_ ?_
    rotate_left 1
    · go_simp
    · go_simp
      exact rfl
    iterate 2
      refine steady_val ?_ ?_ (by kernel_rfl) (fun W hS => ?_) ?_ ?_
      rotate_left 2
      · go_simp
        exact rfl
      · go_simp
        exact rfl
    refine steady_nil ?_
    intro W hS
    have HS5 := Lib.hid hS
    clear hS HS
    go_upto_region 5 with fail
    refine wp_region_steady (fun W => AsS w W w.heap.size p dst nm) (by kernel_rfl) (by kernel_rfl) HS5.out.drew ?_
    iterate 2
      refine steady_val ?_ ?_ (by kernel_rfl) (fun W hS => ?_) ?_ ?_
      rotate_left 2
      · go_simp
        exact rfl
      · go_simp
        exact rfl
    refine steady_val ?_ ?_ (by kernel_rfl) (fun W hS => ?_) ?_ ?_
    rotate_left 2
    · have q := hS.c0; go_simp
      exact rfl
    · go_simp
      exact rfl
    refine steady_val ?_ ?_ (by kernel_rfl) (fun W hS => ?_) ?_ ?_
    rotate_left 2
    · go_simp
      exact rfl
    · go_simp
      exact rfl
    refine steady_val ?_ ?_ (by kernel_rfl) (fun W hS => ?_) ?_ ?_
    rotate_left 2
    · have q := hS.c1; go_simp
      exact rfl
    · go_simp
      exact rfl
    refine steady_enter (.bool l) 33 #[.int .u64 x, .int .i64 p, .int .i64 dst] ?_ (by kernel_rfl) (fun W hS => ?_) (fun W hS => (HL.out W).mono (by rintro e w' ⟨rfl, hb⟩; exact ⟨rfl, hS.low hb⟩)) ?_ ?_
    rotate_left 1
    · go_simp
    · go_simp
      exact rfl
    iterate 2
      refine steady_val ?_ ?_ (by kernel_rfl) (fun W hS => ?_) ?_ ?_
      rotate_left 2
      · go_simp
        exact rfl
      · go_simp
        exact rfl
    refine steady_val ?_ ?_ (by kernel_rfl) (fun W hS => ?_) ?_ ?_
    rotate_left 2
    · have q := hS.c0; go_simp
      exact rfl
    · go_simp
      exact rfl
    refine steady_val ?_ ?_ (by kernel_rfl) (fun W hS => ?_) ?_ ?_
    rotate_left 2
    · go_simp
      exact rfl
    · go_simp
      exact rfl
    refine steady_val ?_ ?_ (by kernel_rfl) (fun W hS => ?_) ?_ ?_
    rotate_left 2
    · have q := hS.c1; go_simp
      exact rfl
    · go_simp
      exact rfl
    refine steady_enter (.bool l) 34 #[.int .u64 x, .int .i64 p, .int .i64 dst] ?_ (by kernel_rfl) (fun W hS => ?_) (fun W hS => (HRL.out W).mono (by rintro e w' ⟨rfl, rfl⟩; exact ⟨rfl, hS⟩)) ?_ ?_
    rotate_left 1
    · go_simp
    · go_simp
      exact rfl
    iterate 4
      refine steady_val ?_ ?_ (by kernel_rfl) (fun W hS => ?_) ?_ ?_
      rotate_left 2
      · go_simp
        exact rfl
      · go_simp
        exact rfl
    refine steady_val ?_ ?_ (by kernel_rfl) (fun W hS => ?_) ?_ ?_
    rotate_left 2
    · have q := hS.c2; go_simp
      exact rfl
    · go_simp
      exact rfl
    refine steady_enter (.bool hh) 35 #[.int .u64 x, .string nm] ?_ (by kernel_rfl) (fun W hS => ?_) (fun W hS => (HH.out W).mono (by rintro e w' ⟨rfl, hb⟩; exact ⟨rfl, hS.low hb⟩)) ?_ ?_
    rotate_left 1
    · go_simp
    · go_simp
      exact rfl
    iterate 2
      refine steady_val ?_ ?_ (by kernel_rfl) (fun W hS => ?_) ?_ ?_
      rotate_left 2
      · go_simp
        exact rfl
      · go_simp
        exact rfl
    refine steady_val ?_ ?_ (by kernel_rfl) (fun W hS => ?_) ?_ ?_
    rotate_left 2
    · have q := hS.c2; go_simp
      exact rfl
    · go_simp
      exact rfl
    refine steady_enter (.int .u64 g) 36 #[.int .u64 x, .string nm] ?_ (by kernel_rfl) (fun W hS => ?_) (fun W hS => (HG.out W).mono (by rintro e w' ⟨rfl, rfl⟩; exact ⟨rfl, hS⟩)) ?_ ?_
    rotate_left 1
    · go_simp
    · go_simp
      exact rfl
    iterate 4
      refine steady_val ?_ ?_ (by kernel_rfl) (fun W hS => ?_) ?_ ?_
      rotate_left 2
      · go_simp
        exact rfl
      · go_simp
        exact rfl
    refine steady_enter (.bool true) 26 #[] ?_ (by kernel_rfl) (fun W hS => ?_) (fun W hS => (HLv.out W).mono (by rintro e w' ⟨rfl, hb⟩; exact ⟨rfl, hS.low hb⟩)) ?_ ?_
    rotate_left 1
    · go_simp
    · go_simp
      exact rfl
    iterate 2
      refine steady_val ?_ ?_ (by kernel_rfl) (fun W hS => ?_) ?_ ?_
      rotate_left 2
      · go_simp
        exact rfl
      · go_simp
        exact rfl
    refine steady_nil ?_
    intro W2 hS
    have HS7 := Lib.hid hS
    clear hS HS5
    go_wp2_with fail
    go_ret
    exact ⟨rfl, HS7.out.bel⟩
theorem kq_int : Tryd.prog.cellsOf 3 = 1 := by kernel_rfl
theorem kq_str : Tryd.prog.cellsOf 9 = 1 := by kernel_rfl
theorem kq_as : Tryd.prog.cellsOf 48 = 3 := by kernel_rfl
section
variable {H : Type} {enc : TypeId × Value → H} {w : World} {base : Nat} {spare : Nat → Bool} {held : Bool}
theorem open_As {r : Reach} {b0 : Nat} {v : Value} {d : DataW H} {ps : List MemPlace} (hval : Value.okWide Tryd.prog w r b0 48 v) (hd : DataW.Trod enc Tryd.prog w base spare held 48 v d ps) :
    ∃ (p dst : Int) (nm : ByteArray), v = .agg #[.int .i64 p, .int .i64 dst, .string nm] ∧ nm.size ≤ maxLen := by
  simp only [Value.okWide, Tryd.underlying48] at hval
  obtain ⟨cs, rfl, hsz, _⟩ := hval
  obtain ⟨fuel, hf⟩ := hd
  rw [kq_as] at hsz
  have hlen : cs.toList.length = 3 := by simpa using hsz
  have hf' : DataW.trod enc Tryd.prog w base spare held fuel 48 cs.toList = some (d, ps) := hf
  have key : ∃ (p dst : Int) (nm : ByteArray), cs.toList = [.int .i64 p, .int .i64 dst, .string nm] ∧ nm.size ≤ maxLen := by
    generalize cs.toList = l at *
    obtain ⟨xs, nn, _, hx, _, hxl, hg⟩ := DataW.trod_struct Tryd.underlying48 hf'
    have h0 := hg 0 _ rfl
    have h1 := hg 1 _ rfl
    have h2 := hg 2 _ rfl
    match xs, hxl with
    | [x0, x1, x2], _ =>
      change DataW.trod enc Tryd.prog w base spare held nn 3 (List.take (Tryd.prog.cellsOf 3) (List.drop 0 _)) = some x0 at h0
      rw [kq_int] at h0
      change DataW.trod enc Tryd.prog w base spare held nn 3 (List.take (Tryd.prog.cellsOf 3) (List.drop 1 _)) = some x1 at h1
      rw [kq_int] at h1
      change DataW.trod enc Tryd.prog w base spare held nn 9 (List.take (Tryd.prog.cellsOf 9) (List.drop 2 _)) = some x2 at h2
      rw [kq_str] at h2
      match l, hlen with
      | [v0, v1, v2], _ =>
        simp only [List.drop_zero, List.drop_succ_cons, List.take_succ_cons, List.take_zero] at h0 h1 h2
        obtain ⟨a, p0, -, -⟩ := DataW.trod_int Tryd.underlying3 h0
        simp only [List.cons.injEq, and_true] at p0
        obtain ⟨m, p1, -, -⟩ := DataW.trod_int Tryd.underlying3 h1
        simp only [List.cons.injEq, and_true] at p1
        obtain ⟨s, p2, -, hs⟩ := DataW.trod_string Tryd.underlying9 h2
        simp only [List.cons.injEq, and_true] at p2
        subst p0 p1 p2
        exact ⟨a, m, s, rfl, hs⟩
  obtain ⟨p, dst, nm, hq, hs⟩ := key
  refine ⟨p, dst, nm, ?_, hs⟩
  congr 1
  exact Array.ext' hq
end
end Go.Proofs.YtkknfhbaldeigaaDoor
