/-
  The reference of layer 21: Rows, Name, Find, Word, Of, Exception.
-/
import Derived.Test.YtfjdalepaacmgaaDoorCauD
import Derived.Test.YtfjdalepaacmgaaDoorRefA
import Derived.Great.BuildSlice
set_option maxRecDepth 20000
namespace Go.Proofs.YtfjdalepaacmgaaDoor
open Go.ChangeShapes Go.WideShapes Go.ChangeAt Go.RowKit Wd Cau

abbrev RkT : TypeId := 96
abbrev RcT : TypeId := 26
theorem eql_rc (b c : Bool) {n m : Int} (hn : I64 n) (hm : I64 m) (w : World) : (binOp .eql RcT (.agg #[.bool b, .int .i64 n]) (.agg #[.bool c, .int .i64 m])).run Tryd.prog w = .ok (.bool ((b == c) && (n == m))) w := by
  rw [Eqf.beql w 6 (by omega) RcT [none, some .i64] (by kernel_rfl) (by kernel_rfl) _ _ (by kernel_rfl) (by kernel_rfl) (by simp [Eqf.okL, Eqf.okV, kwf hn]) (by simp [Eqf.okL, Eqf.okV, kwf hm])]
  simp [Eqf.eqL, Eqf.eqv]
theorem neq_rc (b c : Bool) {n m : Int} (hn : I64 n) (hm : I64 m) (w : World) : (binOp .neq RcT (.agg #[.bool b, .int .i64 n]) (.agg #[.bool c, .int .i64 m])).run Tryd.prog w = .ok (.bool (!((b == c) && (n == m)))) w := by
  rw [Eqf.bneq w 6 (by omega) RcT [none, some .i64] (by kernel_rfl) (by kernel_rfl) _ _ (by kernel_rfl) (by kernel_rfl) (by simp [Eqf.okL, Eqf.okV, kwf hn]) (by simp [Eqf.okL, Eqf.okV, kwf hm])]
  simp [Eqf.eqL, Eqf.eqv]
theorem guard_rc : Tryd.prog.eqGuardType Tryd.prog.depth RcT = false := by kernel_rfl
theorem info_rk : (Tryd.prog.info? RkT).map (fun i => (i.zero, i.size, i.bytes)) = some (some (.agg zNm), 3, 32) := by kernel_rfl
def rowV3 (r : RowK) : List Value := [.bool r.1, .int .i64 (r.2.1 : Nat), .string (kB r.2.2)]
abbrev rkCells : Array Value := (rowsK.flatMap rowV3).toArray
set_option maxHeartbeats 4000000 in
set_option maxRecDepth 1000000 in
theorem krows_c (w : World) : Calls Tryd.prog 47 #[] w fun e w' => e = .returned (.slice (some ⟨w.heap.size, 0, none⟩) 20 20) ∧ w.alloc (.cells rkCells RkT) = w' := by
  go_enter Tryd.func47, Tryd.ntmps47
  obtain ⟨i0, hi, hz0, hz1, hz2⟩ := info_parts info_rk
  go_upto_region 1 with fail
  apply wp_region_lit
  go_wp2_with (with_reducible refine Go.wpList_buildSlice rfl 93 RkT 20 _ rfl ((rowsK.flatMap rowV3).toArray) i0 (.agg zNm) Tryd.underlying93 hi hz0 (by rw [hz1]; decide) (by rw [hz1]; decide) (by rw [hz1]; kernel_rfl) ?_)
  go_ret
  exact ⟨rfl, rfl⟩
theorem kflat3 {α β : Type} (f : α → List β) (hf : ∀ x, (f x).length = 3) (l : List α) (k j : Nat) (hj : j < 3) (a : α) (ha : l[k]? = some a) : (l.flatMap f)[k * 3 + j]? = (f a)[j]? := by
  induction l generalizing k with
  | nil => simp at ha
  | cons x xs ih =>
    cases k with
    | zero =>
      simp at ha
      subst ha
      rw [List.flatMap_cons, List.getElem?_append_left (by rw [hf]; omega)]
      simp
    | succ k =>
      rw [List.flatMap_cons, List.getElem?_append_right (by rw [hf]; omega), hf]
      rw [show (k + 1) * 3 + j - 3 = k * 3 + j by omega]
      exact ih k (by simpa using ha)
/-- The reference's table in a block. -/
def RKAt (w : World) (g : Nat) : Prop := g < w.heap.size ∧ ∀ k, k < 20 → w.cell? ⟨g, k * 3, none⟩ = some (.bool (rowK k).1) ∧ w.cell? ⟨g, k * 3 + 1, none⟩ = some (.int .i64 ((rowK k).2.1 : Nat)) ∧ w.cell? ⟨g, k * 3 + 2, none⟩ = some (.string (kB (rowK k).2.2))
theorem RKAt.low {w w' : World} {g : Nat} (h : RKAt w g) (hb : Below w.heap.size w w') : RKAt w' g :=
  ⟨Nat.lt_of_lt_of_le h.1 hb.size, fun k hk => by
    obtain ⟨a, b, c⟩ := h.2 k hk
    exact ⟨(hb.cell (p := ⟨g, k * 3, none⟩) h.1).trans a, (hb.cell (p := ⟨g, k * 3 + 1, none⟩) h.1).trans b, (hb.cell (p := ⟨g, k * 3 + 2, none⟩) h.1).trans c⟩⟩
theorem rkAt_new (w : World) : RKAt (w.alloc (.cells rkCells RkT)) w.heap.size := by
  refine ⟨by simp, fun k hk => ?_⟩
  have h := rowK_get hk
  have c : ∀ j, j < 3 → (w.alloc (.cells rkCells RkT)).cell? ⟨w.heap.size, k * 3 + j, none⟩ = (rowV3 (rowK k))[j]? := by
    intro j hj
    rw [cell_of_row _ w.heap.size (k * 3 + j) rkCells RkT (0, 0) (heap_alloc_new w _)]
    rw [List.getElem?_toArray]
    exact kflat3 rowV3 (fun x => rfl) rowsK k j hj (rowK k) h
  exact ⟨c 0 (by omega), c 1 (by omega), c 2 (by omega)⟩
set_option maxHeartbeats 2000000 in
theorem krword_c (b : Bool) (n : Int) (w : World) : Calls Tryd.prog 14 #[.agg #[.bool b, .int .i64 n]] w fun e w' => e = .returned (.int .u64 (wordK b n)) ∧ Below w.heap.size w w' := by
  have hB : Below w.heap.size w (w.alloc (.cells #[.bool b, .int .i64 n] RcT)) := (Below.refl _ _).alloc (Nat.le_refl _) _
  have HB := Lib.hid hB
  clear hB
  by_cases h0 : 0 < n
  · have d0 : decide (0 < n) = true := by simp [h0]
    by_cases h1 : n < 64
    · have d1 : decide (n < 64) = true := by simp [h1]
      have HW := Lib.hid (show wordK b n = n + (if b then 9223372036854775808 else 0) by unfold wordK; rw [if_pos (by omega)])
      have hw : IntKind.u64.wrap n = n := by rw [IntKind.wrap_u64]; omega
      have hw2 : IntKind.u64.wrap (n + 9223372036854775808) = n + 9223372036854775808 := by rw [IntKind.wrap_u64]; omega
      clear h0 h1
      generalize wordK b n = z at *
      cases b
      · go_enter Tryd.func14, Tryd.ntmps14
        go_wp2_with fail
        go_ret
        exact ⟨by rw [HW.out]; simp, HB.out⟩
      · go_enter Tryd.func14, Tryd.ntmps14
        go_wp2_with fail
        go_ret
        exact ⟨by rw [HW.out]; rfl, HB.out⟩
    · have d1 : decide (n < 64) = false := by simp; omega
      have HW := Lib.hid (show wordK b n = (if b then 9223372036854775808 else 0) by unfold wordK; rw [if_neg (by omega)]; omega)
      clear h0 h1
      generalize wordK b n = z at *
      cases b
      all_goals
        go_enter Tryd.func14, Tryd.ntmps14
        go_wp2_with fail
        go_ret
        exact ⟨by rw [HW.out]; rfl, HB.out⟩
  · have d0 : decide (0 < n) = false := by simp; omega
    have HW := Lib.hid (show wordK b n = (if b then 9223372036854775808 else 0) by
      unfold wordK
      by_cases e : n = 0
      · subst e; simp
      · rw [if_neg (by omega)]; omega)
    clear h0
    generalize wordK b n = z at *
    cases b
    all_goals
      go_enter Tryd.func14, Tryd.ntmps14
      go_wp2_with fail
      go_ret
      exact ⟨by rw [HW.out]; rfl, HB.out⟩
/-- What stands while the reference's table is looked through: a box ahead of it, the table. -/
structure RkS (w W : World) (b : Bool) (n : Int) : Prop where
  r : RKAt W (w.heap.size + 1)
  z0 : W.cell? ⟨w.heap.size, 0, none⟩ = some (.bool b)
  z1 : W.cell? ⟨w.heap.size, 1, none⟩ = some (.int .i64 n)
  f : W.frozen? ⟨w.heap.size, 0, none⟩ = false ∧ W.frozen? ⟨w.heap.size, 1, none⟩ = false
  c : CsAt W w.heap.size RcT #[.bool b, .int .i64 n]
  bel : Below w.heap.size w W
theorem RkS.low {w W W' : World} {b : Bool} {n : Int} (h : RkS w W b n) (hb : Below W.heap.size W W') : RkS w W' b n :=
  ⟨h.r.low hb, (h.c.low hb).cell 0, (h.c.low hb).cell 1, ⟨(h.c.low hb).frozen 0, (h.c.low hb).frozen 1⟩, h.c.low hb, h.bel.trans (hb.mono h.bel.size)⟩
theorem RkS.drew {w W : World} {b : Bool} {n : Int} (h : RkS w W b n) : RkS w W.drew b n := ⟨h.r, h.z0, h.z1, h.f, h.c, h.bel.drew⟩
theorem RkS.new (w : World) (b : Bool) (n : Int) : RkS w ((w.alloc (.cells #[.bool b, .int .i64 n] RcT)).alloc (.cells rkCells RkT)) b n := by
  have hr := rkAt_new (w.alloc (.cells #[.bool b, .int .i64 n] RcT))
  simp only [World.size_alloc] at hr
  have hz : CsAt ((w.alloc (.cells #[.bool b, .int .i64 n] RcT)).alloc (.cells rkCells RkT)) w.heap.size RcT #[.bool b, .int .i64 n] := (CsAt.new w RcT _).alloc _
  exact ⟨hr, hz.cell 0, hz.cell 1, ⟨hz.frozen 0, hz.frozen 1⟩, hz, ((Below.refl _ _).alloc (Nat.le_refl _) _).alloc (by simp) _⟩
set_option maxHeartbeats 4000000 in
theorem krname_c (b : Bool) (n : Int) (hn : I64 n) (w : World) : Calls Tryd.prog 11 #[.agg #[.bool b, .int .i64 n]] w fun e w' => e = .returned (.string (kB ((fstK (isC b n)).getD noK).2.2)) ∧ Below w.heap.size w w' := by
  have HE := Lib.hid (fun (c : Bool) (m : Int) (hm : I64 m) W => eql_rc c b hm hn W)
  clear hn
  go_enter Tryd.func11, Tryd.ntmps11
  go_wp2_with fail
  refine (krows_c _).mono ?_
  rintro e w1 ⟨rfl, rfl⟩
  have HS0 := Lib.hid (RkS.new w b n)
  generalize ((w.alloc (.cells #[.bool b, .int .i64 n] RcT)).alloc (.cells rkCells RkT)) = w2 at *
  go_wp2_with fail
  go_loopw [4] (fun i wr => ∃ k : Nat, k ≤ 20 ∧ i = .int .i64 k ∧ (∀ j, j < k → isC b n (rowK j) = false) ∧ RkS w wr b n) (fun i _ => 20 - (intOf i).toNat)
  case atStart => exact ⟨0, by omega, rfl, fun j h => by omega, HS0.out⟩
  case round =>
    obtain ⟨k, hk, rfl, hn, hS⟩ := hrel
    have HN := Lib.hid hn
    have HS := Lib.hid hS
    clear hn hS HS0
    by_cases hlt : k < 20
    · have hl2 : (k : Int) < 20 := by omega
      have HX := Lib.hid (fun W (hS : RkS w W b n) => hS.r.2 k hlt)
      have HI := Lib.hid (code_i64 k hlt)
      have HH := Lib.hid (fun h => kfst_hit (p := isC b n) hlt HN.out h)
      generalize hrk : rowK k = r at *
      have HRK := Lib.hid hrk
      clear hrk
      have hpe : isC b n r = ((r.1 == b) && (((r.2.1 : Nat) : Int) == n)) := rfl
      cases hp : isC b n r
      · have HP := Lib.hid (hpe.symm.trans hp)
        have HQ := Lib.hid hp
        clear hp hpe HH
        generalize r.1 = a at *
        generalize ((r.2.1 : Nat) : Int) = m at *
        generalize kB r.2.2 = s at *
        go_upto_region 5 with fail
        refine wp_region_steady (fun W => RkS w W b n) (by kernel_rfl) (by kernel_rfl) HS.out.drew ?_
        iterate 2
          refine steady_val ?_ ?_ (by kernel_rfl) (fun W hS => ?_) ?_ ?_
          rotate_left 2
          · go_simp
            exact rfl
          · go_simp
            exact rfl
        iterate 2
          refine steady_val ?_ ?_ (by kernel_rfl) (fun W hS => ?_) ?_ ?_
          rotate_left 2
          · go_simp
            exact rfl
          · go_simp
            exact rfl
        refine steady_val ?_ ?_ (by kernel_rfl) (fun W hS => ?_) ?_ ?_
        rotate_left 2
        · obtain ⟨c0, c1, c2⟩ := HX.out W hS; go_simp
          exact rfl
        · go_simp
          exact rfl
        refine steady_val ?_ ?_ (by kernel_rfl) (fun W hS => ?_) ?_ ?_
        rotate_left 2
        · have z0 := hS.z0; have z1 := hS.z1; go_simp
          exact rfl
        · go_simp
          exact rfl
        refine steady_val (.bool false) ?_ (by kernel_rfl) (fun W hS => exec_cmp .eql 26 _ _ _ rfl #[.bool a, .int .i64 m] #[.bool b, .int .i64 n] rfl rfl guard_rc _ ((HE.out a m HI.out W).trans (by rw [HP.out]))) ?_ ?_
        rotate_left 1
        · go_simp
          exact rfl
        refine steady_nil ?_
        intro W hS
        have HS2 := Lib.hid hS
        clear hS
        go_wp2_with fail
        go_roundw
        case rel => exact ⟨k + 1, by omega, by go_num, fun i hi => if e : i = k then by rw [e, HRK.out]; exact HQ.out else HN.out i (by omega), HS2.out⟩
        case measure => simp [intOf]; omega
      · have HP := Lib.hid (hpe.symm.trans hp)
        have HF := Lib.hid (show kB ((fstK (isC b n)).getD noK).2.2 = kB r.2.2 by rw [HH.out hp]; rfl)
        clear hp hpe HH
        generalize r.1 = a at *
        generalize ((r.2.1 : Nat) : Int) = m at *
        generalize kB r.2.2 = s at *
        go_upto_region 5 with fail
        refine wp_region_steady (fun W => RkS w W b n) (by kernel_rfl) (by kernel_rfl) HS.out.drew ?_
        iterate 2
          refine steady_val ?_ ?_ (by kernel_rfl) (fun W hS => ?_) ?_ ?_
          rotate_left 2
          · go_simp
            exact rfl
          · go_simp
            exact rfl
        iterate 2
          refine steady_val ?_ ?_ (by kernel_rfl) (fun W hS => ?_) ?_ ?_
          rotate_left 2
          · go_simp
            exact rfl
          · go_simp
            exact rfl
        refine steady_val ?_ ?_ (by kernel_rfl) (fun W hS => ?_) ?_ ?_
        rotate_left 2
        · obtain ⟨c0, c1, c2⟩ := HX.out W hS; go_simp
          exact rfl
        · go_simp
          exact rfl
        refine steady_val ?_ ?_ (by kernel_rfl) (fun W hS => ?_) ?_ ?_
        rotate_left 2
        · have z0 := hS.z0; have z1 := hS.z1; go_simp
          exact rfl
        · go_simp
          exact rfl
        refine steady_val (.bool true) ?_ (by kernel_rfl) (fun W hS => exec_cmp .eql 26 _ _ _ rfl #[.bool a, .int .i64 m] #[.bool b, .int .i64 n] rfl rfl guard_rc _ ((HE.out a m HI.out W).trans (by rw [HP.out]))) ?_ ?_
        rotate_left 1
        · go_simp
          exact rfl
        refine steady_nil ?_
        intro W hS
        obtain ⟨c0, c1, c2⟩ := HX.out W hS
        have HS2 := Lib.hid hS
        clear hS
        go_wp2_with fail
        go_ret
        exact ⟨by rw [HF.out]; rfl, HS2.out.bel⟩
    · obtain rfl : k = 20 := by omega
      have HO := Lib.hid (show kB ((fstK (isC b n)).getD noK).2.2 = ⟨#[]⟩ by rw [kfst_none HN.out]; rfl)
      go_wp2_with fail
      go_ret
      exact ⟨by rw [HO.out]; rfl, HS.out.bel⟩
theorem kNam_kB (s : ByteArray) (r : RowK) : isNamK s r = ((kB r.2.2).toList == s.toList) := by unfold isNamK kB; simp
set_option maxHeartbeats 4000000 in
theorem krfind_c (s : ByteArray) (w : World) : Calls Tryd.prog 16 #[.string s] w fun e w' => e = .returned (kCV (fstK (isNamK s))) ∧ Below w.heap.size w w' := by
  go_enter Tryd.func16, Tryd.ntmps16
  go_wp2_with fail
  refine (krows_c _).mono ?_
  rintro e w1 ⟨rfl, rfl⟩
  have HS0 := Lib.hid (RkS.new w false 0)
  generalize ((w.alloc (.cells #[.bool false, .int .i64 0] RcT)).alloc (.cells rkCells RkT)) = w2 at *
  go_wp2_with fail
  go_loopw [5] (fun i wr => ∃ k : Nat, k ≤ 20 ∧ i = .int .i64 k ∧ (∀ j, j < k → isNamK s (rowK j) = false) ∧ RkS w wr false 0) (fun i _ => 20 - (intOf i).toNat)
  case atStart => exact ⟨0, by omega, rfl, fun j h => by omega, HS0.out⟩
  case round =>
    obtain ⟨k, hk, rfl, hn, hS⟩ := hrel
    have HN := Lib.hid hn
    have HS := Lib.hid hS
    clear hn hS HS0
    by_cases hlt : k < 20
    · obtain ⟨c0, c1, c2⟩ := HS.out.r.2 k hlt
      have HX := Lib.hid (fun W (hS : RkS w W false 0) => hS.r.2 k hlt)
      have hl2 : (k : Int) < 20 := by omega
      have HH := Lib.hid (fun h => kfst_hit (p := isNamK s) hlt HN.out h)
      generalize hrk : rowK k = r at *
      have HRK := Lib.hid hrk
      clear hrk
      cases hp : isNamK s r
      · have HQ := Lib.hid hp
        have t1 : ((kB r.2.2).toList == s.toList) = false := by rw [← kNam_kB]; exact hp
        clear hp HH
        generalize r.1 = a at *
        generalize ((r.2.1 : Nat) : Int) = m at *
        generalize kB r.2.2 = s' at *
        go_wp2_with fail
        have HS2 := HS
        go_roundw
        case rel => exact ⟨k + 1, by omega, by go_num, fun i hi => if e : i = k then by rw [e, HRK.out]; exact HQ.out else HN.out i (by omega), HS2.out⟩
        case measure => simp [intOf]; omega
      · have HF := Lib.hid (show kCV (fstK (isNamK s)) = .tuple #[.agg #[.bool r.1, .int .i64 (r.2.1 : Nat)], .bool true] by rw [HH.out hp]; rfl)
        have t1 : ((kB r.2.2).toList == s.toList) = true := by rw [← kNam_kB]; exact hp
        clear hp HH
        generalize r.1 = a at *
        generalize ((r.2.1 : Nat) : Int) = m at *
        generalize kB r.2.2 = s' at *
        have HS2 := HS
        have z0 := HS2.out.z0
        have z1 := HS2.out.z1
        have y0 := HS2.out.f.1
        have y1 := HS2.out.f.2
        obtain ⟨c0, c1, c2⟩ := HX.out _ HS2.out
        go_wp2_with fail
        refine bodyPost_ret (v := .tuple #[.agg #[.bool a, .int .i64 m], .bool true]) (by simp [results, Tryd.results16, go_sem, z0, z1]) rfl ⟨by rw [HF.out], ?_⟩
        exact ((HS2.out.bel.setCell (by exact Nat.le_refl _) _).setCell (by exact Nat.le_refl _) _)
    · obtain rfl : k = 20 := by omega
      have HO := Lib.hid (show kCV (fstK (isNamK s)) = .tuple #[.agg zCa, .bool false] by rw [kfst_none HN.out]; rfl)
      have z0 := HS.out.z0
      have z1 := HS.out.z1
      have y0 := HS.out.f.1
      have y1 := HS.out.f.2
      go_wp2_with fail
      refine bodyPost_ret (v := .tuple #[.agg zCa, .bool false]) (by simp [results, Tryd.results16, go_sem, z0, z1]) rfl ⟨by rw [HO.out], ?_⟩
      exact ((HS.out.bel.setCell (by exact Nat.le_refl _) _).setCell (by exact Nat.le_refl _) _)
set_option maxHeartbeats 4000000 in
theorem krof_c (x : Int) (w : World) : Calls Tryd.prog 18 #[.int .u64 x] w fun e w' => e = .returned (kCV (fstK (isWrd x))) ∧ Below w.heap.size w w' := by
  go_enter Tryd.func18, Tryd.ntmps18
  go_wp2_with fail
  refine (krows_c _).mono ?_
  rintro e w1 ⟨rfl, rfl⟩
  have HS0 := Lib.hid (RkS.new w false 0)
  generalize ((w.alloc (.cells #[.bool false, .int .i64 0] RcT)).alloc (.cells rkCells RkT)) = w2 at *
  go_wp2_with fail
  go_loopw [5] (fun i wr => ∃ k : Nat, k ≤ 20 ∧ i = .int .i64 k ∧ (∀ j, j < k → isWrd x (rowK j) = false) ∧ RkS w wr false 0) (fun i _ => 20 - (intOf i).toNat)
  case atStart => exact ⟨0, by omega, rfl, fun j h => by omega, HS0.out⟩
  case round =>
    obtain ⟨k, hk, rfl, hn, hS⟩ := hrel
    have HN := Lib.hid hn
    have HS := Lib.hid hS
    clear hn hS HS0
    by_cases hlt : k < 20
    · obtain ⟨c0, c1, c2⟩ := HS.out.r.2 k hlt
      have HX := Lib.hid (fun W (hS : RkS w W false 0) => hS.r.2 k hlt)
      have hl2 : (k : Int) < 20 := by omega
      have HH := Lib.hid (fun h => kfst_hit (p := isWrd x) hlt HN.out h)
      generalize hrk : rowK k = r at *
      have HRK := Lib.hid hrk
      clear hrk
      cases hp : isWrd x r
      · have HQ := Lib.hid hp
        have t1 : (wordK r.1 (r.2.1 : Nat) == x) = false := hp
        have HC := Lib.hid (fun W => krword_c r.1 (r.2.1 : Nat) W)
        generalize wordK r.1 (r.2.1 : Nat) = z at *
        clear hp HH
        generalize r.1 = a at *
        generalize ((r.2.1 : Nat) : Int) = m at *
        generalize kB r.2.2 = s' at *
        go_wp2_with fail
        refine (HC.out _).mono ?_
        rintro e w3 ⟨rfl, hb⟩
        have HS2 := Lib.hid (HS.out.low hb)
        clear hb HS c0 c1 c2
        go_wp2_with fail
        go_roundw
        case rel => exact ⟨k + 1, by omega, by go_num, fun i hi => if e : i = k then by rw [e, HRK.out]; exact HQ.out else HN.out i (by omega), HS2.out⟩
        case measure => simp [intOf]; omega
      · have HF := Lib.hid (show kCV (fstK (isWrd x)) = .tuple #[.agg #[.bool r.1, .int .i64 (r.2.1 : Nat)], .bool true] by rw [HH.out hp]; rfl)
        have t1 : (wordK r.1 (r.2.1 : Nat) == x) = true := hp
        have HC := Lib.hid (fun W => krword_c r.1 (r.2.1 : Nat) W)
        generalize wordK r.1 (r.2.1 : Nat) = z at *
        clear hp HH
        generalize r.1 = a at *
        generalize ((r.2.1 : Nat) : Int) = m at *
        generalize kB r.2.2 = s' at *
        go_wp2_with fail
        refine (HC.out _).mono ?_
        rintro e w3 ⟨rfl, hb⟩
        have HS2 := Lib.hid (HS.out.low hb)
        clear hb HS c0 c1 c2
        have z0 := HS2.out.z0
        have z1 := HS2.out.z1
        have y0 := HS2.out.f.1
        have y1 := HS2.out.f.2
        obtain ⟨c0, c1, c2⟩ := HX.out _ HS2.out
        go_wp2_with fail
        refine bodyPost_ret (v := .tuple #[.agg #[.bool a, .int .i64 m], .bool true]) (by simp [results, Tryd.results18, go_sem, z0, z1]) rfl ⟨by rw [HF.out], ?_⟩
        exact ((HS2.out.bel.setCell (by exact Nat.le_refl _) _).setCell (by exact Nat.le_refl _) _)
    · obtain rfl : k = 20 := by omega
      have HO := Lib.hid (show kCV (fstK (isWrd x)) = .tuple #[.agg zCa, .bool false] by rw [kfst_none HN.out]; rfl)
      have z0 := HS.out.z0
      have z1 := HS.out.z1
      have y0 := HS.out.f.1
      have y1 := HS.out.f.2
      go_wp2_with fail
      refine bodyPost_ret (v := .tuple #[.agg zCa, .bool false]) (by simp [results, Tryd.results18, go_sem, z0, z1]) rfl ⟨by rw [HO.out], ?_⟩
      exact ((HS.out.bel.setCell (by exact Nat.le_refl _) _).setCell (by exact Nat.le_refl _) _)
set_option maxHeartbeats 2000000 in
theorem krexc_c (s : ByteArray) (w : World) : Calls Tryd.prog 53 #[.string s] w fun e w' => e = .returned (.agg #[.bool ((fstK (isNamK s)).getD noK).1, .int .i64 (((fstK (isNamK s)).getD noK).2.1 : Nat)]) ∧ Below w.heap.size w w' := by
  have HC := Lib.hid (fun W => krfind_c s W)
  unfold kCV at HC
  generalize ((fstK (isNamK s)).getD noK).1 = a at *
  generalize ((((fstK (isNamK s)).getD noK).2.1 : Nat) : Int) = m at *
  generalize (fstK (isNamK s)).isSome = o at *
  go_enter Tryd.func53, Tryd.ntmps53
  go_upto_region 1 with (fail)
  have h1 := CsAt.new w RcT zCa
  have h3 : Below w.heap.size w (w.alloc (.cells zCa RcT)) := (Below.refl _ _).alloc (Nat.le_refl _) _
  generalize (w.alloc (.cells zCa RcT)) = w1 at *
  have H1 := Lib.hid h1
  have H3 := Lib.hid h3
  clear h1 h3
  go_wp2_with fail
  refine (HC.out _).mono ?_
  rintro e w2 ⟨rfl, hb⟩
  have HB := Lib.hid (H3.out.trans (hb.mono H3.out.size))
  have hR2 := H1.out.low hb
  have z0 := hR2.cell 0
  have z1 := hR2.cell 1
  have y0 := hR2.frozen 0
  have y1 := hR2.frozen 1
  have hlt := hR2.lt
  clear hR2 hb
  simp only [List.getElem?_toArray, List.getElem?_cons_zero, List.getElem?_cons_succ] at z0 z1
  go_wp2_with fail
  refine bodyPost_ret (v := .agg #[.bool a, .int .i64 m]) (by simp [results, Tryd.results53, go_sem, World.cell?_alloc_past, hlt, z0, z1]) rfl ⟨rfl, ?_⟩
  have hQ := (HB.out.setCell (p := ⟨w.heap.size, 0, none⟩) (by exact Nat.le_refl _) (Value.bool a)).setCell (p := ⟨w.heap.size, 1, none⟩) (by exact Nat.le_refl _) (Value.int .i64 m)
  exact hQ.alloc hQ.size _
end Go.Proofs.YtfjdalepaacmgaaDoor
