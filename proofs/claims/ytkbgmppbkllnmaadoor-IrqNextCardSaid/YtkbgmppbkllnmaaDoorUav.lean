/-
  The reference of layer 21: Rows, Name, Find, Word, Of, Exception. The reference of layer 21: Access, Call, To, First; the chapter's examples (live): true. The reference of layer 23: Vector, lay, With.
-/
import Derived.Test.YtkbgmppbkllnmaaDoorUao
import Derived.Test.YtkbgmppbkllnmaaDoorUab
import Derived.Great.BuildSlice
import Derived.Test.YtkbgmppbkllnmaaDoorUap
set_option maxRecDepth 20000
namespace Go.Proofs.YtkbgmppbkllnmaaDoor
open Go.ChangeShapes Go.WideShapes Go.ChangeAt Go.RowKit Wd Cau

abbrev RkT : TypeId := 156
abbrev RcT : TypeId := 41
theorem eql_rc (b c : Bool) {n m : Int} (hn : I64 n) (hm : I64 m) (w : World) : (binOp .eql RcT (.agg #[.bool b, .int .i64 n]) (.agg #[.bool c, .int .i64 m])).run Tryd.prog w = .ok (.bool ((b == c) && (n == m))) w := by
  rw [Eqf.beql w 6 (by omega) RcT [none, some .i64] (by kernel_rfl) (by kernel_rfl) _ _ (by kernel_rfl) (by kernel_rfl) (by simp [Eqf.okL, Eqf.okV, kwf hn]) (by simp [Eqf.okL, Eqf.okV, kwf hm])]
  simp [Eqf.eqL, Eqf.eqv]
theorem neq_rc (b c : Bool) {n m : Int} (hn : I64 n) (hm : I64 m) (w : World) : (binOp .neq RcT (.agg #[.bool b, .int .i64 n]) (.agg #[.bool c, .int .i64 m])).run Tryd.prog w = .ok (.bool (!((b == c) && (n == m)))) w := by
  rw [Eqf.bneq w 6 (by omega) RcT [none, some .i64] (by kernel_rfl) (by kernel_rfl) _ _ (by kernel_rfl) (by kernel_rfl) (by simp [Eqf.okL, Eqf.okV, kwf hn]) (by simp [Eqf.okL, Eqf.okV, kwf hm])]
  simp [Eqf.eqL, Eqf.eqv]
theorem guard_rc : Tryd.prog.eqGuardType Tryd.prog.depth RcT = false := by kernel_rfl
theorem info_rk : (Tryd.prog.info? RkT).map (fun i => (i.zero, i.size, i.bytes)) = some (some (.agg zNm), 3, 32) := by kernel_rfl
def rowV3 (r : RowK) : List Value := [.bool r.1, .int .i64 (r.2.1 : Nat), .string (kB r.2.2)]
abbrev rkCells : Array Value := (rowsK.flatMap rowV3).toArray
set_option maxHeartbeats 4000000 in
set_option maxRecDepth 1000000 in
theorem krows_c (w : World) : Calls Tryd.prog 101 #[] w fun e w' => e = .returned (.slice (some ⟨w.heap.size, 0, none⟩) 20 20) ∧ w.alloc (.cells rkCells RkT) = w' := by
  go_enter Tryd.func101, Tryd.ntmps101
  obtain ⟨i0, hi, hz0, hz1, hz2⟩ := info_parts info_rk
  go_upto_region 1 with fail
  apply wp_region_lit
  go_wp2_with (with_reducible refine Go.wpList_buildSlice rfl 153 RkT 20 _ rfl ((rowsK.flatMap rowV3).toArray) i0 (.agg zNm) Tryd.underlying153 hi hz0 (by rw [hz1]; decide) (by rw [hz1]; decide) (by rw [hz1]; kernel_rfl) ?_)
  go_ret
  exact ⟨rfl, rfl⟩
theorem kflat3 {α β : Type} (f : α → List β) (hf : ∀ x, (f x).length = 3) (l : List α) (k j : Nat) (hj : j < 3) (a : α) (ha : l[k]? = some a) : (l.flatMap f)[k * 3 + j]? = (f a)[j]? := by
  induction l generalizing k with
  | nil => simp at ha
  | cons x xs ih =>
    cases k with
    | zero =>
      simp at ha
      subst ha
      rw [List.flatMap_cons, List.getElem?_append_left (by rw [hf]; omega)]
      simp
    | succ k =>
      rw [List.flatMap_cons, List.getElem?_append_right (by rw [hf]; omega), hf]
      rw [show (k + 1) * 3 + j - 3 = k * 3 + j by omega]
      exact ih k (by simpa using ha)
/-- The reference's table in a block. -/
def RKAt (w : World) (g : Nat) : Prop := g < w.heap.size ∧ ∀ k, k < 20 → w.cell? ⟨g, k * 3, none⟩ = some (.bool (rowK k).1) ∧ w.cell? ⟨g, k * 3 + 1, none⟩ = some (.int .i64 ((rowK k).2.1 : Nat)) ∧ w.cell? ⟨g, k * 3 + 2, none⟩ = some (.string (kB (rowK k).2.2))
theorem RKAt.low {w w' : World} {g : Nat} (h : RKAt w g) (hb : Below w.heap.size w w') : RKAt w' g :=
  ⟨Nat.lt_of_lt_of_le h.1 hb.size, fun k hk => by
    obtain ⟨a, b, c⟩ := h.2 k hk
    exact ⟨(hb.cell (p := ⟨g, k * 3, none⟩) h.1).trans a, (hb.cell (p := ⟨g, k * 3 + 1, none⟩) h.1).trans b, (hb.cell (p := ⟨g, k * 3 + 2, none⟩) h.1).trans c⟩⟩
theorem rkAt_new (w : World) : RKAt (w.alloc (.cells rkCells RkT)) w.heap.size := by
  refine ⟨by simp, fun k hk => ?_⟩
  have h := rowK_get hk
  have c : ∀ j, j < 3 → (w.alloc (.cells rkCells RkT)).cell? ⟨w.heap.size, k * 3 + j, none⟩ = (rowV3 (rowK k))[j]? := by
    intro j hj
    rw [cell_of_row _ w.heap.size (k * 3 + j) rkCells RkT (0, 0) (heap_alloc_new w _)]
    rw [List.getElem?_toArray]
    exact kflat3 rowV3 (fun x => rfl) rowsK k j hj (rowK k) h
  exact ⟨c 0 (by omega), c 1 (by omega), c 2 (by omega)⟩
set_option maxHeartbeats 2000000 in
theorem krword_c (b : Bool) (n : Int) (w : World) : Calls Tryd.prog 37 #[.agg #[.bool b, .int .i64 n]] w fun e w' => e = .returned (.int .u64 (wordK b n)) ∧ Below w.heap.size w w' := by
  have hB : Below w.heap.size w (w.alloc (.cells #[.bool b, .int .i64 n] RcT)) := (Below.refl _ _).alloc (Nat.le_refl _) _
  have HB := Lib.hid hB
  clear hB
  by_cases h0 : 0 < n
  · have d0 : decide (0 < n) = true := by simp [h0]
    by_cases h1 : n < 64
    · have d1 : decide (n < 64) = true := by simp [h1]
      have HW := Lib.hid (show wordK b n = n + (if b then 9223372036854775808 else 0) by unfold wordK; rw [if_pos (by omega)])
      have hw : IntKind.u64.wrap n = n := by rw [IntKind.wrap_u64]; omega
      have hw2 : IntKind.u64.wrap (n + 9223372036854775808) = n + 9223372036854775808 := by rw [IntKind.wrap_u64]; omega
      clear h0 h1
      generalize wordK b n = z at *
      cases b
      · go_enter Tryd.func37, Tryd.ntmps37
        go_wp2_with fail
        go_ret
        exact ⟨by rw [HW.out]; simp, HB.out⟩
      · go_enter Tryd.func37, Tryd.ntmps37
        go_wp2_with fail
        go_ret
        exact ⟨by rw [HW.out]; rfl, HB.out⟩
    · have d1 : decide (n < 64) = false := by simp; omega
      have HW := Lib.hid (show wordK b n = (if b then 9223372036854775808 else 0) by unfold wordK; rw [if_neg (by omega)]; omega)
      clear h0 h1
      generalize wordK b n = z at *
      cases b
      all_goals
        go_enter Tryd.func37, Tryd.ntmps37
        go_wp2_with fail
        go_ret
        exact ⟨by rw [HW.out]; rfl, HB.out⟩
  · have d0 : decide (0 < n) = false := by simp; omega
    have HW := Lib.hid (show wordK b n = (if b then 9223372036854775808 else 0) by
      unfold wordK
      by_cases e : n = 0
      · subst e; simp
      · rw [if_neg (by omega)]; omega)
    clear h0
    generalize wordK b n = z at *
    cases b
    all_goals
      go_enter Tryd.func37, Tryd.ntmps37
      go_wp2_with fail
      go_ret
      exact ⟨by rw [HW.out]; rfl, HB.out⟩
/-- What stands while the reference's table is looked through: a box ahead of it, the table. -/
structure RkS (w W : World) (b : Bool) (n : Int) : Prop where
  r : RKAt W (w.heap.size + 1)
  z0 : W.cell? ⟨w.heap.size, 0, none⟩ = some (.bool b)
  z1 : W.cell? ⟨w.heap.size, 1, none⟩ = some (.int .i64 n)
  f : W.frozen? ⟨w.heap.size, 0, none⟩ = false ∧ W.frozen? ⟨w.heap.size, 1, none⟩ = false
  c : CsAt W w.heap.size RcT #[.bool b, .int .i64 n]
  bel : Below w.heap.size w W
theorem RkS.low {w W W' : World} {b : Bool} {n : Int} (h : RkS w W b n) (hb : Below W.heap.size W W') : RkS w W' b n :=
  ⟨h.r.low hb, (h.c.low hb).cell 0, (h.c.low hb).cell 1, ⟨(h.c.low hb).frozen 0, (h.c.low hb).frozen 1⟩, h.c.low hb, h.bel.trans (hb.mono h.bel.size)⟩
theorem RkS.drew {w W : World} {b : Bool} {n : Int} (h : RkS w W b n) : RkS w W.drew b n := ⟨h.r, h.z0, h.z1, h.f, h.c, h.bel.drew⟩
theorem RkS.new (w : World) (b : Bool) (n : Int) : RkS w ((w.alloc (.cells #[.bool b, .int .i64 n] RcT)).alloc (.cells rkCells RkT)) b n := by
  have hr := rkAt_new (w.alloc (.cells #[.bool b, .int .i64 n] RcT))
  simp only [World.size_alloc] at hr
  have hz : CsAt ((w.alloc (.cells #[.bool b, .int .i64 n] RcT)).alloc (.cells rkCells RkT)) w.heap.size RcT #[.bool b, .int .i64 n] := (CsAt.new w RcT _).alloc _
  exact ⟨hr, hz.cell 0, hz.cell 1, ⟨hz.frozen 0, hz.frozen 1⟩, hz, ((Below.refl _ _).alloc (Nat.le_refl _) _).alloc (by simp) _⟩
theorem kNam_kB (s : ByteArray) (r : RowK) : isNamK s r = ((kB r.2.2).toList == s.toList) := by unfold isNamK kB; simp
set_option maxHeartbeats 4000000 in
theorem krfind_c (s : ByteArray) (w : World) : Calls Tryd.prog 85 #[.string s] w fun e w' => e = .returned (kCV (fstK (isNamK s))) ∧ Below w.heap.size w w' := by
  go_enter Tryd.func85, Tryd.ntmps85
  go_wp2_with fail
  refine (krows_c _).mono ?_
  rintro e w1 ⟨rfl, rfl⟩
  have HS0 := Lib.hid (RkS.new w false 0)
  generalize ((w.alloc (.cells #[.bool false, .int .i64 0] RcT)).alloc (.cells rkCells RkT)) = w2 at *
  go_wp2_with fail
  go_loopw [5] (fun i wr => ∃ k : Nat, k ≤ 20 ∧ i = .int .i64 k ∧ (∀ j, j < k → isNamK s (rowK j) = false) ∧ RkS w wr false 0) (fun i _ => 20 - (intOf i).toNat)
  case atStart => exact ⟨0, by omega, rfl, fun j h => by omega, HS0.out⟩
  case round =>
    obtain ⟨k, hk, rfl, hn, hS⟩ := hrel
    have HN := Lib.hid hn
    have HS := Lib.hid hS
    clear hn hS HS0
    by_cases hlt : k < 20
    · obtain ⟨c0, c1, c2⟩ := HS.out.r.2 k hlt
      have HX := Lib.hid (fun W (hS : RkS w W false 0) => hS.r.2 k hlt)
      have hl2 : (k : Int) < 20 := by omega
      have HH := Lib.hid (fun h => kfst_hit (p := isNamK s) hlt HN.out h)
      generalize hrk : rowK k = r at *
      have HRK := Lib.hid hrk
      clear hrk
      cases hp : isNamK s r
      · have HQ := Lib.hid hp
        have t1 : ((kB r.2.2).toList == s.toList) = false := by rw [← kNam_kB]; exact hp
        clear hp HH
        generalize r.1 = a at *
        generalize ((r.2.1 : Nat) : Int) = m at *
        generalize kB r.2.2 = s' at *
        go_wp2_with fail
        have HS2 := HS
        go_roundw
        case rel => exact ⟨k + 1, by omega, by go_num, fun i hi => if e : i = k then by rw [e, HRK.out]; exact HQ.out else HN.out i (by omega), HS2.out⟩
        case measure => simp [intOf]; omega
      · have HF := Lib.hid (show kCV (fstK (isNamK s)) = .tuple #[.agg #[.bool r.1, .int .i64 (r.2.1 : Nat)], .bool true] by rw [HH.out hp]; rfl)
        have t1 : ((kB r.2.2).toList == s.toList) = true := by rw [← kNam_kB]; exact hp
        clear hp HH
        generalize r.1 = a at *
        generalize ((r.2.1 : Nat) : Int) = m at *
        generalize kB r.2.2 = s' at *
        have HS2 := HS
        have z0 := HS2.out.z0
        have z1 := HS2.out.z1
        have y0 := HS2.out.f.1
        have y1 := HS2.out.f.2
        obtain ⟨c0, c1, c2⟩ := HX.out _ HS2.out
        go_wp2_with fail
        refine bodyPost_ret (v := .tuple #[.agg #[.bool a, .int .i64 m], .bool true]) (by simp [results, Tryd.results85, go_sem, z0, z1]) rfl ⟨by rw [HF.out], ?_⟩
        exact ((HS2.out.bel.setCell (by exact Nat.le_refl _) _).setCell (by exact Nat.le_refl _) _)
    · obtain rfl : k = 20 := by omega
      have HO := Lib.hid (show kCV (fstK (isNamK s)) = .tuple #[.agg zCa, .bool false] by rw [kfst_none HN.out]; rfl)
      have z0 := HS.out.z0
      have z1 := HS.out.z1
      have y0 := HS.out.f.1
      have y1 := HS.out.f.2
      go_wp2_with fail
      refine bodyPost_ret (v := .tuple #[.agg zCa, .bool false]) (by simp [results, Tryd.results85, go_sem, z0, z1]) rfl ⟨by rw [HO.out], ?_⟩
      exact ((HS.out.bel.setCell (by exact Nat.le_refl _) _).setCell (by exact Nat.le_refl _) _)
end Go.Proofs.YtkbgmppbkllnmaaDoor
set_option maxRecDepth 20000
namespace Go.Proofs.YtkbgmppbkllnmaaDoor
open Go.ChangeShapes Go.WideShapes Go.ChangeAt Go.RowKit Wd Cau

def kF (s : ByteArray) : Value := .agg #[.bool ((fstK (isNamK s)).getD noK).1, .int .i64 (((fstK (isNamK s)).getD noK).2.1 : Nat)]
theorem nk_insn_align : kF ⟨#[105, 110, 115, 110, 45, 97, 108, 105, 103, 110]⟩ = kE 0 := by kernel_rfl
theorem nk_insn_fault : kF ⟨#[105, 110, 115, 110, 45, 102, 97, 117, 108, 116]⟩ = kE 1 := by kernel_rfl
theorem nk_load_align : kF ⟨#[108, 111, 97, 100, 45, 97, 108, 105, 103, 110]⟩ = kE 4 := by kernel_rfl
theorem nk_load_fault : kF ⟨#[108, 111, 97, 100, 45, 102, 97, 117, 108, 116]⟩ = kE 5 := by kernel_rfl
theorem nk_store_align : kF ⟨#[115, 116, 111, 114, 101, 45, 97, 108, 105, 103, 110]⟩ = kE 6 := by kernel_rfl
theorem nk_store_fault : kF ⟨#[115, 116, 111, 114, 101, 45, 102, 97, 117, 108, 116]⟩ = kE 7 := by kernel_rfl
theorem nk_call_user : kF ⟨#[99, 97, 108, 108, 45, 117, 115, 101, 114]⟩ = kE 8 := by kernel_rfl
theorem nk_call_super : kF ⟨#[99, 97, 108, 108, 45, 115, 117, 112, 101, 114]⟩ = kE 9 := by kernel_rfl
theorem nk_call_machine : kF ⟨#[99, 97, 108, 108, 45, 109, 97, 99, 104, 105, 110, 101]⟩ = kE 11 := by kernel_rfl
theorem nk_insn_page : kF ⟨#[105, 110, 115, 110, 45, 112, 97, 103, 101]⟩ = kE 12 := by kernel_rfl
theorem nk_load_page : kF ⟨#[108, 111, 97, 100, 45, 112, 97, 103, 101]⟩ = kE 13 := by kernel_rfl
theorem nk_store_page : kF ⟨#[115, 116, 111, 114, 101, 45, 112, 97, 103, 101]⟩ = kE 15 := by kernel_rfl
theorem toK_bit (b : Bool) (n d i : Int) {p : Int} (hp : p ≠ 3) (hd : 0 ≤ d ∧ d < 18446744073709551616) (hi : 0 ≤ i ∧ i < 18446744073709551616) : toK b n p d i = if tbI (if b then i else d) n then 1 else 3 := by
  unfold toK tbI
  by_cases h0 : 0 ≤ n
  · by_cases h1 : n ≤ 63
    · simp [hp, h0, h1]
    · have : tb (if b then i else d) n.toNat = false := by
        cases b
        · exact tb_big hd.2 (by omega)
        · exact tb_big hi.2 (by omega)
      simp [hp, h0, h1, this]
  · simp [h0]
set_option maxHeartbeats 2000000 in
theorem krto_c (b : Bool) (n p d i : Int) (w : World) (hd : 0 ≤ d ∧ d < 18446744073709551616) (hi : 0 ≤ i ∧ i < 18446744073709551616) :
    Calls Tryd.prog 34 #[.agg #[.bool b, .int .i64 n], .int .i64 p, .int .u64 d, .int .u64 i] w fun e w' => e = .returned (.int .i64 (toK b n p d i)) ∧ Below w.heap.size w w' := by
  have hB : Below w.heap.size w (w.alloc (.cells #[.bool b, .int .i64 n] RcT)) := (Below.refl _ _).alloc (Nat.le_refl _) _
  have HB := Lib.hid hB
  clear hB
  by_cases hp : p = 3
  · subst hp
    have HV := Lib.hid (show toK b n 3 d i = 3 from if_neg (fun h => h.1 rfl))
    clear hd hi
    cases b
    all_goals
      go_enter Tryd.func34, Tryd.ntmps34
      go_wp2_with fail
      go_ret
      exact ⟨by rw [HV.out]; rfl, HB.out⟩
  · have ep : (p != 3) = true := by simpa using hp
    have HV := Lib.hid (toK_bit b n d i hp hd hi)
    have HBd := Lib.hid (fun W => bit_c d n W hd.1 hd.2)
    have HBi := Lib.hid (fun W => bit_c i n W hi.1 hi.2)
    clear hp hd hi
    cases b
    all_goals
      simp only [Bool.false_eq_true, if_false, if_true] at HV
    · cases ht : tbI d n
      all_goals
        rw [ht] at HV HBd
        clear ht
        go_enter Tryd.func34, Tryd.ntmps34
        go_wp2_with fail
        refine (HBd.out _).mono ?_
        rintro e w2 ⟨rfl, rfl⟩
        go_wp2_with fail
        go_ret
        exact ⟨by rw [HV.out]; rfl, HB.out⟩
    · cases ht : tbI i n
      all_goals
        rw [ht] at HV HBi
        clear ht
        go_enter Tryd.func34, Tryd.ntmps34
        go_wp2_with fail
        refine (HBi.out _).mono ?_
        rintro e w2 ⟨rfl, rfl⟩
        go_wp2_with fail
        go_ret
        exact ⟨by rw [HV.out]; rfl, HB.out⟩
theorem lk1 : fI 136 = .tuple #[.agg #[.bool true, .int .i64 3], .bool true] := by kernel_rfl
theorem lk2 : wordK true 7 = 9223372036854775815 := by decide
theorem lk3 : toK false 2 0 4 0 = 1 := by decide +kernel
end Go.Proofs.YtkbgmppbkllnmaaDoor
set_option maxRecDepth 20000
namespace Go.Proofs.YtkbgmppbkllnmaaDoor
open Go.ChangeShapes Go.WideShapes Go.ChangeAt Go.RowKit Wd Csr Sta Cf Cau

theorem andNot3 {t : Int} (ht : W64 t) : bits .andNot .u64 t 3 = t / 4 * 4 := by
  have a := andNot_range ht.1 ht.2 (y := 3) (by omega) (by omega)
  have b : W64 (t / 4 * 4) := by have := ht.1; have := ht.2; constructor <;> omega
  apply Wd.ext a.1 a.2 b.1 b.2
  intro i hi
  rw [al_and ht hi]
  obtain ⟨m, rfl⟩ := Int.eq_ofNat_of_zero_le ht.1
  unfold tb
  rw [show ((m : Int) / 4 * 4).toNat = m / 4 * 4 by omega, show ((m : Nat) : Int).toNat = m by omega]
  rw [show m / 4 * 4 = m / 2 ^ 2 * 2 ^ 2 from rfl, Nat.testBit_mul_two_pow, Nat.testBit_div_two_pow]
  by_cases h : i < 2
  · rw [decide_eq_true h, decide_eq_false (by omega)]; simp
  · rw [decide_eq_false h, decide_eq_true (by omega)]; simp [show i - 2 + 2 = i by omega]
theorem and1 {t : Int} (ht : W64 t) : (bits .and .u64 t 1 == 0) = !(t % 2 == 1) := by
  have h := bitK ht 0
  have h' : (bits .and .u64 t 1 == 1) = tb t 0 := by simpa using h
  have r := and_range ht.1 ht.2 (y := 1) (by omega) (by omega)
  have b : bits .and .u64 t 1 = t % 2 := by
    obtain ⟨m, rfl⟩ := Int.eq_ofNat_of_zero_le ht.1
    have := and_low ht.1 ht.2 1 (by omega)
    simpa using this
  rw [b]
  have : t % 2 = 0 ∨ t % 2 = 1 := by omega
  rcases this with e | e <;> rw [e] <;> rfl
theorem vec_no {t n : Int} {b : Bool} (ht : W64 t) (h : ¬ (t % 2 = 1 ∧ b = true ∧ 0 < n ∧ n < 64)) : vecS t b n = t / 4 * 4 := by
  unfold vecS
  rw [and1 ht, andNot3 ht]
  cases e : (t % 2 == 1)
  · rfl
  · cases b
    · simp
    · have e' : t % 2 = 1 := by simpa using e
      have hn : ¬ (0 < n ∧ n < 64) := fun hh => h ⟨e', rfl, hh⟩
      have hw : wordK false n = 0 := by
        unfold wordK
        simp only [Bool.false_eq_true, if_false]
        split <;> omega
      rw [hw]
      simp only [Bool.not_true, Bool.or_false, Bool.false_eq_true, if_false]
      have := ht.1
      have := ht.2
      rw [IntKind.wrap_u64, IntKind.wrap_u64]
      omega
theorem vec_yes {t n : Int} (ht : W64 t) (h1 : t % 2 = 1) (h2 : 0 < n) (h3 : n < 64) : vecS t true n = IntKind.u64.wrap (t / 4 * 4 + 4 * n) := by
  unfold vecS
  rw [and1 ht, andNot3 ht, show (t % 2 == 1) = true by simpa using h1]
  have hw : wordK false n = n := by
    unfold wordK
    simp only [Bool.false_eq_true, if_false]
    rw [if_pos (by omega)]
    omega
  rw [hw]
  simp only [Bool.not_true, Bool.or_false, Bool.false_eq_true, if_false]
  rw [show IntKind.u64.wrap (4 * n) = 4 * n by rw [IntKind.wrap_u64]; omega]
set_option maxHeartbeats 2000000 in
theorem rvec_c (t : Int) (ht : W64 t) (b : Bool) (n : Int) (w : World) : Calls Tryd.prog 15 #[.int .u64 t, .agg #[.bool b, .int .i64 n]] w fun e w' => e = .returned (.int .u64 (vecS t b n)) ∧ Below w.heap.size w w' := by
  have hB : Below w.heap.size w (w.alloc (.cells #[.bool b, .int .i64 n] RcT)) := (Below.refl _ _).alloc (Nat.le_refl _) _
  have h0 := CsAt.new w RcT #[.bool b, .int .i64 n]
  have z0 := h0.cell 0
  have z1 := h0.cell 1
  have HB := Lib.hid hB
  clear h0 hB
  simp only [List.getElem?_toArray, List.getElem?_cons_zero, List.getElem?_cons_succ] at z0 z1
  by_cases h : t % 2 = 1 ∧ b = true ∧ 0 < n ∧ n < 64
  · obtain ⟨h1, rfl, h2, h3⟩ := h
    have HV := Lib.hid (vec_yes ht h1 h2 h3)
    have e1 : IntKind.u64.wrap n = n := by rw [IntKind.wrap_u64]; omega
    have g2 : decide (0 < n) = true := by simpa using h2
    have g3 : decide (n < 64) = true := by simpa using h3
    go_enter Tryd.func15, Tryd.ntmps15
    go_upto_region 1 with (fail)
    generalize (w.alloc (.cells #[.bool true, .int .i64 n] RcT)) = w1 at *
    go_wp2_with fail
    go_ret
    exact ⟨by rw [HV.out]; rfl, HB.out⟩
  · have HV := Lib.hid (vec_no ht h)
    cases b
    · clear h
      go_enter Tryd.func15, Tryd.ntmps15
      go_upto_region 1 with (fail)
      generalize (w.alloc (.cells #[.bool false, .int .i64 n] RcT)) = w1 at *
      go_wp2_with fail
      all_goals
        go_ret
        exact ⟨by rw [HV.out]; rfl, HB.out⟩
    · have h' : ¬ (t % 2 = 1 ∧ 0 < n ∧ n < 64) := fun hh => h ⟨hh.1, rfl, hh.2⟩
      have HH := Lib.hid h'
      clear h h'
      go_enter Tryd.func15, Tryd.ntmps15
      go_upto_region 1 with (fail)
      generalize (w.alloc (.cells #[.bool true, .int .i64 n] RcT)) = w1 at *
      go_wp2_with fail
      all_goals first
        | (go_ret; exact ⟨by rw [HV.out]; rfl, HB.out⟩)
        | (exfalso; have := HH.out; omega)
set_option maxHeartbeats 2000000 in
theorem rWith_c (s : S) (nm : ByteArray) (v : Int) (k : Nat) (hk : k < 34) (hn : numC nm = ((rowC k).1 : Nat)) (w : World) : Calls Tryd.prog 38 #[.agg (refV s), .string nm, .int .u64 v] w fun e w' => e = .returned (.agg (refV (s.put ((rowC k).1 : Nat) v))) ∧ Below w.heap.size w w' := by
  have HS1 := Lib.hid (RtS.new w s)
  have HC := Lib.hid (fun W => rwith_c s nm v k hk hn W)
  generalize s.put ((rowC k).1 : Nat) v = t at *
  clear hn
  go_enter Tryd.func38, Tryd.ntmps38
  go_upto_region 1 with (refine wpList_allocY rfl _ rfl RfT rfl (refV (zero 0)) (zero_rf _) ?_)
  generalize ((w.alloc (.cells (refV s) RfT)).alloc (.cells (refV (zero 0)) RfT)) = w1 at *
  go_wp2_with (refine wpList_load_row rfl RfT _ rfl w.heap.size rfl RfT _ (0, 0) _ HS1.out.r Tryd.underlying38 rfl (iRf _) ?_)
  refine (HC.out _).mono ?_
  rintro e w2 ⟨rfl, hb⟩
  have HS2 := Lib.hid (HS1.out.low hb)
  clear hb
  go_wp2_with (refine wpList_store_row rfl RfT _ _ rfl (w.heap.size + 1) (refV t) rfl rfl RfT _ HS2.out.z (iRf _) (by rw [refV_size, refV_size]) (rfV_one _) ?_)
  exact bodyPost_ret (results_cell_row Tryd.results38 _ _ _ _ _ _ _ rfl (HS2.out.z.row _) Tryd.underlying38 rfl (iRf _)) rfl ⟨rfl, below_setRow HS2.out.bel (by omega) _⟩
set_option maxHeartbeats 2000000 in
theorem rlay3_c (s : S) (ok : Ok s) (nm : ByteArray) (v : Int) (hv : W64 v) (k : Nat) (hk : k < 34) (hn : numC nm = ((rowC k).1 : Nat)) (w : World) : Calls Tryd.prog 36 #[.agg (refV s), .string nm, .int .u64 v] w fun e w' => e = .returned (.agg (refV (layS s ((rowC k).1 : Nat) v))) ∧ Below w.heap.size w w' := by
  have HS1 := Lib.hid (RtS.new w s)
  have HN := Lib.hid (fun W => rnum_c nm W)
  rw [hn] at HN
  have HWW := Lib.hid (fun W => rword_c s nm k hk hn W)
  have HL := Lib.hid (fun W => rlegal_c ((rowC k).1 : Nat) (s.f ((rowC k).1 : Nat)) v (ok.w _) hv W)
  have HC := Lib.hid (fun W => rWith_c s nm (legS ((rowC k).1 : Nat) (s.f ((rowC k).1 : Nat)) v) k hk hn W)
  have hlay : layS s ((rowC k).1 : Nat) v = s.put ((rowC k).1 : Nat) (legS ((rowC k).1 : Nat) (s.f ((rowC k).1 : Nat)) v) := rfl
  rw [hlay]
  clear hlay hn
  generalize s.put ((rowC k).1 : Nat) (legS ((rowC k).1 : Nat) (s.f ((rowC k).1 : Nat)) v) = t at *
  generalize legS ((rowC k).1 : Nat) (s.f ((rowC k).1 : Nat)) v = x at *
  generalize s.f ((rowC k).1 : Nat) = y at *
  generalize (((rowC k).1 : Nat) : Int) = m at *
  clear hv ok
  go_enter Tryd.func36, Tryd.ntmps36
  go_upto_region 1 with (refine wpList_allocY rfl _ rfl RfT rfl (refV (zero 0)) (zero_rf _) ?_)
  generalize ((w.alloc (.cells (refV s) RfT)).alloc (.cells (refV (zero 0)) RfT)) = w1 at *
  go_wp2_with fail
  refine (HN.out _).mono ?_
  rintro e w2 ⟨rfl, hb⟩
  have HS2 := Lib.hid (HS1.out.low hb)
  clear hb
  go_upto_region 2 with fail
  refine wp_region_steady_tail (fun W => RtS w W s (zero 0)) 9 (by kernel_rfl) (by kernel_rfl) HS2.out.drew ?_
  refine steady_val (.agg (refV s)) ?_ (by kernel_rfl) (fun W hS => exec_load_row RfT _ rfl w.heap.size rfl RfT _ _ hS.r Tryd.underlying38 rfl (iRf _)) ?_ ?_
  rotate_left 1
  · go_simp
    exact rfl
  iterate 2
    refine steady_val ?_ ?_ (by kernel_rfl) (fun W hS => ?_) ?_ ?_
    rotate_left 2
    · go_simp
      exact rfl
    · go_simp
      exact rfl
  refine steady_val (.agg (refV s)) ?_ (by kernel_rfl) (fun W hS => exec_load_row RfT _ rfl w.heap.size rfl RfT _ _ hS.r Tryd.underlying38 rfl (iRf _)) ?_ ?_
  rotate_left 1
  · go_simp
    exact rfl
  refine steady_val ?_ ?_ (by kernel_rfl) (fun W hS => ?_) ?_ ?_
  rotate_left 2
  · go_simp
    exact rfl
  · go_simp
    exact rfl
  refine steady_enter (.int .u64 y) 35 #[.agg (refV s), .string nm] ?_ (by kernel_rfl) (fun W hS => ?_) (fun W hS => (HWW.out W).mono (by rintro e w' ⟨rfl, hb⟩; exact ⟨rfl, hS.low hb⟩)) ?_ ?_
  rotate_left 1
  · go_simp
  · go_simp
    exact rfl
  refine steady_val ?_ ?_ (by kernel_rfl) (fun W hS => ?_) ?_ ?_
  rotate_left 2
  · go_simp
    exact rfl
  · go_simp
    exact rfl
  refine steady_enter (.int .u64 x) 76 #[.int .i64 m, .int .u64 y, .int .u64 v] ?_ (by kernel_rfl) (fun W hS => ?_) (fun W hS => (HL.out W).mono (by rintro e w' ⟨rfl, hb⟩; exact ⟨rfl, hS.low hb⟩)) ?_ ?_
  rotate_left 1
  · go_simp
  · go_simp
    exact rfl
  refine steady_enter (.agg (refV t)) 38 #[.agg (refV s), .string nm, .int .u64 x] ?_ (by kernel_rfl) (fun W hS => ?_) (fun W hS => (HC.out W).mono (by rintro e w' ⟨rfl, hb⟩; exact ⟨rfl, hS.low hb⟩)) ?_ ?_
  rotate_left 1
  · go_simp
  · go_simp
    exact rfl
  refine steady_nil ?_
  intro W hS
  have HSZ := Lib.hid hS
  clear hS
  simp only [List.drop_succ_cons, List.drop_zero]
  go_wp2_with (refine wpList_store_row rfl RfT _ _ rfl (w.heap.size + 1) (refV t) rfl rfl RfT _ HSZ.out.z (iRf _) (by rw [refV_size, refV_size]) (rfV_one _) ?_)
  exact bodyPost_ret (results_cell_row Tryd.results36 _ _ _ _ _ _ _ rfl (HSZ.out.z.row _) Tryd.underlying38 rfl (iRf _)) rfl ⟨rfl, below_setRow HSZ.out.bel (by omega) _⟩
end Go.Proofs.YtkbgmppbkllnmaaDoor
