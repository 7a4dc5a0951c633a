/-
  The reference of layer 21: Access, Call, To, First; the chapter's examples (live): true.
-/
import Derived.Test.YtfjdalepaacmgaaDoorCauE
set_option maxRecDepth 20000
namespace Go.Proofs.YtfjdalepaacmgaaDoor
open Go.ChangeShapes Go.WideShapes Go.ChangeAt Go.RowKit Wd Cau

def kF (s : ByteArray) : Value := .agg #[.bool ((fstK (isNamK s)).getD noK).1, .int .i64 (((fstK (isNamK s)).getD noK).2.1 : Nat)]
theorem krexcF_c (s : ByteArray) (w : World) : Calls Tryd.prog 53 #[.string s] w fun e w' => e = .returned (kF s) ∧ Below w.heap.size w w' := krexc_c s w
theorem nk_insn_align : kF ⟨#[105, 110, 115, 110, 45, 97, 108, 105, 103, 110]⟩ = kE 0 := by kernel_rfl
theorem nk_insn_fault : kF ⟨#[105, 110, 115, 110, 45, 102, 97, 117, 108, 116]⟩ = kE 1 := by kernel_rfl
theorem nk_load_align : kF ⟨#[108, 111, 97, 100, 45, 97, 108, 105, 103, 110]⟩ = kE 4 := by kernel_rfl
theorem nk_load_fault : kF ⟨#[108, 111, 97, 100, 45, 102, 97, 117, 108, 116]⟩ = kE 5 := by kernel_rfl
theorem nk_store_align : kF ⟨#[115, 116, 111, 114, 101, 45, 97, 108, 105, 103, 110]⟩ = kE 6 := by kernel_rfl
theorem nk_store_fault : kF ⟨#[115, 116, 111, 114, 101, 45, 102, 97, 117, 108, 116]⟩ = kE 7 := by kernel_rfl
theorem nk_call_user : kF ⟨#[99, 97, 108, 108, 45, 117, 115, 101, 114]⟩ = kE 8 := by kernel_rfl
theorem nk_call_super : kF ⟨#[99, 97, 108, 108, 45, 115, 117, 112, 101, 114]⟩ = kE 9 := by kernel_rfl
theorem nk_call_machine : kF ⟨#[99, 97, 108, 108, 45, 109, 97, 99, 104, 105, 110, 101]⟩ = kE 11 := by kernel_rfl
theorem nk_insn_page : kF ⟨#[105, 110, 115, 110, 45, 112, 97, 103, 101]⟩ = kE 12 := by kernel_rfl
theorem nk_load_page : kF ⟨#[108, 111, 97, 100, 45, 112, 97, 103, 101]⟩ = kE 13 := by kernel_rfl
theorem nk_store_page : kF ⟨#[115, 116, 111, 114, 101, 45, 112, 97, 103, 101]⟩ = kE 15 := by kernel_rfl
set_option maxHeartbeats 2000000 in
theorem kracc_align (a : Int) (w : World) : Calls Tryd.prog 20 #[.int .i64 a, .string ⟨#[97, 108, 105, 103, 110]⟩] w fun e w' => e = .returned (kE (excK a 0 4 6)) ∧ Below w.heap.size w w' := by
  have HC := Lib.hid (fun s W => krexcF_c s W)
  by_cases h0 : a = 0
  · subst h0
    have HX := Lib.hid (show excK 0 0 4 6 = 0 from if_pos rfl)
    go_enter Tryd.func20, Tryd.ntmps20
    go_upto_region 1 with (fail)
    have h1 := CsAt.new w RcT zCa
    have h3 : Below w.heap.size w (w.alloc (.cells zCa RcT)) := (Below.refl _ _).alloc (Nat.le_refl _) _
    generalize (w.alloc (.cells zCa RcT)) = w1 at *
    have H1 := Lib.hid h1
    have H3 := Lib.hid h3
    clear h1 h3
    go_wp2_with fail
    refine (HC.out ⟨#[105, 110, 115, 110, 45, 97, 108, 105, 103, 110]⟩ _).mono ?_
    rintro e w2 ⟨rfl, hb⟩
    have HB := Lib.hid (H3.out.trans (hb.mono H3.out.size))
    have hR2 := H1.out.low hb
    have z0 := hR2.cell 0
    have z1 := hR2.cell 1
    have y0 := hR2.frozen 0
    have y1 := hR2.frozen 1
    clear hR2
    simp only [List.getElem?_toArray, List.getElem?_cons_zero, List.getElem?_cons_succ] at z0 z1
    clear hb
    rw [nk_insn_align]
    go_wp2_with fail
    refine bodyPost_ret (v := kE 0) (by simp [results, Tryd.results20, go_sem, z0, z1]) rfl ⟨by rw [HX.out], ?_⟩
    exact ((HB.out.setCell (by exact Nat.le_refl _) _).setCell (by exact Nat.le_refl _) _)
  · have e0 : (a == 0) = false := by simpa using h0
    have HX := Lib.hid (show excK a 0 4 6 = if a = 1 then 4 else 6 from if_neg h0)
    clear h0
    by_cases h1 : a = 1
    · subst h1
      rw [if_pos rfl] at HX
      go_enter Tryd.func20, Tryd.ntmps20
      go_upto_region 1 with (fail)
      have h1 := CsAt.new w RcT zCa
      have h3 : Below w.heap.size w (w.alloc (.cells zCa RcT)) := (Below.refl _ _).alloc (Nat.le_refl _) _
      generalize (w.alloc (.cells zCa RcT)) = w1 at *
      have H1 := Lib.hid h1
      have H3 := Lib.hid h3
      clear h1 h3
      go_wp2_with fail
      refine (HC.out ⟨#[108, 111, 97, 100, 45, 97, 108, 105, 103, 110]⟩ _).mono ?_
      rintro e w2 ⟨rfl, hb⟩
      have HB := Lib.hid (H3.out.trans (hb.mono H3.out.size))
      have hR2 := H1.out.low hb
      have z0 := hR2.cell 0
      have z1 := hR2.cell 1
      have y0 := hR2.frozen 0
      have y1 := hR2.frozen 1
      clear hR2
      simp only [List.getElem?_toArray, List.getElem?_cons_zero, List.getElem?_cons_succ] at z0 z1
      clear hb
      rw [nk_load_align]
      go_wp2_with fail
      refine bodyPost_ret (v := kE 4) (by simp [results, Tryd.results20, go_sem, z0, z1]) rfl ⟨by rw [HX.out], ?_⟩
      exact ((HB.out.setCell (by exact Nat.le_refl _) _).setCell (by exact Nat.le_refl _) _)
    · have e1 : (a == 1) = false := by simpa using h1
      rw [if_neg h1] at HX
      clear h1
      go_enter Tryd.func20, Tryd.ntmps20
      go_upto_region 1 with (fail)
      have h1 := CsAt.new w RcT zCa
      have h3 : Below w.heap.size w (w.alloc (.cells zCa RcT)) := (Below.refl _ _).alloc (Nat.le_refl _) _
      generalize (w.alloc (.cells zCa RcT)) = w1 at *
      have H1 := Lib.hid h1
      have H3 := Lib.hid h3
      clear h1 h3
      go_wp2_with fail
      refine (HC.out ⟨#[115, 116, 111, 114, 101, 45, 97, 108, 105, 103, 110]⟩ _).mono ?_
      rintro e w2 ⟨rfl, hb⟩
      have HB := Lib.hid (H3.out.trans (hb.mono H3.out.size))
      have hR2 := H1.out.low hb
      have z0 := hR2.cell 0
      have z1 := hR2.cell 1
      have y0 := hR2.frozen 0
      have y1 := hR2.frozen 1
      clear hR2
      simp only [List.getElem?_toArray, List.getElem?_cons_zero, List.getElem?_cons_succ] at z0 z1
      clear hb
      rw [nk_store_align]
      go_wp2_with fail
      refine bodyPost_ret (v := kE 6) (by simp [results, Tryd.results20, go_sem, z0, z1]) rfl ⟨by rw [HX.out], ?_⟩
      exact ((HB.out.setCell (by exact Nat.le_refl _) _).setCell (by exact Nat.le_refl _) _)
set_option maxHeartbeats 2000000 in
theorem kracc_fault (a : Int) (w : World) : Calls Tryd.prog 20 #[.int .i64 a, .string ⟨#[102, 97, 117, 108, 116]⟩] w fun e w' => e = .returned (kE (excK a 1 5 7)) ∧ Below w.heap.size w w' := by
  have HC := Lib.hid (fun s W => krexcF_c s W)
  by_cases h0 : a = 0
  · subst h0
    have HX := Lib.hid (show excK 0 1 5 7 = 1 from if_pos rfl)
    go_enter Tryd.func20, Tryd.ntmps20
    go_upto_region 1 with (fail)
    have h1 := CsAt.new w RcT zCa
    have h3 : Below w.heap.size w (w.alloc (.cells zCa RcT)) := (Below.refl _ _).alloc (Nat.le_refl _) _
    generalize (w.alloc (.cells zCa RcT)) = w1 at *
    have H1 := Lib.hid h1
    have H3 := Lib.hid h3
    clear h1 h3
    go_wp2_with fail
    refine (HC.out ⟨#[105, 110, 115, 110, 45, 102, 97, 117, 108, 116]⟩ _).mono ?_
    rintro e w2 ⟨rfl, hb⟩
    have HB := Lib.hid (H3.out.trans (hb.mono H3.out.size))
    have hR2 := H1.out.low hb
    have z0 := hR2.cell 0
    have z1 := hR2.cell 1
    have y0 := hR2.frozen 0
    have y1 := hR2.frozen 1
    clear hR2
    simp only [List.getElem?_toArray, List.getElem?_cons_zero, List.getElem?_cons_succ] at z0 z1
    clear hb
    rw [nk_insn_fault]
    go_wp2_with fail
    refine bodyPost_ret (v := kE 1) (by simp [results, Tryd.results20, go_sem, z0, z1]) rfl ⟨by rw [HX.out], ?_⟩
    exact ((HB.out.setCell (by exact Nat.le_refl _) _).setCell (by exact Nat.le_refl _) _)
  · have e0 : (a == 0) = false := by simpa using h0
    have HX := Lib.hid (show excK a 1 5 7 = if a = 1 then 5 else 7 from if_neg h0)
    clear h0
    by_cases h1 : a = 1
    · subst h1
      rw [if_pos rfl] at HX
      go_enter Tryd.func20, Tryd.ntmps20
      go_upto_region 1 with (fail)
      have h1 := CsAt.new w RcT zCa
      have h3 : Below w.heap.size w (w.alloc (.cells zCa RcT)) := (Below.refl _ _).alloc (Nat.le_refl _) _
      generalize (w.alloc (.cells zCa RcT)) = w1 at *
      have H1 := Lib.hid h1
      have H3 := Lib.hid h3
      clear h1 h3
      go_wp2_with fail
      refine (HC.out ⟨#[108, 111, 97, 100, 45, 102, 97, 117, 108, 116]⟩ _).mono ?_
      rintro e w2 ⟨rfl, hb⟩
      have HB := Lib.hid (H3.out.trans (hb.mono H3.out.size))
      have hR2 := H1.out.low hb
      have z0 := hR2.cell 0
      have z1 := hR2.cell 1
      have y0 := hR2.frozen 0
      have y1 := hR2.frozen 1
      clear hR2
      simp only [List.getElem?_toArray, List.getElem?_cons_zero, List.getElem?_cons_succ] at z0 z1
      clear hb
      rw [nk_load_fault]
      go_wp2_with fail
      refine bodyPost_ret (v := kE 5) (by simp [results, Tryd.results20, go_sem, z0, z1]) rfl ⟨by rw [HX.out], ?_⟩
      exact ((HB.out.setCell (by exact Nat.le_refl _) _).setCell (by exact Nat.le_refl _) _)
    · have e1 : (a == 1) = false := by simpa using h1
      rw [if_neg h1] at HX
      clear h1
      go_enter Tryd.func20, Tryd.ntmps20
      go_upto_region 1 with (fail)
      have h1 := CsAt.new w RcT zCa
      have h3 : Below w.heap.size w (w.alloc (.cells zCa RcT)) := (Below.refl _ _).alloc (Nat.le_refl _) _
      generalize (w.alloc (.cells zCa RcT)) = w1 at *
      have H1 := Lib.hid h1
      have H3 := Lib.hid h3
      clear h1 h3
      go_wp2_with fail
      refine (HC.out ⟨#[115, 116, 111, 114, 101, 45, 102, 97, 117, 108, 116]⟩ _).mono ?_
      rintro e w2 ⟨rfl, hb⟩
      have HB := Lib.hid (H3.out.trans (hb.mono H3.out.size))
      have hR2 := H1.out.low hb
      have z0 := hR2.cell 0
      have z1 := hR2.cell 1
      have y0 := hR2.frozen 0
      have y1 := hR2.frozen 1
      clear hR2
      simp only [List.getElem?_toArray, List.getElem?_cons_zero, List.getElem?_cons_succ] at z0 z1
      clear hb
      rw [nk_store_fault]
      go_wp2_with fail
      refine bodyPost_ret (v := kE 7) (by simp [results, Tryd.results20, go_sem, z0, z1]) rfl ⟨by rw [HX.out], ?_⟩
      exact ((HB.out.setCell (by exact Nat.le_refl _) _).setCell (by exact Nat.le_refl _) _)
set_option maxHeartbeats 2000000 in
theorem kracc_page (a : Int) (w : World) : Calls Tryd.prog 20 #[.int .i64 a, .string ⟨#[112, 97, 103, 101]⟩] w fun e w' => e = .returned (kE (excK a 12 13 15)) ∧ Below w.heap.size w w' := by
  have HC := Lib.hid (fun s W => krexcF_c s W)
  by_cases h0 : a = 0
  · subst h0
    have HX := Lib.hid (show excK 0 12 13 15 = 12 from if_pos rfl)
    go_enter Tryd.func20, Tryd.ntmps20
    go_upto_region 1 with (fail)
    have h1 := CsAt.new w RcT zCa
    have h3 : Below w.heap.size w (w.alloc (.cells zCa RcT)) := (Below.refl _ _).alloc (Nat.le_refl _) _
    generalize (w.alloc (.cells zCa RcT)) = w1 at *
    have H1 := Lib.hid h1
    have H3 := Lib.hid h3
    clear h1 h3
    go_wp2_with fail
    refine (HC.out ⟨#[105, 110, 115, 110, 45, 112, 97, 103, 101]⟩ _).mono ?_
    rintro e w2 ⟨rfl, hb⟩
    have HB := Lib.hid (H3.out.trans (hb.mono H3.out.size))
    have hR2 := H1.out.low hb
    have z0 := hR2.cell 0
    have z1 := hR2.cell 1
    have y0 := hR2.frozen 0
    have y1 := hR2.frozen 1
    clear hR2
    simp only [List.getElem?_toArray, List.getElem?_cons_zero, List.getElem?_cons_succ] at z0 z1
    clear hb
    rw [nk_insn_page]
    go_wp2_with fail
    refine bodyPost_ret (v := kE 12) (by simp [results, Tryd.results20, go_sem, z0, z1]) rfl ⟨by rw [HX.out], ?_⟩
    exact ((HB.out.setCell (by exact Nat.le_refl _) _).setCell (by exact Nat.le_refl _) _)
  · have e0 : (a == 0) = false := by simpa using h0
    have HX := Lib.hid (show excK a 12 13 15 = if a = 1 then 13 else 15 from if_neg h0)
    clear h0
    by_cases h1 : a = 1
    · subst h1
      rw [if_pos rfl] at HX
      go_enter Tryd.func20, Tryd.ntmps20
      go_upto_region 1 with (fail)
      have h1 := CsAt.new w RcT zCa
      have h3 : Below w.heap.size w (w.alloc (.cells zCa RcT)) := (Below.refl _ _).alloc (Nat.le_refl _) _
      generalize (w.alloc (.cells zCa RcT)) = w1 at *
      have H1 := Lib.hid h1
      have H3 := Lib.hid h3
      clear h1 h3
      go_wp2_with fail
      refine (HC.out ⟨#[108, 111, 97, 100, 45, 112, 97, 103, 101]⟩ _).mono ?_
      rintro e w2 ⟨rfl, hb⟩
      have HB := Lib.hid (H3.out.trans (hb.mono H3.out.size))
      have hR2 := H1.out.low hb
      have z0 := hR2.cell 0
      have z1 := hR2.cell 1
      have y0 := hR2.frozen 0
      have y1 := hR2.frozen 1
      clear hR2
      simp only [List.getElem?_toArray, List.getElem?_cons_zero, List.getElem?_cons_succ] at z0 z1
      clear hb
      rw [nk_load_page]
      go_wp2_with fail
      refine bodyPost_ret (v := kE 13) (by simp [results, Tryd.results20, go_sem, z0, z1]) rfl ⟨by rw [HX.out], ?_⟩
      exact ((HB.out.setCell (by exact Nat.le_refl _) _).setCell (by exact Nat.le_refl _) _)
    · have e1 : (a == 1) = false := by simpa using h1
      rw [if_neg h1] at HX
      clear h1
      go_enter Tryd.func20, Tryd.ntmps20
      go_upto_region 1 with (fail)
      have h1 := CsAt.new w RcT zCa
      have h3 : Below w.heap.size w (w.alloc (.cells zCa RcT)) := (Below.refl _ _).alloc (Nat.le_refl _) _
      generalize (w.alloc (.cells zCa RcT)) = w1 at *
      have H1 := Lib.hid h1
      have H3 := Lib.hid h3
      clear h1 h3
      go_wp2_with fail
      refine (HC.out ⟨#[115, 116, 111, 114, 101, 45, 112, 97, 103, 101]⟩ _).mono ?_
      rintro e w2 ⟨rfl, hb⟩
      have HB := Lib.hid (H3.out.trans (hb.mono H3.out.size))
      have hR2 := H1.out.low hb
      have z0 := hR2.cell 0
      have z1 := hR2.cell 1
      have y0 := hR2.frozen 0
      have y1 := hR2.frozen 1
      clear hR2
      simp only [List.getElem?_toArray, List.getElem?_cons_zero, List.getElem?_cons_succ] at z0 z1
      clear hb
      rw [nk_store_page]
      go_wp2_with fail
      refine bodyPost_ret (v := kE 15) (by simp [results, Tryd.results20, go_sem, z0, z1]) rfl ⟨by rw [HX.out], ?_⟩
      exact ((HB.out.setCell (by exact Nat.le_refl _) _).setCell (by exact Nat.le_refl _) _)
set_option maxHeartbeats 2000000 in
theorem krcall_c (p : Int) (w : World) : Calls Tryd.prog 24 #[.int .i64 p] w fun e w' => e = .returned (kE (callK p)) ∧ Below w.heap.size w w' := by
  have HC := Lib.hid (fun s W => krexcF_c s W)
  by_cases h0 : p = 0
  · subst h0
    have HX := Lib.hid (show callK 0 = 8 from if_pos rfl)
    go_enter Tryd.func24, Tryd.ntmps24
    go_upto_region 1 with (fail)
    have h1 := CsAt.new w RcT zCa
    have h3 : Below w.heap.size w (w.alloc (.cells zCa RcT)) := (Below.refl _ _).alloc (Nat.le_refl _) _
    generalize (w.alloc (.cells zCa RcT)) = w1 at *
    have H1 := Lib.hid h1
    have H3 := Lib.hid h3
    clear h1 h3
    go_wp2_with fail
    refine (HC.out ⟨#[99, 97, 108, 108, 45, 117, 115, 101, 114]⟩ _).mono ?_
    rintro e w2 ⟨rfl, hb⟩
    have HB := Lib.hid (H3.out.trans (hb.mono H3.out.size))
    have hR2 := H1.out.low hb
    have z0 := hR2.cell 0
    have z1 := hR2.cell 1
    have y0 := hR2.frozen 0
    have y1 := hR2.frozen 1
    clear hR2
    simp only [List.getElem?_toArray, List.getElem?_cons_zero, List.getElem?_cons_succ] at z0 z1
    clear hb
    rw [nk_call_user]
    go_wp2_with fail
    refine bodyPost_ret (v := kE 8) (by simp [results, Tryd.results24, go_sem, z0, z1]) rfl ⟨by rw [HX.out], ?_⟩
    exact ((HB.out.setCell (by exact Nat.le_refl _) _).setCell (by exact Nat.le_refl _) _)
  · have e0 : (p == 0) = false := by simpa using h0
    have HX := Lib.hid (show callK p = if p = 1 then 9 else 11 from if_neg h0)
    clear h0
    by_cases h1 : p = 1
    · subst h1
      rw [if_pos rfl] at HX
      go_enter Tryd.func24, Tryd.ntmps24
      go_upto_region 1 with (fail)
      have h1 := CsAt.new w RcT zCa
      have h3 : Below w.heap.size w (w.alloc (.cells zCa RcT)) := (Below.refl _ _).alloc (Nat.le_refl _) _
      generalize (w.alloc (.cells zCa RcT)) = w1 at *
      have H1 := Lib.hid h1
      have H3 := Lib.hid h3
      clear h1 h3
      go_wp2_with fail
      refine (HC.out ⟨#[99, 97, 108, 108, 45, 115, 117, 112, 101, 114]⟩ _).mono ?_
      rintro e w2 ⟨rfl, hb⟩
      have HB := Lib.hid (H3.out.trans (hb.mono H3.out.size))
      have hR2 := H1.out.low hb
      have z0 := hR2.cell 0
      have z1 := hR2.cell 1
      have y0 := hR2.frozen 0
      have y1 := hR2.frozen 1
      clear hR2
      simp only [List.getElem?_toArray, List.getElem?_cons_zero, List.getElem?_cons_succ] at z0 z1
      clear hb
      rw [nk_call_super]
      go_wp2_with fail
      refine bodyPost_ret (v := kE 9) (by simp [results, Tryd.results24, go_sem, z0, z1]) rfl ⟨by rw [HX.out], ?_⟩
      exact ((HB.out.setCell (by exact Nat.le_refl _) _).setCell (by exact Nat.le_refl _) _)
    · have e1 : (p == 1) = false := by simpa using h1
      rw [if_neg h1] at HX
      clear h1
      go_enter Tryd.func24, Tryd.ntmps24
      go_upto_region 1 with (fail)
      have h1 := CsAt.new w RcT zCa
      have h3 : Below w.heap.size w (w.alloc (.cells zCa RcT)) := (Below.refl _ _).alloc (Nat.le_refl _) _
      generalize (w.alloc (.cells zCa RcT)) = w1 at *
      have H1 := Lib.hid h1
      have H3 := Lib.hid h3
      clear h1 h3
      go_wp2_with fail
      refine (HC.out ⟨#[99, 97, 108, 108, 45, 109, 97, 99, 104, 105, 110, 101]⟩ _).mono ?_
      rintro e w2 ⟨rfl, hb⟩
      have HB := Lib.hid (H3.out.trans (hb.mono H3.out.size))
      have hR2 := H1.out.low hb
      have z0 := hR2.cell 0
      have z1 := hR2.cell 1
      have y0 := hR2.frozen 0
      have y1 := hR2.frozen 1
      clear hR2
      simp only [List.getElem?_toArray, List.getElem?_cons_zero, List.getElem?_cons_succ] at z0 z1
      clear hb
      rw [nk_call_machine]
      go_wp2_with fail
      refine bodyPost_ret (v := kE 11) (by simp [results, Tryd.results24, go_sem, z0, z1]) rfl ⟨by rw [HX.out], ?_⟩
      exact ((HB.out.setCell (by exact Nat.le_refl _) _).setCell (by exact Nat.le_refl _) _)
theorem toK_bit (b : Bool) (n d i : Int) {p : Int} (hp : p ≠ 3) (hd : 0 ≤ d ∧ d < 18446744073709551616) (hi : 0 ≤ i ∧ i < 18446744073709551616) : toK b n p d i = if tbI (if b then i else d) n then 1 else 3 := by
  unfold toK tbI
  by_cases h0 : 0 ≤ n
  · by_cases h1 : n ≤ 63
    · simp [hp, h0, h1]
    · have : tb (if b then i else d) n.toNat = false := by
        cases b
        · exact tb_big hd.2 (by omega)
        · exact tb_big hi.2 (by omega)
      simp [hp, h0, h1, this]
  · simp [h0]
set_option maxHeartbeats 2000000 in
theorem krto_c (b : Bool) (n p d i : Int) (w : World) (hd : 0 ≤ d ∧ d < 18446744073709551616) (hi : 0 ≤ i ∧ i < 18446744073709551616) :
    Calls Tryd.prog 26 #[.agg #[.bool b, .int .i64 n], .int .i64 p, .int .u64 d, .int .u64 i] w fun e w' => e = .returned (.int .i64 (toK b n p d i)) ∧ Below w.heap.size w w' := by
  have hB : Below w.heap.size w (w.alloc (.cells #[.bool b, .int .i64 n] RcT)) := (Below.refl _ _).alloc (Nat.le_refl _) _
  have HB := Lib.hid hB
  clear hB
  by_cases hp : p = 3
  · subst hp
    have HV := Lib.hid (show toK b n 3 d i = 3 from if_neg (fun h => h.1 rfl))
    clear hd hi
    cases b
    all_goals
      go_enter Tryd.func26, Tryd.ntmps26
      go_wp2_with fail
      go_ret
      exact ⟨by rw [HV.out]; rfl, HB.out⟩
  · have ep : (p != 3) = true := by simpa using hp
    have HV := Lib.hid (toK_bit b n d i hp hd hi)
    have HBd := Lib.hid (fun W => bit_c d n W hd.1 hd.2)
    have HBi := Lib.hid (fun W => bit_c i n W hi.1 hi.2)
    clear hp hd hi
    cases b
    all_goals
      simp only [Bool.false_eq_true, if_false, if_true] at HV
    · cases ht : tbI d n
      all_goals
        rw [ht] at HV HBd
        clear ht
        go_enter Tryd.func26, Tryd.ntmps26
        go_wp2_with fail
        refine (HBd.out _).mono ?_
        rintro e w2 ⟨rfl, rfl⟩
        go_wp2_with fail
        go_ret
        exact ⟨by rw [HV.out]; rfl, HB.out⟩
    · cases ht : tbI i n
      all_goals
        rw [ht] at HV HBi
        clear ht
        go_enter Tryd.func26, Tryd.ntmps26
        go_wp2_with fail
        refine (HBi.out _).mono ?_
        rintro e w2 ⟨rfl, rfl⟩
        go_wp2_with fail
        go_ret
        exact ⟨by rw [HV.out]; rfl, HB.out⟩
theorem lk1 : fI 136 = .tuple #[.agg #[.bool true, .int .i64 3], .bool true] := by kernel_rfl
theorem lk2 : wordK true 7 = 9223372036854775815 := by decide
theorem lk3 : toK false 2 0 4 0 = 1 := by decide +kernel
set_option maxHeartbeats 2000000 in
theorem live21_c (w : World) (hN : OrderIn w) : Calls Tryd.prog 9 #[] w fun e w' => e = .returned (.bool true) ∧ Below w.heap.size w w' := by
  have HN := Lib.hid hN
  have HE := Lib.hid (fun W => eql_ca true true (n := 3) (m := 3) ⟨by omega, by omega⟩ ⟨by omega, by omega⟩ W)
  clear hN
  go_enter Tryd.func9, Tryd.ntmps9
  go_wp2_with fail
  refine (kfirst_c 136 ⟨by omega, by omega⟩ _ HN.out).mono ?_
  rintro e w1 ⟨rfl, hb⟩
  have HB1 := Lib.hid hb
  clear hb
  rw [lk1]
  go_wp2_with fail
  have h1 := CsAt.new w1 CaT #[.bool true, .int .i64 3]
  have HB2 := Lib.hid (HB1.out.alloc HB1.out.size (.cells #[.bool true, .int .i64 3] CaT))
  generalize (w1.alloc (.cells #[.bool true, .int .i64 3] CaT)) = w2 at *
  have H1 := Lib.hid h1
  clear h1
  refine (kword_c true 7 _).mono ?_
  rintro e w3 ⟨rfl, hb⟩
  have HB3 := Lib.hid (HB2.out.trans (hb.mono HB2.out.size))
  have H2 := Lib.hid (H1.out.low hb)
  clear hb
  rw [lk2]
  have z0 := H2.out.cell 0
  have z1 := H2.out.cell 1
  simp only [List.getElem?_toArray, List.getElem?_cons_zero, List.getElem?_cons_succ] at z0 z1
  go_wp2_with (refine wpList_cmpW (by rfl) .eql CaT _ _ _ rfl #[.bool true, .int .i64 3] #[.bool true, .int .i64 3] rfl rfl guard_ca _ (HE.out _) ?_)
  refine (kto_c false 2 0 4 0 _ ⟨by omega, by omega⟩ ⟨by omega, by omega⟩).mono ?_
  rintro e w4 ⟨rfl, hb⟩
  have HB4 := Lib.hid (HB3.out.trans (hb.mono HB3.out.size))
  clear hb
  rw [lk3]
  go_wp2_with fail
  go_ret
  exact ⟨rfl, HB4.out⟩
end Go.Proofs.YtfjdalepaacmgaaDoor
