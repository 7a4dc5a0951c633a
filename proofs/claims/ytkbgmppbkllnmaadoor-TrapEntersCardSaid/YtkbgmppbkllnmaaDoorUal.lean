/-
  Contracts of the reference of layer 4: Size, Signed, Writes. Contracts of kind.between, Class, Size, Signed, Writes, and of the reference's Signed. Contracts of csrfile.File.Get, Turn, Do, and of New, Writes, written.
-/
import Derived.Test.YtkbgmppbkllnmaaDoorUak
import Derived.Test.YtkbgmppbkllnmaaDoorUai
set_option maxRecDepth 20000
namespace Go.Proofs.YtkbgmppbkllnmaaDoor
open Go.ChangeShapes Go.WideShapes Go.ChangeAt Go.RowKit Wd


theorem refClass_yes (k : Nat) (h0 : 1 ≤ k) (h1 : k ≤ 98) (w : World) : Calls Tryd.prog 91 #[.int .i64 k] w fun e w' => e = .returned (.int .i64 (classL.getD k 0 : Nat)) ∧ Below w.heap.size w w' := by
  match k, h0, h1 with
  | 1, _, _ => exact refClass_1 w
  | 2, _, _ => exact refClass_2 w
  | 3, _, _ => exact refClass_3 w
  | 4, _, _ => exact refClass_4 w
  | 5, _, _ => exact refClass_5 w
  | 6, _, _ => exact refClass_6 w
  | 7, _, _ => exact refClass_7 w
  | 8, _, _ => exact refClass_8 w
  | 9, _, _ => exact refClass_9 w
  | 10, _, _ => exact refClass_10 w
  | 11, _, _ => exact refClass_11 w
  | 12, _, _ => exact refClass_12 w
  | 13, _, _ => exact refClass_13 w
  | 14, _, _ => exact refClass_14 w
  | 15, _, _ => exact refClass_15 w
  | 16, _, _ => exact refClass_16 w
  | 17, _, _ => exact refClass_17 w
  | 18, _, _ => exact refClass_18 w
  | 19, _, _ => exact refClass_19 w
  | 20, _, _ => exact refClass_20 w
  | 21, _, _ => exact refClass_21 w
  | 22, _, _ => exact refClass_22 w
  | 23, _, _ => exact refClass_23 w
  | 24, _, _ => exact refClass_24 w
  | 25, _, _ => exact refClass_25 w
  | 26, _, _ => exact refClass_26 w
  | 27, _, _ => exact refClass_27 w
  | 28, _, _ => exact refClass_28 w
  | 29, _, _ => exact refClass_29 w
  | 30, _, _ => exact refClass_30 w
  | 31, _, _ => exact refClass_31 w
  | 32, _, _ => exact refClass_32 w
  | 33, _, _ => exact refClass_33 w
  | 34, _, _ => exact refClass_34 w
  | 35, _, _ => exact refClass_35 w
  | 36, _, _ => exact refClass_36 w
  | 37, _, _ => exact refClass_37 w
  | 38, _, _ => exact refClass_38 w
  | 39, _, _ => exact refClass_39 w
  | 40, _, _ => exact refClass_40 w
  | 41, _, _ => exact refClass_41 w
  | 42, _, _ => exact refClass_42 w
  | 43, _, _ => exact refClass_43 w
  | 44, _, _ => exact refClass_44 w
  | 45, _, _ => exact refClass_45 w
  | 46, _, _ => exact refClass_46 w
  | 47, _, _ => exact refClass_47 w
  | 48, _, _ => exact refClass_48 w
  | 49, _, _ => exact refClass_49 w
  | 50, _, _ => exact refClass_50 w
  | 51, _, _ => exact refClass_51 w
  | 52, _, _ => exact refClass_52 w
  | 53, _, _ => exact refClass_53 w
  | 54, _, _ => exact refClass_54 w
  | 55, _, _ => exact refClass_55 w
  | 56, _, _ => exact refClass_56 w
  | 57, _, _ => exact refClass_57 w
  | 58, _, _ => exact refClass_58 w
  | 59, _, _ => exact refClass_59 w
  | 60, _, _ => exact refClass_60 w
  | 61, _, _ => exact refClass_61 w
  | 62, _, _ => exact refClass_62 w
  | 63, _, _ => exact refClass_63 w
  | 64, _, _ => exact refClass_64 w
  | 65, _, _ => exact refClass_65 w
  | 66, _, _ => exact refClass_66 w
  | 67, _, _ => exact refClass_67 w
  | 68, _, _ => exact refClass_68 w
  | 69, _, _ => exact refClass_69 w
  | 70, _, _ => exact refClass_70 w
  | 71, _, _ => exact refClass_71 w
  | 72, _, _ => exact refClass_72 w
  | 73, _, _ => exact refClass_73 w
  | 74, _, _ => exact refClass_74 w
  | 75, _, _ => exact refClass_75 w
  | 76, _, _ => exact refClass_76 w
  | 77, _, _ => exact refClass_77 w
  | 78, _, _ => exact refClass_78 w
  | 79, _, _ => exact refClass_79 w
  | 80, _, _ => exact refClass_80 w
  | 81, _, _ => exact refClass_81 w
  | 82, _, _ => exact refClass_82 w
  | 83, _, _ => exact refClass_83 w
  | 84, _, _ => exact refClass_84 w
  | 85, _, _ => exact refClass_85 w
  | 86, _, _ => exact refClass_86 w
  | 87, _, _ => exact refClass_87 w
  | 88, _, _ => exact refClass_88 w
  | 89, _, _ => exact refClass_89 w
  | 90, _, _ => exact refClass_90 w
  | 91, _, _ => exact refClass_91 w
  | 92, _, _ => exact refClass_92 w
  | 93, _, _ => exact refClass_93 w
  | 94, _, _ => exact refClass_94 w
  | 95, _, _ => exact refClass_95 w
  | 96, _, _ => exact refClass_96 w
  | 97, _, _ => exact refClass_97 w
  | 98, _, _ => exact refClass_98 w
  | n + 99, _, h => exact absurd h (by omega)
theorem refClass_c (op : Int) (w : World) : Calls Tryd.prog 91 #[.int .i64 op] w fun e w' => e = .returned (.int .i64 (classS op)) ∧ Below w.heap.size w w' := by
  by_cases h : 1 ≤ op ∧ op ≤ 98
  · have e : classS op = (classL.getD op.toNat 0 : Nat) := by unfold classS; rw [if_pos h]
    rw [e]
    have := refClass_yes op.toNat (by omega) (by omega) w
    rw [show ((op.toNat : Nat) : Int) = op by omega] at this
    exact this
  · have e : classS op = 0 := by unfold classS; rw [if_neg h]
    rw [e]
    exact refClass_no op h w

theorem class_of {op : Int} : classS op = 0 ∨ classS op = 1 ∨ classS op = 2 ∨ classS op = 3 ∨ classS op = 4 ∨ classS op = 5 ∨ classS op = 6 ∨ classS op = 7 ∨ classS op = 8 ∨ classS op = 9 ∨ classS op = 10 := by
  by_cases h : 1 ≤ op ∧ op ≤ 98
  · have e : classS op = (classL.getD op.toNat 0 : Nat) := by unfold classS; rw [if_pos h]
    have l : ∀ k : Fin 99, classL.getD k.val 0 ≤ 10 := by decide +kernel
    have := l ⟨op.toNat, by omega⟩
    simp only at this
    omega
  · exact .inl (by unfold classS; rw [if_neg h])
def writesS (op : Int) : Bool := classS op == 1 || classS op == 2 || classS op == 3 || classS op == 5 || classS op == 7 || classS op == 8
def sizeL : List Nat := [0, 0, 0, 0, 0, 0, 0, 0, 0, 0, 0, 1, 2, 4, 8, 1, 2, 4, 1, 2, 4, 8, 0, 0, 0, 0, 0, 0, 0, 0, 0, 0, 0, 0, 0, 0, 0, 0, 0, 0, 0, 0, 0, 0, 0, 0, 0, 0, 0, 0, 0, 0, 0, 0, 0, 0, 0, 0, 0, 0, 0, 0, 0, 0, 0, 0, 0, 4, 4, 4, 4, 4, 4, 4, 4, 4, 4, 4, 8, 8, 8, 8, 8, 8, 8, 8, 8, 8, 8, 0, 0, 0, 0, 0, 0, 0, 0, 0, 0]
def sizeS (op : Int) : Int := if 1 ≤ op ∧ op ≤ 98 then (sizeL.getD op.toNat 0 : Nat) else 0
theorem class_mem : ∀ k : Fin 99, ¬ (11 ≤ k.val ∧ k.val ≤ 21 ∨ 67 ≤ k.val ∧ k.val ≤ 88) → classL.getD k.val 0 ≠ 5 ∧ classL.getD k.val 0 ≠ 6 ∧ classL.getD k.val 0 ≠ 7 ∧ sizeL.getD k.val 0 = 0 := by decide +kernel
end Go.Proofs.YtkbgmppbkllnmaaDoor
set_option maxRecDepth 20000
namespace Go.Proofs.YtkbgmppbkllnmaaDoor
open Go.ChangeShapes Go.WideShapes Go.ChangeAt Go.RowKit Wd

def btw (op a b : Int) : Bool := decide (a ≤ op) && decide (op ≤ b)
theorem btw_iff {op a b : Int} : btw op a b = true ↔ a ≤ op ∧ op ≤ b := by simp [btw]
set_option maxHeartbeats 400000 in
theorem between_c (op a b : Int) (w : World) : Calls Tryd.prog 104 #[.int .i64 op, .int .i64 a, .int .i64 b] w fun e w' => e = .returned (.bool (btw op a b)) ∧ w = w' := by
  by_cases h1 : a ≤ op
  · have d1 : decide (a ≤ op) = true := by simpa using h1
    have HB := Lib.hid (show decide (op ≤ b) = btw op a b by simp [btw, d1])
    clear h1
    go_enter Tryd.func104, Tryd.ntmps104
    go_wp2_with fail
    go_ret
    exact ⟨ret_b HB.out, rfl⟩
  · have d1 : decide (a ≤ op) = false := by simpa using h1
    have HB := Lib.hid (show false = btw op a b by simp [btw, d1])
    clear h1
    go_enter Tryd.func104, Tryd.ntmps104
    go_wp2_with fail
    go_ret
    exact ⟨ret_b HB.out, rfl⟩

theorem btw_no {op a b : Int} (h : ¬ (a ≤ op ∧ op ≤ b)) : btw op a b = false := by
  cases hb : btw op a b
  · rfl
  · exact absurd (btw_iff.1 hb) h
def classI (op : Int) : Int := if btw op 1 2 then 2 else if btw op 3 4 then 3 else if btw op 5 10 then 4 else if btw op 11 17 then 5 else if btw op 18 21 then 6 else if btw op 22 49 then 1 else if btw op 54 66 then 1 else if btw op 50 51 then 9 else if btw op 67 88 then 7 else if btw op 89 94 then 8 else if btw op 52 53 then 10 else if btw op 95 98 then 10 else 0
theorem class_tab (op : Int) : classS op = classI op := by
  by_cases h : 1 ≤ op ∧ op ≤ 98
  · have l : ∀ k : Fin 99, 1 ≤ k.val → ((classL.getD k.val 0 : Nat) : Int) = classI (k.val : Nat) := by decide +kernel
    have := l ⟨op.toNat, by omega⟩ (by simp only; omega)
    simp only at this
    unfold classS
    rw [if_pos h, this]
    congr 1; omega
  · unfold classS classI
    rw [if_neg h]
    have n : ∀ a b : Int, 1 ≤ a → b ≤ 98 → btw op a b = false := fun a b ha hb => btw_no (by omega)
    rw [n 1 2, n 3 4, n 5 10, n 11 17, n 18 21, n 22 49, n 54 66, n 50 51, n 67 88, n 89 94, n 52 53, n 95 98] <;> first | rfl | decide
def sizeI (op : Int) : Int := if op == 11 then 1 else if op == 15 then 1 else if op == 18 then 1 else if op == 12 then 2 else if op == 16 then 2 else if op == 19 then 2 else if op == 13 then 4 else if op == 17 then 4 else if op == 20 then 4 else if op == 14 then 8 else if op == 21 then 8 else if btw op 67 77 then 4 else if btw op 78 88 then 8 else 0
theorem size_tab (op : Int) : sizeS op = sizeI op := by
  by_cases h : 1 ≤ op ∧ op ≤ 98
  · have l : ∀ k : Fin 99, 1 ≤ k.val → ((sizeL.getD k.val 0 : Nat) : Int) = sizeI (k.val : Nat) := by decide +kernel
    have := l ⟨op.toNat, by omega⟩ (by simp only; omega)
    simp only at this
    unfold sizeS
    rw [if_pos h, this]
    congr 1; omega
  · unfold sizeS sizeI
    rw [if_neg h]
    have n : ∀ a b : Int, 1 ≤ a → b ≤ 98 → btw op a b = false := fun a b ha hb => btw_no (by omega)
    have m : ∀ a : Int, 1 ≤ a → a ≤ 98 → (op == a) = false := fun a ha hb => by simp; omega
    rw [n 67 77, n 78 88, m 11, m 12, m 13, m 14, m 15, m 16, m 17, m 18, m 19, m 20, m 21] <;> first | rfl | decide
set_option maxHeartbeats 4000000 in
theorem class_c (op : Int) (w : World) : Calls Tryd.prog 94 #[.int .i64 op] w fun e w' => e = .returned (.int .i64 (classS op)) ∧ w = w' := by
  generalize hc : classS op = c
  rw [class_tab] at hc
  have HC := Lib.hid hc
  clear hc
  go_enter Tryd.func94, Tryd.ntmps94
  go_wp2_with (go_at_call 104; refine (between_c _ _ _ _).mono ?_; rintro e w' ⟨rfl, rfl⟩)
  all_goals
    first
    | (exfalso; simp_all; done)
    | (go_ret; exact ⟨ret_u (by rw [← HC.out]; simp_all [classI]), rfl⟩)
def signS4 (op : Int) : Bool := btw op 11 14 || classS op == 7
theorem sign_tab : ∀ k : Fin 99, classL.getD k.val 0 = 5 → ((Tab.names4.getD k.val []).length == 2) = btw (k.val : Nat) 11 14 := by decide +kernel
theorem sign_tab2 : ∀ k : Fin 99, btw (k.val : Nat) 11 14 = true → classL.getD k.val 0 = 5 := by decide +kernel
theorem signS_not {op : Int} (h7 : classS op ≠ 7) (h5 : classS op ≠ 5) : signS4 op = false := by
  unfold signS4
  have e7 : (classS op == 7) = false := by simpa using h7
  rw [e7, Bool.or_false]
  apply btw_no
  intro hb
  apply h5
  have := sign_tab2 ⟨op.toNat, by omega⟩ (btw_iff.2 (by simp only; omega))
  unfold classS
  rw [if_pos (by omega), this]
  rfl
end Go.Proofs.YtkbgmppbkllnmaaDoor
set_option maxRecDepth 20000
namespace Go.Proofs.YtkbgmppbkllnmaaDoor
open Go.ChangeShapes Go.WideShapes Go.ChangeAt Go.RowKit Wd Csr Sta Cf

set_option maxHeartbeats 4000000 in
theorem fcget_c (g : Nat) (n l : Int) (s : S) (w : World) (hK : KeptIn w) (h : FlAt w g s) :
    Calls Tryd.prog 24 #[.pointer (some ⟨g, 0, none⟩), .int .i64 n, .int .u64 l] w fun e w' => e = .returned (.int .u64 (getS s n l)) ∧ Below w.heap.size w w' := by
  have HW := Lib.hid (fun m W (hb : Below w.heap.size w W) => fword_c g m s W (hK.low hb) (h.low hb))
  have HP := Lib.hid (fun W (hb : Below w.heap.size w W) => fpend_c g l s W (hK.low hb) (h.low hb))
  have HH := Lib.hid h.r.lt
  have h0 : w.cell? ⟨g, 0, none⟩ = some (.int .i64 s.h) := by rw [h.r.cell, fileV_0]
  have HM := Lib.hid h.ok
  clear hK h
  by_cases h256 : n = 256
  · subst h256
    have HV := Lib.hid (show getS s 256 l = viewS (s.f 768) from rfl)
    go_enter Tryd.func24, Tryd.ntmps24
    go_wp2_with fail
    refine (HW.out _ _ (Below.refl _ _)).mono ?_
    rintro e w1 ⟨rfl, hb⟩
    have HB := Lib.hid hb
    clear hb
    go_wp2_with fail
    refine (view_c _ _).mono ?_
    rintro e w2 ⟨rfl, rfl⟩
    go_wp2_with fail
    go_ret
    exact ⟨by rw [HV.out]; rfl, HB.out⟩
  · have e256 : (n == 256) = false := by simpa using h256
    by_cases h260 : n = 260
    · subst h260
      have HV := Lib.hid (show getS s 260 l = bits .and .u64 (s.f 772) (s.f 771) from rfl)
      go_enter Tryd.func24, Tryd.ntmps24
      go_wp2_with fail
      refine (HW.out _ _ (Below.refl _ _)).mono ?_
      rintro e w1 ⟨rfl, hb⟩
      have HB := Lib.hid hb
      clear hb
      go_wp2_with fail
      refine (HW.out _ _ HB.out).mono ?_
      rintro e w2 ⟨rfl, hb⟩
      have HB2 := Lib.hid (HB.out.trans (hb.mono HB.out.size))
      clear hb
      go_wp2_with fail
      go_ret
      exact ⟨by rw [HV.out]; rfl, HB2.out⟩
    · have e260 : (n == 260) = false := by simpa using h260
      by_cases h324 : n = 324
      · subst h324
        have HV := Lib.hid (show getS s 324 l = bits .and .u64 (pendS s l) (s.f 771) from rfl)
        go_enter Tryd.func24, Tryd.ntmps24
        go_wp2_with fail
        refine (HP.out _ (Below.refl _ _)).mono ?_
        rintro e w1 ⟨rfl, hb⟩
        have HB := Lib.hid hb
        clear hb
        go_wp2_with fail
        refine (HW.out _ _ HB.out).mono ?_
        rintro e w2 ⟨rfl, hb⟩
        have HB2 := Lib.hid (HB.out.trans (hb.mono HB.out.size))
        clear hb
        go_wp2_with fail
        go_ret
        exact ⟨by rw [HV.out]; rfl, HB2.out⟩
      · have e324 : (n == 324) = false := by simpa using h324
        by_cases h836 : n = 836
        · subst h836
          have HV := Lib.hid (show getS s 836 l = pendS s l from rfl)
          go_enter Tryd.func24, Tryd.ntmps24
          go_wp2_with fail
          refine (HP.out _ (Below.refl _ _)).mono ?_
          rintro e w1 ⟨rfl, hb⟩
          have HB := Lib.hid hb
          clear hb
          go_wp2_with fail
          go_ret
          exact ⟨by rw [HV.out]; rfl, HB.out⟩
        · have e836 : (n == 836) = false := by simpa using h836
          by_cases h769 : n = 769
          · subst h769
            have HV := Lib.hid (show getS s 769 l = 9223372036856090881 from rfl)
            go_enter Tryd.func24, Tryd.ntmps24
            go_wp2_with fail
            go_ret
            exact ⟨by rw [HV.out]; rfl, Below.refl _ _⟩
          · have e769 : (n == 769) = false := by simpa using h769
            by_cases h3072 : n = 3072
            · subst h3072
              have HV := Lib.hid (show getS s 3072 l = s.f 2816 from rfl)
              go_enter Tryd.func24, Tryd.ntmps24
              go_wp2_with fail
              refine (HW.out _ _ (Below.refl _ _)).mono ?_
              rintro e w1 ⟨rfl, hb⟩
              have HB := Lib.hid hb
              clear hb
              go_wp2_with fail
              go_ret
              exact ⟨by rw [HV.out]; rfl, HB.out⟩
            · have e3072 : (n == 3072) = false := by simpa using h3072
              by_cases h3074 : n = 3074
              · subst h3074
                have HV := Lib.hid (show getS s 3074 l = s.f 2818 from rfl)
                go_enter Tryd.func24, Tryd.ntmps24
                go_wp2_with fail
                refine (HW.out _ _ (Below.refl _ _)).mono ?_
                rintro e w1 ⟨rfl, hb⟩
                have HB := Lib.hid hb
                clear hb
                go_wp2_with fail
                go_ret
                exact ⟨by rw [HV.out]; rfl, HB.out⟩
              · have e3074 : (n == 3074) = false := by simpa using h3074
                by_cases h3860 : n = 3860
                · subst h3860
                  have HV := Lib.hid (show getS s 3860 l = IntKind.u64.wrap s.h from rfl)
                  go_enter Tryd.func24, Tryd.ntmps24
                  go_wp2_with fail
                  go_ret
                  exact ⟨by rw [HV.out]; rfl, Below.refl _ _⟩
                · have e3860 : (n == 3860) = false := by simpa using h3860
                  have HV := Lib.hid (show getS s n l = s.f n by unfold getS; rw [if_neg h256, if_neg h260, if_neg h324, if_neg h836, if_neg h769, if_neg h3072, if_neg h3074, if_neg h3860])
                  clear h256 h260 h324 h836 h769 h3072 h3074 h3860
                  go_enter Tryd.func24, Tryd.ntmps24
                  go_wp2_with fail
                  refine (HW.out _ _ (Below.refl _ _)).mono ?_
                  rintro e w1 ⟨rfl, hb⟩
                  have HB := Lib.hid hb
                  clear hb
                  go_wp2_with fail
                  go_ret
                  exact ⟨by rw [HV.out]; rfl, HB.out⟩
set_option maxHeartbeats 4000000 in
theorem fturn_c (g : Nat) (r : Bool) (s : S) (w : World) (hK : KeptIn w) (hg : g ≠ 1) (h : FlAt w g s) :
    Calls Tryd.prog 71 #[.pointer (some ⟨g, 0, none⟩), .bool r] w fun e w' => e = .returned (.tuple #[]) ∧ FQ g (turnS s r) w w' := by
  have HC := Lib.hid (fun n i (hi : idxK n = some i) t W (hK : KeptIn W) (h : FlAt W g t) => fcount_c g n t i hi W hK h)
  have HK := Lib.hid (fun W (hc : Chg (one g) w W) => hK.chg hc (fun (e : 1 = g) => hg e.symm))
  have HQ := Lib.hid (h.keep (Below.refl _ _))
  clear hK h hg
  obtain ⟨hh, f, a, b⟩ := s
  cases a <;> cases b <;> cases r
  · skip
    go_enter Tryd.func71, Tryd.ntmps71
    have c23 : w.cell? ⟨g, 23, none⟩ = some (.bool false) := HQ.out.fl.c23
    have c24 : w.cell? ⟨g, 24, none⟩ = some (.bool false) := HQ.out.fl.c24
    have y23 := HQ.out.fl.fz 23
    have y24 := HQ.out.fl.fz 24
    go_wp2_with fail
    refine (HC.out 2816 20 (by decide) _ _ (HK.out _ HQ.out.chg) HQ.out.fl).mono ?_
    rintro e w1 ⟨rfl, hq⟩
    have HQ1 := Lib.hid (HQ.out.then hq)
    clear hq
    have c23 : w1.cell? ⟨g, 23, none⟩ = some (.bool false) := HQ1.out.fl.c23
    have c24 : w1.cell? ⟨g, 24, none⟩ = some (.bool false) := HQ1.out.fl.c24
    have y23 := HQ1.out.fl.fz 23
    have y24 := HQ1.out.fl.fz 24
    go_wp2_with fail
    exact bodyPost_end (v := .tuple #[]) (by simp [results, Tryd.results71, go_sem]) rfl ⟨rfl, HQ1.out.flags false false⟩
  · skip
    go_enter Tryd.func71, Tryd.ntmps71
    have c23 : w.cell? ⟨g, 23, none⟩ = some (.bool false) := HQ.out.fl.c23
    have c24 : w.cell? ⟨g, 24, none⟩ = some (.bool false) := HQ.out.fl.c24
    have y23 := HQ.out.fl.fz 23
    have y24 := HQ.out.fl.fz 24
    go_wp2_with fail
    refine (HC.out 2816 20 (by decide) _ _ (HK.out _ HQ.out.chg) HQ.out.fl).mono ?_
    rintro e w1 ⟨rfl, hq⟩
    have HQ1 := Lib.hid (HQ.out.then hq)
    clear hq
    have c23 : w1.cell? ⟨g, 23, none⟩ = some (.bool false) := HQ1.out.fl.c23
    have c24 : w1.cell? ⟨g, 24, none⟩ = some (.bool false) := HQ1.out.fl.c24
    have y23 := HQ1.out.fl.fz 23
    have y24 := HQ1.out.fl.fz 24
    go_wp2_with fail
    refine (HC.out 2818 21 (by decide) _ _ (HK.out _ HQ1.out.chg) HQ1.out.fl).mono ?_
    rintro e w2 ⟨rfl, hq⟩
    have HQ2 := Lib.hid (HQ1.out.then hq)
    clear hq
    have c23 : w2.cell? ⟨g, 23, none⟩ = some (.bool false) := HQ2.out.fl.c23
    have c24 : w2.cell? ⟨g, 24, none⟩ = some (.bool false) := HQ2.out.fl.c24
    have y23 := HQ2.out.fl.fz 23
    have y24 := HQ2.out.fl.fz 24
    go_wp2_with fail
    exact bodyPost_end (v := .tuple #[]) (by simp [results, Tryd.results71, go_sem]) rfl ⟨rfl, HQ2.out.flags false false⟩
  · skip
    go_enter Tryd.func71, Tryd.ntmps71
    have c23 : w.cell? ⟨g, 23, none⟩ = some (.bool false) := HQ.out.fl.c23
    have c24 : w.cell? ⟨g, 24, none⟩ = some (.bool true) := HQ.out.fl.c24
    have y23 := HQ.out.fl.fz 23
    have y24 := HQ.out.fl.fz 24
    go_wp2_with fail
    refine (HC.out 2816 20 (by decide) _ _ (HK.out _ HQ.out.chg) HQ.out.fl).mono ?_
    rintro e w1 ⟨rfl, hq⟩
    have HQ1 := Lib.hid (HQ.out.then hq)
    clear hq
    have c23 : w1.cell? ⟨g, 23, none⟩ = some (.bool false) := HQ1.out.fl.c23
    have c24 : w1.cell? ⟨g, 24, none⟩ = some (.bool true) := HQ1.out.fl.c24
    have y23 := HQ1.out.fl.fz 23
    have y24 := HQ1.out.fl.fz 24
    go_wp2_with fail
    exact bodyPost_end (v := .tuple #[]) (by simp [results, Tryd.results71, go_sem]) rfl ⟨rfl, HQ1.out.flags false false⟩
  · skip
    go_enter Tryd.func71, Tryd.ntmps71
    have c23 : w.cell? ⟨g, 23, none⟩ = some (.bool false) := HQ.out.fl.c23
    have c24 : w.cell? ⟨g, 24, none⟩ = some (.bool true) := HQ.out.fl.c24
    have y23 := HQ.out.fl.fz 23
    have y24 := HQ.out.fl.fz 24
    go_wp2_with fail
    refine (HC.out 2816 20 (by decide) _ _ (HK.out _ HQ.out.chg) HQ.out.fl).mono ?_
    rintro e w1 ⟨rfl, hq⟩
    have HQ1 := Lib.hid (HQ.out.then hq)
    clear hq
    have c23 : w1.cell? ⟨g, 23, none⟩ = some (.bool false) := HQ1.out.fl.c23
    have c24 : w1.cell? ⟨g, 24, none⟩ = some (.bool true) := HQ1.out.fl.c24
    have y23 := HQ1.out.fl.fz 23
    have y24 := HQ1.out.fl.fz 24
    go_wp2_with fail
    exact bodyPost_end (v := .tuple #[]) (by simp [results, Tryd.results71, go_sem]) rfl ⟨rfl, HQ1.out.flags false false⟩
  · skip
    go_enter Tryd.func71, Tryd.ntmps71
    have c23 : w.cell? ⟨g, 23, none⟩ = some (.bool true) := HQ.out.fl.c23
    have c24 : w.cell? ⟨g, 24, none⟩ = some (.bool false) := HQ.out.fl.c24
    have y23 := HQ.out.fl.fz 23
    have y24 := HQ.out.fl.fz 24
    go_wp2_with fail
    exact bodyPost_end (v := .tuple #[]) (by simp [results, Tryd.results71, go_sem]) rfl ⟨rfl, HQ.out.flags false false⟩
  · skip
    go_enter Tryd.func71, Tryd.ntmps71
    have c23 : w.cell? ⟨g, 23, none⟩ = some (.bool true) := HQ.out.fl.c23
    have c24 : w.cell? ⟨g, 24, none⟩ = some (.bool false) := HQ.out.fl.c24
    have y23 := HQ.out.fl.fz 23
    have y24 := HQ.out.fl.fz 24
    go_wp2_with fail
    refine (HC.out 2818 21 (by decide) _ _ (HK.out _ HQ.out.chg) HQ.out.fl).mono ?_
    rintro e w1 ⟨rfl, hq⟩
    have HQ1 := Lib.hid (HQ.out.then hq)
    clear hq
    have c23 : w1.cell? ⟨g, 23, none⟩ = some (.bool true) := HQ1.out.fl.c23
    have c24 : w1.cell? ⟨g, 24, none⟩ = some (.bool false) := HQ1.out.fl.c24
    have y23 := HQ1.out.fl.fz 23
    have y24 := HQ1.out.fl.fz 24
    go_wp2_with fail
    exact bodyPost_end (v := .tuple #[]) (by simp [results, Tryd.results71, go_sem]) rfl ⟨rfl, HQ1.out.flags false false⟩
  · skip
    go_enter Tryd.func71, Tryd.ntmps71
    have c23 : w.cell? ⟨g, 23, none⟩ = some (.bool true) := HQ.out.fl.c23
    have c24 : w.cell? ⟨g, 24, none⟩ = some (.bool true) := HQ.out.fl.c24
    have y23 := HQ.out.fl.fz 23
    have y24 := HQ.out.fl.fz 24
    go_wp2_with fail
    exact bodyPost_end (v := .tuple #[]) (by simp [results, Tryd.results71, go_sem]) rfl ⟨rfl, HQ.out.flags false false⟩
  · skip
    go_enter Tryd.func71, Tryd.ntmps71
    have c23 : w.cell? ⟨g, 23, none⟩ = some (.bool true) := HQ.out.fl.c23
    have c24 : w.cell? ⟨g, 24, none⟩ = some (.bool true) := HQ.out.fl.c24
    have y23 := HQ.out.fl.fz 23
    have y24 := HQ.out.fl.fz 24
    go_wp2_with fail
    exact bodyPost_end (v := .tuple #[]) (by simp [results, Tryd.results71, go_sem]) rfl ⟨rfl, HQ.out.flags false false⟩
theorem wS_class (op : Int) : (classS op != 8) = !(classS op == 8) := rfl
def wrS (op rs1 : Int) : Bool := classS op == 8 && (op == 89 || op == 92 || rs1 != 0)
set_option maxHeartbeats 2000000 in
theorem fwrites_c (op rs1 : Int) (w : World) : Calls Tryd.prog 95 #[.int .i64 op, .int .i64 rs1] w fun e w' => e = .returned (.bool (wrS op rs1)) ∧ w = w' := by
  have HC := Lib.hid (fun W => class_c op W)
  have HV := Lib.hid (show wrS op rs1 = (classS op == 8 && ((op == 89 || op == 92) || rs1 != 0)) from rfl)
  generalize classS op = c at *
  generalize wrS op rs1 = z at *
  cases hc : (c == 8)
  · have hc' : (c != 8) = true := by rw [bne, hc]; rfl
    rw [hc] at HV
    clear hc
    go_enter Tryd.func95, Tryd.ntmps95
    go_wp2_with fail
    refine (HC.out _).mono ?_
    rintro e w2 ⟨rfl, rfl⟩
    go_wp2_with fail
    go_ret
    exact ⟨by rw [HV.out]; rfl, rfl⟩
  · have hc' : (c != 8) = false := by rw [bne, hc]; rfl
    rw [hc] at HV
    clear hc
    cases h1 : (op == 89) <;> cases h2 : (op == 92)
    all_goals
      rw [h1, h2] at HV
      go_enter Tryd.func95, Tryd.ntmps95
      go_wp2_with fail
      refine (HC.out _).mono ?_
      rintro e w2 ⟨rfl, rfl⟩
      go_wp2_with fail
      go_ret
      exact ⟨by rw [HV.out]; rfl, rfl⟩
def wtS (op x v : Int) : Int := if op = 90 ∨ op = 93 then bits .or .u64 x v else if op = 91 ∨ op = 94 then bits .andNot .u64 x v else v
theorem wtS_64 (op : Int) {x v : Int} (hx : W64 x) (hv : W64 v) : W64 (wtS op x v) := by
  unfold wtS
  split
  · exact or_range hx.1 hx.2 hv.1 hv.2
  · split
    · exact andNot_range hx.1 hx.2 hv.1 hv.2
    · exact hv
set_option maxHeartbeats 2000000 in
theorem fwritten_c (op x v : Int) (w : World) : Calls Tryd.prog 96 #[.int .i64 op, .int .u64 x, .int .u64 v] w fun e w' => e = .returned (.int .u64 (wtS op x v)) ∧ w = w' := by
  by_cases h90 : op = 90
  · subst h90
    have HV := Lib.hid (show wtS 90 x v = bits .or .u64 x v by unfold wtS; simp)
    go_enter Tryd.func96, Tryd.ntmps96
    go_wp2_with fail
    go_ret
    exact ⟨by rw [HV.out]; rfl, rfl⟩
  · have e90 : (op == 90) = false := by simpa using h90
    by_cases h93 : op = 93
    · subst h93
      have HV := Lib.hid (show wtS 93 x v = bits .or .u64 x v by unfold wtS; simp)
      go_enter Tryd.func96, Tryd.ntmps96
      go_wp2_with fail
      go_ret
      exact ⟨by rw [HV.out]; rfl, rfl⟩
    · have e93 : (op == 93) = false := by simpa using h93
      by_cases h91 : op = 91
      · subst h91
        have HV := Lib.hid (show wtS 91 x v = bits .andNot .u64 x v by unfold wtS; simp)
        go_enter Tryd.func96, Tryd.ntmps96
        go_wp2_with fail
        go_ret
        exact ⟨by rw [HV.out]; rfl, rfl⟩
      · have e91 : (op == 91) = false := by simpa using h91
        by_cases h94 : op = 94
        · subst h94
          have HV := Lib.hid (show wtS 94 x v = bits .andNot .u64 x v by unfold wtS; simp)
          go_enter Tryd.func96, Tryd.ntmps96
          go_wp2_with fail
          go_ret
          exact ⟨by rw [HV.out]; rfl, rfl⟩
        · have e94 : (op == 94) = false := by simpa using h94
          have HV := Lib.hid (show wtS op x v = v by unfold wtS; rw [if_neg (by omega), if_neg (by omega)])
          go_enter Tryd.func96, Tryd.ntmps96
          go_wp2_with fail
          go_ret
          exact ⟨by rw [HV.out]; rfl, rfl⟩
def doS (s : S) (op n rs1 v : Int) : S := if classS op == 8 then (if wrS op rs1 then setS s n (wtS op (getS s n 0) v) else s) else s
def doV (s : S) (op n l : Int) : Int := if classS op == 8 then getS s n l else 0
theorem doS_ok {s : S} (h : Ok s) (op n rs1 : Int) {v : Int} (hv : W64 v) : Ok (doS s op n rs1 v) := by
  unfold doS
  repeat' split
  · exact setS_ok h n (wtS_64 op (get_64 h n ⟨by omega, by omega⟩) hv)
  · exact h
  · exact h
abbrev InT : TypeId := 81
/-- What stands while Do reckons: the file, the instruction in its box, the tables. -/
structure DxS (w W : World) (g bx : Nat) (s : S) (cs : Array Value) : Prop where
  fl : FlAt W g s
  b : CsAt W bx InT cs
  r : RowsIn W
  k : KeptIn W
  bel : Below w.heap.size w W
theorem DxS.low {w W W' : World} {g bx : Nat} {s : S} {cs : Array Value} (h : DxS w W g bx s cs) (hb : Below W.heap.size W W') : DxS w W' g bx s cs := ⟨h.fl.low hb, h.b.low hb, h.r.low hb, h.k.low hb, h.bel.trans (hb.mono h.bel.size)⟩
theorem DxS.drew {w W : World} {g bx : Nat} {s : S} {cs : Array Value} (h : DxS w W g bx s cs) : DxS w W.drew g bx s cs := ⟨h.fl.drew, h.b, h.r, h.k, h.bel.drew⟩
set_option maxHeartbeats 4000000 in
theorem fdo_c (g : Nat) (op rd rs1 rs2 imm n v l : Int) (aq rl : Bool) (s : S) (hv : W64 v) (w : World) (hN : RowsIn w) (hK : KeptIn w) (h : FlAt w g s) :
    Calls Tryd.prog 70 #[.pointer (some ⟨g, 0, none⟩), .agg #[.int .i64 op, .int .i64 rd, .int .i64 rs1, .int .i64 rs2, .int .i64 imm, .int .i64 n, .bool aq, .bool rl], .int .u64 v, .int .u64 l] w fun e w' => e = .returned (.int .u64 (doV s op n l)) ∧ FQ g (doS s op n rs1 v) w w' := by
  have hB : Below w.heap.size w (w.alloc (.cells #[.int .i64 op, .int .i64 rd, .int .i64 rs1, .int .i64 rs2, .int .i64 imm, .int .i64 n, .bool aq, .bool rl] InT)) := (Below.refl _ _).alloc (Nat.le_refl _) _
  have HS := Lib.hid (show DxS w (w.alloc (.cells #[.int .i64 op, .int .i64 rd, .int .i64 rs1, .int .i64 rs2, .int .i64 imm, .int .i64 n, .bool aq, .bool rl] InT)) g w.heap.size s #[.int .i64 op, .int .i64 rd, .int .i64 rs1, .int .i64 rs2, .int .i64 imm, .int .i64 n, .bool aq, .bool rl] from ⟨h.low hB, CsAt.new w InT _, hN.low hB, hK.low hB, hB⟩)
  have HC := Lib.hid (fun W => class_c op W)
  have HW := Lib.hid (fun W => fwrites_c op rs1 W)
  have HU := Lib.hid (show doS s op n rs1 v = if classS op == 8 then (if wrS op rs1 then setS s n (wtS op (getS s n 0) v) else s) else s from rfl)
  have HV := Lib.hid (show doV s op n l = if classS op == 8 then getS s n l else 0 from rfl)
  have HX := Lib.hid (wtS_64 op (get_64 h.ok n (l := 0) ⟨by omega, by omega⟩) hv)
  clear hN hK h hB hv
  generalize classS op = c at *
  have q0 := HS.out.b.cell 0
  have q2 := HS.out.b.cell 2
  have q5 := HS.out.b.cell 5
  simp only [List.getElem?_toArray, List.getElem?_cons_zero, List.getElem?_cons_succ] at q0 q2 q5
  cases hc : (c == 8)
  · have hc' : (c != 8) = true := by rw [bne, hc]; rfl
    rw [hc] at HU HV
    clear hc
    go_enter Tryd.func70, Tryd.ntmps70
    go_upto_region 1 with fail
    generalize w.alloc (.cells #[.int .i64 op, .int .i64 rd, .int .i64 rs1, .int .i64 rs2, .int .i64 imm, .int .i64 n, .bool aq, .bool rl] InT) = w1 at *
    go_wp2_with fail
    refine (HC.out _).mono ?_
    rintro e w2 ⟨rfl, rfl⟩
    go_wp2_with fail
    go_ret
    exact ⟨by rw [HV.out]; rfl, by rw [HU.out]; exact ⟨HS.out.fl, Chg.of_below HS.out.bel⟩⟩
  · have hc' : (c != 8) = false := by rw [bne, hc]; rfl
    rw [hc] at HU HV
    clear hc
    cases hw : wrS op rs1
    all_goals
      rw [hw] at HU HW
      clear hw
      go_enter Tryd.func70, Tryd.ntmps70
      go_upto_region 1 with fail
      generalize w.alloc (.cells #[.int .i64 op, .int .i64 rd, .int .i64 rs1, .int .i64 rs2, .int .i64 imm, .int .i64 n, .bool aq, .bool rl] InT) = w1 at *
      go_wp2_with fail
      refine (HC.out _).mono ?_
      rintro e w2 ⟨rfl, rfl⟩
      go_wp2_with fail
      refine (fcget_c g n l s _ HS.out.k HS.out.fl).mono ?_
      rintro e w3 ⟨rfl, hb⟩
      have HS3 := Lib.hid (HS.out.low hb)
      clear hb HS q0 q2 q5
      have q0 := HS3.out.b.cell 0
      have q2 := HS3.out.b.cell 2
      simp only [List.getElem?_toArray, List.getElem?_cons_zero, List.getElem?_cons_succ] at q0 q2
      go_wp2_with fail
      refine (HW.out _).mono ?_
      rintro e w4 ⟨rfl, rfl⟩
    · go_wp2_with fail
      go_ret
      exact ⟨by rw [HV.out]; rfl, by rw [HU.out]; exact ⟨HS3.out.fl, Chg.of_below HS3.out.bel⟩⟩
    · go_upto_region 5 with fail
      refine wp_region_steady_tail (fun W => DxS w W g w.heap.size s #[.int .i64 op, .int .i64 rd, .int .i64 rs1, .int .i64 rs2, .int .i64 imm, .int .i64 n, .bool aq, .bool rl]) 11 (by kernel_rfl) (by kernel_rfl) HS3.out.drew ?_
      iterate 2
        refine steady_val ?_ ?_ (by kernel_rfl) (fun W hS => ?_) ?_ ?_
        rotate_left 2
        · go_simp
          exact rfl
        · go_simp
          exact rfl
      refine steady_val ?_ ?_ (by kernel_rfl) (fun W hS => ?_) ?_ ?_
      rotate_left 2
      · have q := hS.b.cell 5; simp only [List.getElem?_toArray, List.getElem?_cons_zero, List.getElem?_cons_succ] at q; go_simp
        exact rfl
      · go_simp
        exact rfl
      refine steady_val ?_ ?_ (by kernel_rfl) (fun W hS => ?_) ?_ ?_
      rotate_left 2
      · go_simp
        exact rfl
      · go_simp
        exact rfl
      refine steady_val ?_ ?_ (by kernel_rfl) (fun W hS => ?_) ?_ ?_
      rotate_left 2
      · have q := hS.b.cell 0; simp only [List.getElem?_toArray, List.getElem?_cons_zero] at q; go_simp
        exact rfl
      · go_simp
        exact rfl
      iterate 2
        refine steady_val ?_ ?_ (by kernel_rfl) (fun W hS => ?_) ?_ ?_
        rotate_left 2
        · go_simp
          exact rfl
        · go_simp
          exact rfl
      refine steady_val ?_ ?_ (by kernel_rfl) (fun W hS => ?_) ?_ ?_
      rotate_left 2
      · have q := hS.b.cell 5; simp only [List.getElem?_toArray, List.getElem?_cons_zero, List.getElem?_cons_succ] at q; go_simp
        exact rfl
      · go_simp
        exact rfl
      refine steady_enter (.int .u64 (getS s n 0)) 24 #[.pointer (some ⟨g, 0, none⟩), .int .i64 n, .int .u64 0] ?_ (by kernel_rfl) (fun W hS => ?_) (fun W hS => (fcget_c g n 0 s W hS.k hS.fl).mono (by rintro e w' ⟨rfl, hb⟩; exact ⟨rfl, hS.low hb⟩)) ?_ ?_
      rotate_left 1
      · go_simp
      · go_simp
        exact rfl
      refine steady_val ?_ ?_ (by kernel_rfl) (fun W hS => ?_) ?_ ?_
      rotate_left 2
      · go_simp
        exact rfl
      · go_simp
        exact rfl
      refine steady_enter (.int .u64 (wtS op (getS s n 0) v)) 96 #[.int .i64 op, .int .u64 (getS s n 0), .int .u64 v] ?_ (by kernel_rfl) (fun W hS => ?_) (fun W hS => (fwritten_c op (getS s n 0) v W).mono (by rintro e w' ⟨rfl, rfl⟩; exact ⟨rfl, hS⟩)) ?_ ?_
      rotate_left 1
      · go_simp
      · go_simp
        exact rfl
      refine steady_nil ?_
      intro W hS
      have HSET := Lib.hid (fset_c g n (wtS op (getS s n 0) v) s HX.out W hS.r hS.k hS.fl)
      have HBW := Lib.hid hS.bel
      clear hS HS3 q0 q2
      simp only [List.drop_succ_cons, List.drop_zero]
      go_wp2_with fail
      refine HSET.out.mono ?_
      rintro e w5 ⟨rfl, hq⟩
      have HQ := Lib.hid (hq.after HBW.out)
      clear hq
      go_wp2_with fail
      go_ret
      exact ⟨by rw [HV.out]; rfl, by rw [HU.out]; exact HQ.out⟩
end Go.Proofs.YtkbgmppbkllnmaaDoor
