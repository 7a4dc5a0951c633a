/-
  Contracts of alu.long, short, product (layer 7), op by op.
-/
import Derived.Test.YtahamhpibjlgnaaAluC1
namespace Go.Proofs.Ytahamhpibjlgnaa
open Go.ChangeShapes Go.WideShapes Go.ChangeAt Go.RowKit Wd

theorem long_22 : Hands 20 22 (fun a b => IntKind.u64.wrap (a + b)) := by
  intro w0
  go_enter Try.func20, Try.ntmps20
  go_wp2
  go_ret
  refine ⟨35, #[], rfl, Below.refl _ _, Go.Proofs.enters_of Try.func35 (by kernel_rfl) rfl, ?_⟩
  intro a b w ha hb hw
  exact calm (plus_c a b w)
theorem long_23 : Hands 20 23 (fun a b => bi (lessS a b)) := by
  intro w0
  go_enter Try.func20, Try.ntmps20
  go_wp2_with (go_at_call 40; refine (flag_c _ _).mono ?_; rintro e w' ⟨rfl, rfl⟩)
  go_ret
  refine ⟨68, _, rfl, (Below.refl _ _).alloc (Nat.le_refl _) _, Go.Proofs.enters_of Try.func68 (by kernel_rfl) rfl, ?_⟩
  intro a b w ha hb hw
  exact calm (flag_less a b _ w (box_cell hw))
theorem long_24 : Hands 20 24 (fun a b => bi (lessU a b)) := by
  intro w0
  go_enter Try.func20, Try.ntmps20
  go_wp2_with (go_at_call 40; refine (flag_c _ _).mono ?_; rintro e w' ⟨rfl, rfl⟩)
  go_ret
  refine ⟨68, _, rfl, (Below.refl _ _).alloc (Nat.le_refl _) _, Go.Proofs.enters_of Try.func68 (by kernel_rfl) rfl, ?_⟩
  intro a b w ha hb hw
  exact calm (flag_plain a b _ w (box_cell hw))
theorem long_25 : Hands 20 25 (bits .xor .u64) := by
  intro w0
  go_enter Try.func20, Try.ntmps20
  go_wp2
  go_ret
  refine ⟨42, #[], rfl, Below.refl _ _, Go.Proofs.enters_of Try.func42 (by kernel_rfl) rfl, ?_⟩
  intro a b w ha hb hw
  exact calm (long2_c a b w)
theorem long_26 : Hands 20 26 (bits .or .u64) := by
  intro w0
  go_enter Try.func20, Try.ntmps20
  go_wp2
  go_ret
  refine ⟨43, #[], rfl, Below.refl _ _, Go.Proofs.enters_of Try.func43 (by kernel_rfl) rfl, ?_⟩
  intro a b w ha hb hw
  exact calm (long3_c a b w)
theorem long_27 : Hands 20 27 (bits .and .u64) := by
  intro w0
  go_enter Try.func20, Try.ntmps20
  go_wp2
  go_ret
  refine ⟨44, #[], rfl, Below.refl _ _, Go.Proofs.enters_of Try.func44 (by kernel_rfl) rfl, ?_⟩
  intro a b w ha hb hw
  exact calm (long4_c a b w)
theorem long_28 : Hands 20 28 (sllS) := by
  intro w0
  go_enter Try.func20, Try.ntmps20
  go_wp2
  go_ret
  refine ⟨37, #[], rfl, Below.refl _ _, Go.Proofs.enters_of Try.func37 (by kernel_rfl) rfl, ?_⟩
  intro a b w ha hb hw
  exact calm (sll_c a b w hb.1 hb.2)
theorem long_29 : Hands 20 29 (srlS) := by
  intro w0
  go_enter Try.func20, Try.ntmps20
  go_wp2
  go_ret
  refine ⟨38, #[], rfl, Below.refl _ _, Go.Proofs.enters_of Try.func38 (by kernel_rfl) rfl, ?_⟩
  intro a b w ha hb hw
  exact calm (srl_c a b w hb.1 hb.2)
theorem long_30 : Hands 20 30 (sraS) := by
  intro w0
  go_enter Try.func20, Try.ntmps20
  go_wp2
  go_ret
  refine ⟨39, #[], rfl, Below.refl _ _, Go.Proofs.enters_of Try.func39 (by kernel_rfl) rfl, ?_⟩
  intro a b w ha hb hw
  exact calm (sra_c a b w hb.1 hb.2)
theorem long_31 : Hands 20 31 (fun a b => IntKind.u64.wrap (a + b)) := by
  intro w0
  go_enter Try.func20, Try.ntmps20
  go_wp2
  go_ret
  refine ⟨35, #[], rfl, Below.refl _ _, Go.Proofs.enters_of Try.func35 (by kernel_rfl) rfl, ?_⟩
  intro a b w ha hb hw
  exact calm (plus_c a b w)
theorem long_32 : Hands 20 32 (fun a b => IntKind.u64.wrap (a - b)) := by
  intro w0
  go_enter Try.func20, Try.ntmps20
  go_wp2
  go_ret
  refine ⟨36, #[], rfl, Below.refl _ _, Go.Proofs.enters_of Try.func36 (by kernel_rfl) rfl, ?_⟩
  intro a b w ha hb hw
  exact calm (minus_c a b w)
theorem long_33 : Hands 20 33 (sllS) := by
  intro w0
  go_enter Try.func20, Try.ntmps20
  go_wp2
  go_ret
  refine ⟨37, #[], rfl, Below.refl _ _, Go.Proofs.enters_of Try.func37 (by kernel_rfl) rfl, ?_⟩
  intro a b w ha hb hw
  exact calm (sll_c a b w hb.1 hb.2)
theorem long_34 : Hands 20 34 (fun a b => bi (lessS a b)) := by
  intro w0
  go_enter Try.func20, Try.ntmps20
  go_wp2_with (go_at_call 40; refine (flag_c _ _).mono ?_; rintro e w' ⟨rfl, rfl⟩)
  go_ret
  refine ⟨68, _, rfl, (Below.refl _ _).alloc (Nat.le_refl _) _, Go.Proofs.enters_of Try.func68 (by kernel_rfl) rfl, ?_⟩
  intro a b w ha hb hw
  exact calm (flag_less a b _ w (box_cell hw))
theorem long_35 : Hands 20 35 (fun a b => bi (lessU a b)) := by
  intro w0
  go_enter Try.func20, Try.ntmps20
  go_wp2_with (go_at_call 40; refine (flag_c _ _).mono ?_; rintro e w' ⟨rfl, rfl⟩)
  go_ret
  refine ⟨68, _, rfl, (Below.refl _ _).alloc (Nat.le_refl _) _, Go.Proofs.enters_of Try.func68 (by kernel_rfl) rfl, ?_⟩
  intro a b w ha hb hw
  exact calm (flag_plain a b _ w (box_cell hw))
theorem long_36 : Hands 20 36 (bits .xor .u64) := by
  intro w0
  go_enter Try.func20, Try.ntmps20
  go_wp2
  go_ret
  refine ⟨42, #[], rfl, Below.refl _ _, Go.Proofs.enters_of Try.func42 (by kernel_rfl) rfl, ?_⟩
  intro a b w ha hb hw
  exact calm (long2_c a b w)
theorem long_37 : Hands 20 37 (srlS) := by
  intro w0
  go_enter Try.func20, Try.ntmps20
  go_wp2
  go_ret
  refine ⟨38, #[], rfl, Below.refl _ _, Go.Proofs.enters_of Try.func38 (by kernel_rfl) rfl, ?_⟩
  intro a b w ha hb hw
  exact calm (srl_c a b w hb.1 hb.2)
theorem long_38 : Hands 20 38 (sraS) := by
  intro w0
  go_enter Try.func20, Try.ntmps20
  go_wp2
  go_ret
  refine ⟨39, #[], rfl, Below.refl _ _, Go.Proofs.enters_of Try.func39 (by kernel_rfl) rfl, ?_⟩
  intro a b w ha hb hw
  exact calm (sra_c a b w hb.1 hb.2)
theorem long_39 : Hands 20 39 (bits .or .u64) := by
  intro w0
  go_enter Try.func20, Try.ntmps20
  go_wp2
  go_ret
  refine ⟨43, #[], rfl, Below.refl _ _, Go.Proofs.enters_of Try.func43 (by kernel_rfl) rfl, ?_⟩
  intro a b w ha hb hw
  exact calm (long3_c a b w)
theorem long_40 : Hands 20 40 (bits .and .u64) := by
  intro w0
  go_enter Try.func20, Try.ntmps20
  go_wp2
  go_ret
  refine ⟨44, #[], rfl, Below.refl _ _, Go.Proofs.enters_of Try.func44 (by kernel_rfl) rfl, ?_⟩
  intro a b w ha hb hw
  exact calm (long4_c a b w)
def longL : List Int := [22, 23, 24, 25, 26, 27, 28, 29, 30, 31, 32, 33, 34, 35, 36, 37, 38, 39, 40]
set_option maxHeartbeats 1000000 in
theorem long_no (op : Int) (h : ∀ k ∈ longL, op ≠ k) : Hands0 20 op := by
  intro w
  have h22 : (op == 22) = false := by simpa using h 22 (by simp [longL])
  have h23 : (op == 23) = false := by simpa using h 23 (by simp [longL])
  have h24 : (op == 24) = false := by simpa using h 24 (by simp [longL])
  have h25 : (op == 25) = false := by simpa using h 25 (by simp [longL])
  have h26 : (op == 26) = false := by simpa using h 26 (by simp [longL])
  have h27 : (op == 27) = false := by simpa using h 27 (by simp [longL])
  have h28 : (op == 28) = false := by simpa using h 28 (by simp [longL])
  have h29 : (op == 29) = false := by simpa using h 29 (by simp [longL])
  have h30 : (op == 30) = false := by simpa using h 30 (by simp [longL])
  have h31 : (op == 31) = false := by simpa using h 31 (by simp [longL])
  have h32 : (op == 32) = false := by simpa using h 32 (by simp [longL])
  have h33 : (op == 33) = false := by simpa using h 33 (by simp [longL])
  have h34 : (op == 34) = false := by simpa using h 34 (by simp [longL])
  have h35 : (op == 35) = false := by simpa using h 35 (by simp [longL])
  have h36 : (op == 36) = false := by simpa using h 36 (by simp [longL])
  have h37 : (op == 37) = false := by simpa using h 37 (by simp [longL])
  have h38 : (op == 38) = false := by simpa using h 38 (by simp [longL])
  have h39 : (op == 39) = false := by simpa using h 39 (by simp [longL])
  have h40 : (op == 40) = false := by simpa using h 40 (by simp [longL])
  clear h
  go_enter Try.func20, Try.ntmps20
  go_wp2
  go_ret
  exact ⟨rfl, rfl⟩
theorem short_41 : Hands 21 41 (fun a b => signS (IntKind.u64.wrap (a + b)) 32) := by
  intro w0
  go_enter Try.func21, Try.ntmps21
  go_wp2_with (go_at_call 45; refine (trim_c _ _).mono ?_; rintro e w' ⟨rfl, rfl⟩)
  go_ret
  refine ⟨69, _, rfl, (Below.refl _ _).alloc (Nat.le_refl _) _, Go.Proofs.enters_of Try.func69 (by kernel_rfl) rfl, ?_⟩
  intro a b w ha hb hw
  exact calm (trim_plus a b _ w (box_cell hw))
theorem short_42 : Hands 21 42 (sllwS) := by
  intro w0
  go_enter Try.func21, Try.ntmps21
  go_wp2
  go_ret
  refine ⟨46, #[], rfl, Below.refl _ _, Go.Proofs.enters_of Try.func46 (by kernel_rfl) rfl, ?_⟩
  intro a b w ha hb hw
  exact calm (sllw_c a b w hb.1 hb.2)
theorem short_43 : Hands 21 43 (srlwS) := by
  intro w0
  go_enter Try.func21, Try.ntmps21
  go_wp2
  go_ret
  refine ⟨47, #[], rfl, Below.refl _ _, Go.Proofs.enters_of Try.func47 (by kernel_rfl) rfl, ?_⟩
  intro a b w ha hb hw
  exact calm (srlw_c a b w ha.1 ha.2 hb.1 hb.2)
theorem short_44 : Hands 21 44 (srawS) := by
  intro w0
  go_enter Try.func21, Try.ntmps21
  go_wp2
  go_ret
  refine ⟨48, #[], rfl, Below.refl _ _, Go.Proofs.enters_of Try.func48 (by kernel_rfl) rfl, ?_⟩
  intro a b w ha hb hw
  exact calm (sraw_c a b w ha.1 ha.2 hb.1 hb.2)
theorem short_45 : Hands 21 45 (fun a b => signS (IntKind.u64.wrap (a + b)) 32) := by
  intro w0
  go_enter Try.func21, Try.ntmps21
  go_wp2_with (go_at_call 45; refine (trim_c _ _).mono ?_; rintro e w' ⟨rfl, rfl⟩)
  go_ret
  refine ⟨69, _, rfl, (Below.refl _ _).alloc (Nat.le_refl _) _, Go.Proofs.enters_of Try.func69 (by kernel_rfl) rfl, ?_⟩
  intro a b w ha hb hw
  exact calm (trim_plus a b _ w (box_cell hw))
theorem short_46 : Hands 21 46 (fun a b => signS (IntKind.u64.wrap (a - b)) 32) := by
  intro w0
  go_enter Try.func21, Try.ntmps21
  go_wp2_with (go_at_call 45; refine (trim_c _ _).mono ?_; rintro e w' ⟨rfl, rfl⟩)
  go_ret
  refine ⟨69, _, rfl, (Below.refl _ _).alloc (Nat.le_refl _) _, Go.Proofs.enters_of Try.func69 (by kernel_rfl) rfl, ?_⟩
  intro a b w ha hb hw
  exact calm (trim_minus a b _ w (box_cell hw))
theorem short_47 : Hands 21 47 (sllwS) := by
  intro w0
  go_enter Try.func21, Try.ntmps21
  go_wp2
  go_ret
  refine ⟨46, #[], rfl, Below.refl _ _, Go.Proofs.enters_of Try.func46 (by kernel_rfl) rfl, ?_⟩
  intro a b w ha hb hw
  exact calm (sllw_c a b w hb.1 hb.2)
theorem short_48 : Hands 21 48 (srlwS) := by
  intro w0
  go_enter Try.func21, Try.ntmps21
  go_wp2
  go_ret
  refine ⟨47, #[], rfl, Below.refl _ _, Go.Proofs.enters_of Try.func47 (by kernel_rfl) rfl, ?_⟩
  intro a b w ha hb hw
  exact calm (srlw_c a b w ha.1 ha.2 hb.1 hb.2)
theorem short_49 : Hands 21 49 (srawS) := by
  intro w0
  go_enter Try.func21, Try.ntmps21
  go_wp2
  go_ret
  refine ⟨48, #[], rfl, Below.refl _ _, Go.Proofs.enters_of Try.func48 (by kernel_rfl) rfl, ?_⟩
  intro a b w ha hb hw
  exact calm (sraw_c a b w ha.1 ha.2 hb.1 hb.2)
def shortL : List Int := [41, 42, 43, 44, 45, 46, 47, 48, 49]
set_option maxHeartbeats 1000000 in
theorem short_no (op : Int) (h : ∀ k ∈ shortL, op ≠ k) : Hands0 21 op := by
  intro w
  have h41 : (op == 41) = false := by simpa using h 41 (by simp [shortL])
  have h42 : (op == 42) = false := by simpa using h 42 (by simp [shortL])
  have h43 : (op == 43) = false := by simpa using h 43 (by simp [shortL])
  have h44 : (op == 44) = false := by simpa using h 44 (by simp [shortL])
  have h45 : (op == 45) = false := by simpa using h 45 (by simp [shortL])
  have h46 : (op == 46) = false := by simpa using h 46 (by simp [shortL])
  have h47 : (op == 47) = false := by simpa using h 47 (by simp [shortL])
  have h48 : (op == 48) = false := by simpa using h 48 (by simp [shortL])
  have h49 : (op == 49) = false := by simpa using h 49 (by simp [shortL])
  clear h
  go_enter Try.func21, Try.ntmps21
  go_wp2
  go_ret
  exact ⟨rfl, rfl⟩
theorem product_54 : Hands 22 54 (mulLo) := by
  intro w0
  go_enter Try.func22, Try.ntmps22
  go_wp2
  go_ret
  refine ⟨49, #[], rfl, Below.refl _ _, Go.Proofs.enters_of Try.func49 (by kernel_rfl) rfl, ?_⟩
  intro a b w ha hb hw
  exact calm (mul_c a b w)
theorem product_55 : Hands 22 55 (hSig) := by
  intro w0
  go_enter Try.func22, Try.ntmps22
  go_wp2
  go_ret
  refine ⟨50, #[], rfl, Below.refl _ _, Go.Proofs.enters_of Try.func50 (by kernel_rfl) rfl, ?_⟩
  intro a b w ha hb hw
  exact high_c a b w ha.1 ha.2 hb.1 hb.2
theorem product_56 : Hands 22 56 (hMix) := by
  intro w0
  go_enter Try.func22, Try.ntmps22
  go_wp2
  go_ret
  refine ⟨51, #[], rfl, Below.refl _ _, Go.Proofs.enters_of Try.func51 (by kernel_rfl) rfl, ?_⟩
  intro a b w ha hb hw
  exact highMixed_c a b w ha.1 ha.2 hb.1 hb.2
theorem product_57 : Hands 22 57 (mulHi) := by
  intro w0
  go_enter Try.func22, Try.ntmps22
  go_wp2
  go_ret
  refine ⟨52, #[], rfl, Below.refl _ _, Go.Proofs.enters_of Try.func52 (by kernel_rfl) rfl, ?_⟩
  intro a b w ha hb hw
  exact highPlain_c a b w ha.1 ha.2 hb.1 hb.2
theorem product_58 : Hands 22 58 (divS) := by
  intro w0
  go_enter Try.func22, Try.ntmps22
  go_wp2
  go_ret
  refine ⟨53, #[], rfl, Below.refl _ _, Go.Proofs.enters_of Try.func53 (by kernel_rfl) rfl, ?_⟩
  intro a b w ha hb hw
  exact calm (div_c a b w hb.1 hb.2)
theorem product_59 : Hands 22 59 (divP) := by
  intro w0
  go_enter Try.func22, Try.ntmps22
  go_wp2
  go_ret
  refine ⟨54, #[], rfl, Below.refl _ _, Go.Proofs.enters_of Try.func54 (by kernel_rfl) rfl, ?_⟩
  intro a b w ha hb hw
  exact calm (divPlain_c a b w ha.1 ha.2 hb.1 hb.2)
theorem product_60 : Hands 22 60 (remS) := by
  intro w0
  go_enter Try.func22, Try.ntmps22
  go_wp2
  go_ret
  refine ⟨55, #[], rfl, Below.refl _ _, Go.Proofs.enters_of Try.func55 (by kernel_rfl) rfl, ?_⟩
  intro a b w ha hb hw
  exact calm (rem_c a b w hb.1 hb.2)
theorem product_61 : Hands 22 61 (remP) := by
  intro w0
  go_enter Try.func22, Try.ntmps22
  go_wp2
  go_ret
  refine ⟨56, #[], rfl, Below.refl _ _, Go.Proofs.enters_of Try.func56 (by kernel_rfl) rfl, ?_⟩
  intro a b w ha hb hw
  exact calm (remPlain_c a b w ha.1 ha.2 hb.1 hb.2)
theorem product_62 : Hands 22 62 (fun a b => signS (mulLo (halfS a false) (halfS b false)) 32) := by
  intro w0
  go_enter Try.func22, Try.ntmps22
  go_wp2_with (go_at_call 57; refine (half_h _ _ _).mono ?_; rintro e w' ⟨rfl, rfl⟩)
  go_ret
  refine ⟨72, _, rfl, ((Below.refl _ _).alloc (Nat.le_refl _) _).alloc (by simp) _, Go.Proofs.enters_of Try.func72 (by kernel_rfl) rfl, ?_⟩
  intro a b w ha hb hw
  exact calm (half_mul a b false _ _ w (two_cells hw).1 (two_cells hw).2 ha hb)
theorem product_63 : Hands 22 63 (fun a b => signS (divS (halfS a false) (halfS b false)) 32) := by
  intro w0
  go_enter Try.func22, Try.ntmps22
  go_wp2_with (go_at_call 57; refine (half_h _ _ _).mono ?_; rintro e w' ⟨rfl, rfl⟩)
  go_ret
  refine ⟨72, _, rfl, ((Below.refl _ _).alloc (Nat.le_refl _) _).alloc (by simp) _, Go.Proofs.enters_of Try.func72 (by kernel_rfl) rfl, ?_⟩
  intro a b w ha hb hw
  exact calm (half_div a b false _ _ w (two_cells hw).1 (two_cells hw).2 ha hb)
theorem product_64 : Hands 22 64 (fun a b => signS (divP (halfS a true) (halfS b true)) 32) := by
  intro w0
  go_enter Try.func22, Try.ntmps22
  go_wp2_with (go_at_call 57; refine (half_h _ _ _).mono ?_; rintro e w' ⟨rfl, rfl⟩)
  go_ret
  refine ⟨72, _, rfl, ((Below.refl _ _).alloc (Nat.le_refl _) _).alloc (by simp) _, Go.Proofs.enters_of Try.func72 (by kernel_rfl) rfl, ?_⟩
  intro a b w ha hb hw
  exact calm (half_divp a b true _ _ w (two_cells hw).1 (two_cells hw).2 ha hb)
theorem product_65 : Hands 22 65 (fun a b => signS (remS (halfS a false) (halfS b false)) 32) := by
  intro w0
  go_enter Try.func22, Try.ntmps22
  go_wp2_with (go_at_call 57; refine (half_h _ _ _).mono ?_; rintro e w' ⟨rfl, rfl⟩)
  go_ret
  refine ⟨72, _, rfl, ((Below.refl _ _).alloc (Nat.le_refl _) _).alloc (by simp) _, Go.Proofs.enters_of Try.func72 (by kernel_rfl) rfl, ?_⟩
  intro a b w ha hb hw
  exact calm (half_rem a b false _ _ w (two_cells hw).1 (two_cells hw).2 ha hb)
theorem product_66 : Hands 22 66 (fun a b => signS (remP (halfS a true) (halfS b true)) 32) := by
  intro w0
  go_enter Try.func22, Try.ntmps22
  go_wp2_with (go_at_call 57; refine (half_h _ _ _).mono ?_; rintro e w' ⟨rfl, rfl⟩)
  go_ret
  refine ⟨72, _, rfl, ((Below.refl _ _).alloc (Nat.le_refl _) _).alloc (by simp) _, Go.Proofs.enters_of Try.func72 (by kernel_rfl) rfl, ?_⟩
  intro a b w ha hb hw
  exact calm (half_remp a b true _ _ w (two_cells hw).1 (two_cells hw).2 ha hb)
def productL : List Int := [54, 55, 56, 57, 58, 59, 60, 61, 62, 63, 64, 65, 66]
set_option maxHeartbeats 1000000 in
theorem product_no (op : Int) (h : ∀ k ∈ productL, op ≠ k) : Hands0 22 op := by
  intro w
  have h54 : (op == 54) = false := by simpa using h 54 (by simp [productL])
  have h55 : (op == 55) = false := by simpa using h 55 (by simp [productL])
  have h56 : (op == 56) = false := by simpa using h 56 (by simp [productL])
  have h57 : (op == 57) = false := by simpa using h 57 (by simp [productL])
  have h58 : (op == 58) = false := by simpa using h 58 (by simp [productL])
  have h59 : (op == 59) = false := by simpa using h 59 (by simp [productL])
  have h60 : (op == 60) = false := by simpa using h 60 (by simp [productL])
  have h61 : (op == 61) = false := by simpa using h 61 (by simp [productL])
  have h62 : (op == 62) = false := by simpa using h 62 (by simp [productL])
  have h63 : (op == 63) = false := by simpa using h 63 (by simp [productL])
  have h64 : (op == 64) = false := by simpa using h 64 (by simp [productL])
  have h65 : (op == 65) = false := by simpa using h 65 (by simp [productL])
  have h66 : (op == 66) = false := by simpa using h 66 (by simp [productL])
  clear h
  go_enter Try.func22, Try.ntmps22
  go_wp2
  go_ret
  exact ⟨rfl, rfl⟩
end Go.Proofs.Ytahamhpibjlgnaa
