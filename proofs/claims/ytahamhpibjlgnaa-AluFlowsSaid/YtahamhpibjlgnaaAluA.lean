/-
  Contracts of package alu (layer 7): the functions that long, short and product hand out.
-/
import Derived.Test.YtahamhpibjlgnaaShort
namespace Go.Proofs.Ytahamhpibjlgnaa
open Go.ChangeShapes Go.WideShapes Go.ChangeAt Go.RowKit Wd

def lessU (a b : Int) : Bool := decide (a < b)
theorem plus_c (a b : Int) (w : World) : Calls Try.prog 35 #[.int .u64 a, .int .u64 b] w fun e w' => e = .returned (.int .u64 (IntKind.u64.wrap (a + b))) ∧ w = w' := by
  go_enter Try.func35, Try.ntmps35
  go_wp2
  go_ret
  exact ⟨rfl, rfl⟩
theorem minus_c (a b : Int) (w : World) : Calls Try.prog 36 #[.int .u64 a, .int .u64 b] w fun e w' => e = .returned (.int .u64 (IntKind.u64.wrap (a - b))) ∧ w = w' := by
  go_enter Try.func36, Try.ntmps36
  go_wp2
  go_ret
  exact ⟨rfl, rfl⟩
theorem long1_c (a b : Int) (w : World) : Calls Try.prog 41 #[.int .u64 a, .int .u64 b] w fun e w' => e = .returned (.bool (lessU a b)) ∧ w = w' := by
  go_enter Try.func41, Try.ntmps41
  go_wp2
  go_ret
  exact ⟨rfl, rfl⟩
theorem long2_c (a b : Int) (w : World) : Calls Try.prog 42 #[.int .u64 a, .int .u64 b] w fun e w' => e = .returned (.int .u64 (bits .xor .u64 a b)) ∧ w = w' := by
  go_enter Try.func42, Try.ntmps42
  go_wp2
  go_ret
  exact ⟨rfl, rfl⟩
theorem long3_c (a b : Int) (w : World) : Calls Try.prog 43 #[.int .u64 a, .int .u64 b] w fun e w' => e = .returned (.int .u64 (bits .or .u64 a b)) ∧ w = w' := by
  go_enter Try.func43, Try.ntmps43
  go_wp2
  go_ret
  exact ⟨rfl, rfl⟩
theorem long4_c (a b : Int) (w : World) : Calls Try.prog 44 #[.int .u64 a, .int .u64 b] w fun e w' => e = .returned (.int .u64 (bits .and .u64 a b)) ∧ w = w' := by
  go_enter Try.func44, Try.ntmps44
  go_wp2
  go_ret
  exact ⟨rfl, rfl⟩
theorem flag_less (a b : Int) (pc : Nat) (w : World) (hc : w.cell? ⟨pc, 0, none⟩ = some (.func (.func 30) #[] #[])) :
    Calls Try.prog 68 #[.int .u64 a, .int .u64 b, .pointer (some ⟨pc, 0, none⟩)] w fun e w' => e = .returned (.int .u64 (bi (lessS a b))) ∧ w = w' := by
  cases hl : lessS a b
  · go_enter Try.func68, Try.ntmps68
    go_wp2_with (go_at_call 30; refine (less_c _ _ _).mono ?_; rintro e w' ⟨rfl, rfl⟩)
    go_ret
    exact ⟨rfl, rfl⟩
  · go_enter Try.func68, Try.ntmps68
    go_wp2_with (go_at_call 30; refine (less_c _ _ _).mono ?_; rintro e w' ⟨rfl, rfl⟩)
    go_ret
    exact ⟨rfl, rfl⟩
theorem flag_plain (a b : Int) (pc : Nat) (w : World) (hc : w.cell? ⟨pc, 0, none⟩ = some (.func (.func 41) #[] #[])) :
    Calls Try.prog 68 #[.int .u64 a, .int .u64 b, .pointer (some ⟨pc, 0, none⟩)] w fun e w' => e = .returned (.int .u64 (bi (lessU a b))) ∧ w = w' := by
  cases hl : lessU a b
  · go_enter Try.func68, Try.ntmps68
    go_wp2_with (go_at_call 41; refine (long1_c _ _ _).mono ?_; rintro e w' ⟨rfl, rfl⟩)
    go_ret
    exact ⟨rfl, rfl⟩
  · go_enter Try.func68, Try.ntmps68
    go_wp2_with (go_at_call 41; refine (long1_c _ _ _).mono ?_; rintro e w' ⟨rfl, rfl⟩)
    go_ret
    exact ⟨rfl, rfl⟩
theorem trim_plus (a b : Int) (pc : Nat) (w : World) (hc : w.cell? ⟨pc, 0, none⟩ = some (.func (.func 35) #[] #[])) :
    Calls Try.prog 69 #[.int .u64 a, .int .u64 b, .pointer (some ⟨pc, 0, none⟩)] w fun e w' => e = .returned (.int .u64 (signS (IntKind.u64.wrap (a + b)) 32)) ∧ w = w' := by
  obtain ⟨h0, h1⟩ := wrap_range (a + b)
  have H := Lib.hid (And.intro h0 h1)
  clear h0 h1
  go_enter Try.func69, Try.ntmps69
  go_wp2_with (first
    | (go_at_call 35; refine (plus_c _ _ _).mono ?_; rintro e w' ⟨rfl, rfl⟩)
    | (go_at_call 18; refine (word_c _ _ H.out.1 H.out.2).mono ?_; rintro e w' ⟨rfl, rfl⟩))
  go_ret
  exact ⟨rfl, rfl⟩
theorem trim_minus (a b : Int) (pc : Nat) (w : World) (hc : w.cell? ⟨pc, 0, none⟩ = some (.func (.func 36) #[] #[])) :
    Calls Try.prog 69 #[.int .u64 a, .int .u64 b, .pointer (some ⟨pc, 0, none⟩)] w fun e w' => e = .returned (.int .u64 (signS (IntKind.u64.wrap (a - b)) 32)) ∧ w = w' := by
  obtain ⟨h0, h1⟩ := wrap_range (a - b)
  have H := Lib.hid (And.intro h0 h1)
  clear h0 h1
  go_enter Try.func69, Try.ntmps69
  go_wp2_with (first
    | (go_at_call 36; refine (minus_c _ _ _).mono ?_; rintro e w' ⟨rfl, rfl⟩)
    | (go_at_call 18; refine (word_c _ _ H.out.1 H.out.2).mono ?_; rintro e w' ⟨rfl, rfl⟩))
  go_ret
  exact ⟨rfl, rfl⟩
end Go.Proofs.Ytahamhpibjlgnaa
