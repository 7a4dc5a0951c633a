/-
  Contracts of wide.Short with each op that the law hands it, and of the reference's Half.
-/
import Derived.Test.YtgfdielipbcfeaaQuot
namespace Go.Proofs.Ytgfdielipbcfeaa
open Go.ChangeShapes Go.WideShapes Go.ChangeAt Go.RowKit Wd

theorem cut32 {x : Int} (hx0 : 0 ≤ x) : cutS x 0 32 = x % 4294967296 := by
  symm
  apply eq_word (by omega) (by omega)
  intro i hi
  obtain ⟨X, rfl⟩ := Int.eq_ofNat_of_zero_le hx0
  unfold tb
  have e1 : ((X : Int) % 4294967296).toNat = X % 2 ^ 32 := by omega
  have e2 : (0 + (i : Int)).toNat = i := by omega
  rw [e1, e2, Nat.testBit_mod_two_pow, Int.toNat_natCast]
  congr 1
  apply decide_eq_decide.2
  omega
def halfS (x : Int) (plain : Bool) : Int := if plain then x % 4294967296 else signS x 32
theorem halfS_range (x : Int) (p : Bool) : 0 ≤ halfS x p ∧ halfS x p < 18446744073709551616 := by
  unfold halfS
  cases p
  · exact signS_range x 32
  · simp; omega
theorem half_c (x : Int) (p : Bool) (w : World) (hx0 : 0 ≤ x) (hx : x < 18446744073709551616) :
    Calls Try.prog 43 #[.int .u64 x, .bool p] w fun e w' => e = .returned (.int .u64 (halfS x p)) ∧ Below w.heap.size w w' := by
  cases p
  · go_enter Try.func43, Try.ntmps43
    go_wp2_with fail
    refine (refSign_c _ _ _ hx0 hx (by omega)).mono ?_
    rintro e w1 ⟨rfl, hB⟩
    go_wp2_with fail
    go_ret
    exact ⟨rfl, hB⟩
  · go_enter Try.func43, Try.ntmps43
    go_wp2_with fail
    go_ret
    exact ⟨rfl, Below.refl _ _⟩
theorem divS_range {a b : Int} : 0 ≤ divS a b ∧ divS a b < 18446744073709551616 := by
  unfold divS
  split
  · omega
  · exact wrap_range _
theorem divP_range {a b : Int} (ha0 : 0 ≤ a) (ha : a < 18446744073709551616) (hb0 : 0 ≤ b) : 0 ≤ divP a b ∧ divP a b < 18446744073709551616 := by
  unfold divP
  split
  · omega
  · exact ⟨Int.ediv_nonneg ha0 hb0, Int.lt_of_le_of_lt (Int.ediv_le_self _ ha0) ha⟩
theorem remS_range {a b : Int} : 0 ≤ remS a b ∧ remS a b < 18446744073709551616 := wrap_range _
theorem remP_range {a b : Int} : 0 ≤ remP a b ∧ remP a b < 18446744073709551616 := wrap_range _

theorem fn_nil (f : FuncId) (w : World) : (binOp .eql 47 (.func (.func f) #[] #[]) .nilFunc).run Try.prog w = .ok (.bool false) w := by kernel_rfl
theorem nil_nil (w : World) : (binOp .eql 47 .nilFunc .nilFunc).run Try.prog w = .ok (.bool true) w := by kernel_rfl
end Go.Proofs.Ytgfdielipbcfeaa
