/-
  Contracts of the reference of layer 1: in, Put, Ones.
-/
import Derived.Test.YtmaooljlkpfkoaaRefA
namespace Go.Proofs.Ytmaooljlkpfkoaa
open Go.ChangeShapes Go.WideShapes Go.ChangeAt Go.RowKit Wd

def inK (p : Int) (i : Nat) : Int := if 1000 < (i : Int) - p then 1000 else (i : Int) - p
theorem bit_inK {n p : Int} {i : Nat} (hn : n < 18446744073709551616) (h : 0 ≤ (i : Int) - p) : tbI n (inK p i) = tb n (i - p).toNat := by
  unfold inK tbI
  by_cases c : 1000 < (i : Int) - p
  · rw [if_pos c, tb_big hn (i := (i - p : Int).toNat) (by omega)]
    simp
  · rw [if_neg c]
    by_cases c2 : (i : Int) - p ≤ 63
    · rw [decide_eq_true ⟨h, c2⟩, Bool.true_and]
    · rw [tb_big hn (i := (i - p : Int).toNat) (by omega)]
      simp
theorem inP_ge {p s : Int} {i : Nat} (h : inP p s i = true) : 0 ≤ (i : Int) - p := by
  have := of_decide_eq_true h
  omega

theorem news_one {w : World} {u : Value} {t : TypeId} : ∀ (j : Nat) (u' : Value), [u][j]? = some u' → (w.alloc (.cells #[u] t)).cell? ((⟨w.heap.size, 0, none⟩ : Addr).add j) = some u' := by
  intro j u' hj
  match j, hj with
  | 0, hj => simp at hj; subst hj; simp [Addr.add]
theorem one_cell (b : Bool) : ∀ u ∈ [Value.int .u64 (bi b)], u.oneCell' = true := by
  intro u hu; simp at hu; subst hu; rfl

end Go.Proofs.Ytmaooljlkpfkoaa
