/-
  Contracts of the reference of layer 1: in, Put, Ones.
-/
import Derived.Test.YtahamhpibjlgnaaRefA
namespace Go.Proofs.Ytahamhpibjlgnaa
open Go.ChangeShapes Go.WideShapes Go.ChangeAt Go.RowKit Wd

def inK (p : Int) (i : Nat) : Int := if 1000 < (i : Int) - p then 1000 else (i : Int) - p
theorem bit_inK {n p : Int} {i : Nat} (hn : n < 18446744073709551616) (h : 0 ≤ (i : Int) - p) : tbI n (inK p i) = tb n (i - p).toNat := by
  unfold inK tbI
  by_cases c : 1000 < (i : Int) - p
  · rw [if_pos c, tb_big hn (i := (i - p : Int).toNat) (by omega)]
    simp
  · rw [if_neg c]
    by_cases c2 : (i : Int) - p ≤ 63
    · rw [decide_eq_true ⟨h, c2⟩, Bool.true_and]
    · rw [tb_big hn (i := (i - p : Int).toNat) (by omega)]
      simp
theorem inP_ge {p s : Int} {i : Nat} (h : inP p s i = true) : 0 ≤ (i : Int) - p := by
  have := of_decide_eq_true h
  omega

theorem info_u64 : (Try.prog.info? 22).map (fun i => (i.zero, i.size, i.bytes)) = some (some (.int .u64 0), 1, 8) := by kernel_rfl
theorem rel_app {base k : Nat} {w wr w1 : World} {v v' : Value} {f : Nat → Bool} {o : Obj} {b : Bool} (hb : base ≤ wr.heap.size) (hbf : b = f k)
    (hown : wr.ownsRow base 22 1 v k (bl f k)) (hown' : w1.ownsRow base 22 1 v' (k + 1) (bl f k ++ [.int .u64 (bi b)])) (hgrow : (wr.alloc o).grownBy w1 v.ownBlock) (hnx : Below base w wr) :
    w1.ownsRow base 22 1 v' (k + 1) (bl f (k + 1)) ∧ Below base w w1 := by
  subst hbf
  refine ⟨by rw [bl_succ]; exact hown', (hnx.alloc hb o).grown hgrow (by simp; omega) (fun j hj => (hown.lt j hj).1)⟩

theorem news_one {w : World} {u : Value} {t : TypeId} : ∀ (j : Nat) (u' : Value), [u][j]? = some u' → (w.alloc (.cells #[u] t)).cell? ((⟨w.heap.size, 0, none⟩ : Addr).add j) = some u' := by
  intro j u' hj
  match j, hj with
  | 0, hj => simp at hj; subst hj; simp [Addr.add]
theorem one_cell (b : Bool) : ∀ u ∈ [Value.int .u64 (bi b)], u.oneCell' = true := by
  intro u hu; simp at hu; subst hu; rfl

end Go.Proofs.Ytahamhpibjlgnaa
