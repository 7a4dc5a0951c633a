/-
  A region that draws its order within a round of a range over a function: walked once, in the order of the text (beside Steady).
-/
import Derived.Test.YtdlollkieihjpaaSteady
import Derived.OrdersIn
import Derived.RangeFuncCalls
import Derived.OwnWalkIn
namespace Go.Proofs.Ytdlollkieihjpaa
open Go.RowKit
variable {P : Program} {ops : Array Oper} {md : Region.Mode} {S : World → Prop} {F : Fence} {n : Nat}

def noDefer (l : List Oper) : Bool := l.all fun o => match o.op with | .defer _ => false | _ => true
theorem noDefer_spec {l : List Oper} (h : noDefer l = true) {i : Nat} {o : Oper} (ho : l.toArray[i]? = some o) : ∀ c, o.op ≠ .defer c := fun c hc => by
  have hm : o ∈ l := by
    rw [List.getElem?_toArray] at ho
    exact List.mem_of_getElem? ho
  have := List.all_eq_true.1 h o hm
  simp [hc] at this
theorem YieldsS.inFence {Q : Exit → Act → World → Prop} {i : Nat} {o : Oper} {v : Value} {a : Act} (hfn : ∀ f, F.fn f) (hdp : F.depth = none) (hcall : ∀ {f : FuncId} {args : Array Value} {w : World} {R : Ending → World → Prop}, Calls P f args w R → CallsIn F (n - 1) P f args w R)
    (hi : ops[i]? = some o) (hd : ∀ c, o.op ≠ .defer c) (hy : YieldsS P ops S o v a) {K : Act → World → Prop} {w : World} (hS : S w) (h : ∀ w', S w' → K (a.put o.dst v) w') : Go.wpOpIn F n P ops Q i K a w := by
  unfold Go.wpOpIn
  simp only [hi]
  rcases hy with ⟨hw, hv⟩ | ⟨hw, rfl⟩
  · simp only [hw, if_true]
    unfold Oper.wpIn
    refine ⟨fun f _ => hfn f, ?_⟩
    rw [Oper.semAt_plain F _ _ hd]
    rcases hv w hS with ⟨w', hr, hS'⟩ | ⟨w', hr, rfl, hS'⟩ | ⟨f, args, w', hr, hc⟩
    · rw [hr]; exact h _ hS'
    · rw [hr]; exact h _ hS'
    · rw [hr]
      simp only [Oper.uponIn]
      refine ⟨fun hh => (by rw [hdp] at hh; cases hh), ?_⟩
      exact (hcall hc).mono fun e w'' ⟨he, hs⟩ => by subst he; exact h _ hs
  · simp only [hw, Bool.false_eq_true, if_false]
    exact ⟨fun f _ => hfn f, h _ hS⟩
theorem wpAnyIn_of_T {m g : Nat} {L : Array Bool → Act → Prop} {Q' : Exit → Act → World → Prop} (hfn : ∀ f, F.fn f) (hdp : F.depth = none) (hcall : ∀ {f : FuncId} {args : Array Value} {w : World} {R : Ending → World → Prop}, Calls P f args w R → CallsIn F (n - 1) P f args w R)
    (hd : ∀ (i : Nat) (o : Oper), ops[i]? = some o → ∀ c, o.op ≠ .defer c) (hL : ∀ listed a w, S w → L listed a → wpAnyIn F n P md ops Q' g listed a w) :
    ∀ (f : Nat) (listed : Array Bool) (a : Act) (w : World), S w → wpAnyT P md ops S m L f listed a → wpAnyIn F n P md ops Q' (f + g) listed a w
  | 0, listed, a, w, hS, h => by rw [Nat.zero_add]; exact hL _ _ _ hS h
  | f + 1, listed, a, w, hS, h => by
    rw [show f + 1 + g = (f + g) + 1 by omega]
    refine ⟨fun h0 => absurd h0 h.1, fun i hi => ?_⟩
    obtain ⟨-, o, v, ho, hy, hn⟩ := h.2 i hi
    exact hy.inFence hfn hdp hcall ho (hd i o ho) hS fun w' hS' => wpAnyIn_of_T hfn hdp hcall hd hL f _ _ w' hS' hn
/-- All operations in whatever order, within a round. -/
theorem wp_region_steady_in {id : Nat} {Q : Exit → Act → World → Prop} {a : Act} {w : World} {l : List Oper} (S : World → Prop) (hfn : ∀ f, F.fn f) (hdp : F.depth = none)
    (hcall : ∀ {f : FuncId} {args : Array Value} {w : World} {R : Ending → World → Prop}, Calls P f args w R → CallsIn F (n - 1) P f args w R) (hm : P.follows .mixedOrders = true) (hB : Region.lexB .any l.toArray = true) (hnd : noDefer l = true) (hS : S w.drew)
    (h : wpSteady P l.toArray S (fun a' => ∀ w', S w' → Q .normal a' w') l a) : (Code.region id l.toArray true).wpIn F n P Q a w := by
  simp only [Region.lexB, Bool.and_eq_true] at hB
  have H := wpAnyT_whole (md := .any) hB.1 l 0 (Array.replicate l.toArray.size false) a (by simp) (headInv0 _) (by simpa using hB.2) h
  refine wpIn_region_any hm ?_
  have := wpAnyIn_of_T (md := .any) (F := F) (n := n) (Q' := Q) (g := 0) hfn hdp hcall (fun i o ho => noDefer_spec hnd ho) (fun listed a' w' hS' hL => ⟨hL.1, hL.2 w' hS'⟩) _ _ _ w.drew hS H
  simpa using this
theorem wide_call {l m : Nat} {f : FuncId} {args : Array Value} {w : World} {R : Ending → World → Prop} (h : Calls P f args w R) : CallsIn (Fence.wide.inRound l) m P f args w R := CallsIn.inRound l (callsIn_wide.2 h)
end Go.Proofs.Ytdlollkieihjpaa
