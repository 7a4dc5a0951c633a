/-
  A region that draws its order and holds two calls, one behind the other, that each turn the world: its other operations only read what both leave alone; walked once, in the order of the text.
-/
import Derived.Test.YtgegahnjhaldeaaSteady
namespace Go.Proofs.Ytgegahnjhaldeaa
open Go.RowKit
variable {P : Program} {ops : Array Oper} {md : Region.Mode} {S : Array Bool → World → Prop}

/-- In every world that meets S where i is next, the operation leaves v, and S holds behind it. -/
def YieldsL (P : Program) (md : Region.Mode) (ops : Array Oper) (S : Array Bool → World → Prop) (i : Nat) (o : Oper) (v : Value) (a : Act) : Prop :=
  (Region.wanted o (yielded ops a.tmps) = true ∧ ∀ listed, i ∈ Region.ready md ops listed → ∀ w, S listed w →
    ((∃ w', (execOp a.eval o).run P w = .ok (.value v) w' ∧ S (listed.setIfInBounds i true) w') ∨
      ∃ f args w', (execOp a.eval o).run P w = .ok (.enter f args) w' ∧ Calls P f args w' (fun e w'' => e = .returned v ∧ S (listed.setIfInBounds i true) w''))) ∨
  (Region.wanted o (yielded ops a.tmps) = false ∧ v = undef ∧ ∀ listed, i ∈ Region.ready md ops listed → ∀ w, S listed w → S (listed.setIfInBounds i true) w)
theorem YieldsL.of_same {i : Nat} {o : Oper} {v : Value} {a a' : Act} (hy : YieldsL P md ops S i o v a) (he : execOp a'.eval o = execOp a.eval o)
    (hw : Region.wanted o (yielded ops a'.tmps) = Region.wanted o (yielded ops a.tmps)) : YieldsL P md ops S i o v a' := by
  unfold YieldsL at *
  rw [he, hw]
  exact hy
theorem YieldsL.wpOp {Q : Exit → Act → World → Prop} {i : Nat} {o : Oper} {v : Value} {a : Act} {listed : Array Bool} (hi : ops[i]? = some o) (hr : i ∈ Region.ready md ops listed) (hy : YieldsL P md ops S i o v a) {K : Act → World → Prop} {w : World} (hS : S listed w)
    (h : ∀ w', S (listed.setIfInBounds i true) w' → K (a.put o.dst v) w') : Go.wpOp P ops Q i K a w := by
  unfold Go.wpOp
  simp only [hi]
  rcases hy with ⟨hw, hv⟩ | ⟨hw, rfl, hv⟩
  · simp only [hw, if_true]
    refine .inl ?_
    unfold Oper.wp
    rcases hv listed hr w hS with ⟨w', hr', hS'⟩ | ⟨f, args, w', hr', hc⟩
    · rw [hr']; exact h _ hS'
    · rw [hr']
      simp only [Oper.upon]
      exact hc.mono fun e w'' ⟨he, hs⟩ => by subst he; exact h _ hs
  · simp only [hw, Bool.false_eq_true, if_false]; exact h _ (hv listed hr w hS)
/-- The walk in the order of the text. -/
def wpPhase (P : Program) (md : Region.Mode) (ops : Array Oper) (S : Array Bool → World → Prop) (Q : Act → Prop) : List Oper → Nat → Act → Prop
  | [], _, a => Q a
  | o :: rest, k, a => ∃ v, YieldsL P md ops S k o v a ∧ wpPhase P md ops S Q rest (k + 1) (a.put o.dst v)
def wpAnyL (P : Program) (md : Region.Mode) (ops : Array Oper) (S : Array Bool → World → Prop) (n : Nat) (L : Array Bool → Act → Prop) : Nat → Array Bool → Act → Prop
  | 0, listed, a => L listed a
  | f + 1, listed, a => Region.ready md ops listed ≠ [] ∧ ∀ i ∈ Region.ready md ops listed, i < n ∧ ∃ o v, ops[i]? = some o ∧ YieldsL P md ops S i o v a ∧ wpAnyL P md ops S n L f (listed.setIfInBounds i true) (a.put o.dst v)
theorem wpAny_of_L {n g : Nat} {L : Array Bool → Act → Prop} {Q' : Exit → Act → World → Prop} (hL : ∀ listed a w, S listed w → L listed a → wpAny P md ops Q' g listed a w) :
    ∀ (f : Nat) (listed : Array Bool) (a : Act) (w : World), S listed w → wpAnyL P md ops S n L f listed a → wpAny P md ops Q' (f + g) listed a w
  | 0, listed, a, w, hS, h => by rw [Nat.zero_add]; exact hL _ _ _ hS h
  | f + 1, listed, a, w, hS, h => by
    rw [show f + 1 + g = (f + g) + 1 by omega]
    refine ⟨fun h0 => absurd h0 h.1, fun i hi => ?_⟩
    obtain ⟨-, o, v, ho, hy, hn⟩ := h.2 i hi
    exact hy.wpOp ho hi hS fun w' hS' => wpAny_of_L hL f _ _ w' hS' hn
theorem wpAnyL_first {n i : Nat} {oi : Oper} {v : Value} {L : Array Bool → Act → Prop} (hi : ops[i]? = some oi) (hsel : ∀ (j : Nat) (o : Oper) cs b, ops[j]? = some o → o.op ≠ .select cs b) (hin : i < n)
    (hlt : ∀ listed, HeadInv md ops n listed → (∃ k, k < n ∧ listed.getD k true = false) → ∀ t ∈ Region.ready md ops listed, t < n)
    (hdone : ∀ listed a, L listed a → ∀ j ∈ Region.ready md ops listed, n ≤ j) :
    ∀ (f : Nat) (listed : Array Bool) (a : Act), HeadInv md ops n listed →
      (∀ j oj, ops[j]? = some oj → j ≠ i → listed.getD j true = false → (∀ e ∈ oj.after, Region.binds md e = true → e.on ≠ i) → oi.apart ops oj = true) →
      i ∈ Region.ready md ops listed → YieldsL P md ops S i oi v a →
      wpAnyL P md ops S n L f (listed.setIfInBounds i true) (a.put oi.dst v) → wpAnyL P md ops S n L (f + 1) listed a := by
  intro f
  induction f with
  | zero =>
    intro listed a inv _ hr hy H
    have hun := (mem_ready.1 hr).1
    refine ⟨fun h => (by rw [h] at hr; cases hr), fun j hj => ?_⟩
    have hjn : j < n := hlt listed inv ⟨i, hin, hun⟩ j hj
    by_cases hji : j = i
    · subst hji; exact ⟨hjn, oi, v, hi, hy, H⟩
    · have := hdone _ _ H j (ready_mono hj hji)
      omega
  | succ f ih =>
    intro listed a inv hfree hr hy H
    have hun := (mem_ready.1 hr).1
    refine ⟨fun h => (by rw [h] at hr; cases hr), fun j hj => ?_⟩
    have hjn : j < n := hlt listed inv ⟨i, hin, hun⟩ j hj
    by_cases hji : j = i
    · subst hji; exact ⟨hjn, oi, v, hi, hy, H⟩
    · obtain ⟨-, oj', u, hoj', hyj, hn⟩ := H.2 j (ready_mono hj hji)
      obtain ⟨hjun, oj, hoj, hall⟩ := mem_ready.1 hj
      obtain rfl : oj' = oj := Option.some.inj (hoj'.symm.trans hoj)
      have hnot : ∀ e ∈ oj'.after, Region.binds md e = true → e.on ≠ i := fun e he hb heq => by
        have h1 := hall e he hb
        rw [heq, getD_both hun] at h1
        cases h1
      obtain ⟨h1, h2, h3⟩ := Oper.apart_spec (hfree j oj' hoj hji hjun hnot)
      have hyj' : YieldsL P md ops S j oj' u a := hyj.of_same (execOp_put oj' (fun cs b => hsel j oj' cs b hoj) a oi.dst v h1).symm (wanted_put oj' a oi.dst v h1).symm
      have hyi : YieldsL P md ops S i oi v (a.put oj'.dst u) := hy.of_same (execOp_put oi (fun cs b => hsel i oi cs b hi) a oj'.dst u h3) (wanted_put oi a oj'.dst u h3)
      have hfree' : ∀ k ok, ops[k]? = some ok → k ≠ i → (listed.setIfInBounds j true).getD k true = false →
          (∀ e ∈ ok.after, Region.binds md e = true → e.on ≠ i) → oi.apart ops ok = true := fun k ok hk hki hun hno => by
        refine hfree k ok hk hki ?_ hno
        by_cases hjk : j = k
        · subst hjk; exact hjun
        · rw [getD_set_ne true hjk] at hun; exact hun
      refine ⟨hjn, oj', u, hoj, hyj', ih (listed.setIfInBounds j true) _ (inv.set hj hjn) hfree' (ready_mono hr (Ne.symm hji)) hyi ?_⟩
      rw [Array.setIfInBounds_comm _ _ hji, ← Act.put_comm a v u h2]
      exact hn
theorem getD_set_true {listed : Array Bool} {i j : Nat} (hs : j < listed.size) (h : j = i ∨ listed.getD j false = true) : (listed.setIfInBounds i true).getD j false = true := by
  rw [Array.getD_eq_getD_getElem?, Array.getElem?_setIfInBounds]
  rcases h with rfl | h
  · simp [hs]
  · by_cases e : i = j
    · subst e; simp [hs]
    · rw [if_neg e]
      rw [Array.getD_eq_getD_getElem?] at h
      exact h
theorem wpAnyL_whole {Lq : Act → Prop} (hsel : Region.noSelect ops = true) :
    ∀ (l : List Oper) (k : Nat) (listed : Array Bool) (a : Act), (∀ j, l[j]? = ops[k + j]?) → HeadInv md ops ops.size listed → listed.size = ops.size → (∀ j, j < k → j < ops.size → listed.getD j false = true) →
    Region.lexFrom md ops l.length k listed = true → wpPhase P md ops S Lq l k a →
    wpAnyL P md ops S ops.size (fun listed' a' => Region.ready md ops listed' = [] ∧ (∀ j, j < ops.size → listed'.getD j false = true) ∧ Lq a') l.length listed a
  | [], k, listed, a, hl, _, _, hk, hB, h => by
    refine ⟨by simpa [Region.lexFrom] using hB, fun j hj => ?_, h⟩
    refine hk j ?_ hj
    have := hl 0
    simp at this
    omega
  | o :: l, k, listed, a, hl, inv, hsz, hk, hB, h => by
    have h0 : ops[k]? = some o := by simpa using (hl 0).symm
    simp only [List.length_cons, Region.lexFrom, Bool.and_eq_true] at hB
    obtain ⟨⟨hr, hf⟩, hB'⟩ := hB
    have hr' : k ∈ Region.ready md ops listed := by simpa using hr
    have hkn : k < ops.size := (Array.getElem?_eq_some_iff.1 h0).1
    obtain ⟨v, hy, hK⟩ := h
    exact wpAnyL_first h0 (Region.noSelect_spec hsel) hkn (fun listed' _ _ t ht => by obtain ⟨_, ot, hot, _⟩ := mem_ready.1 ht; exact (Array.getElem?_eq_some_iff.1 hot).1)
      (fun listed' a' hL j hj => by rw [hL.1] at hj; cases hj) l.length listed a inv (Region.free_spec h0 hf) hr' hy
      (wpAnyL_whole hsel l (k + 1) _ _ (fun j => by have := hl (j + 1); simpa [Nat.add_assoc, Nat.add_comm 1 j] using this) (inv.set hr' hkn) (by simpa using hsz)
        (fun j hj hjs => getD_set_true (by omega) (if e : j = k then .inl e else .inr (hk j (by omega) hjs))) hB' hK)

/-- Where the two calls c1, c2 have not been made, the first has, both have. -/
def Ph (c1 c2 : Nat) (T U0 U1 U2 : World → Prop) (listed : Array Bool) (w : World) : Prop :=
  T w ∧ match listed.getD c1 false, listed.getD c2 false with
    | false, false => U0 w
    | true, false => U1 w
    | true, true => U2 w
    | false, true => False
/-- All operations in whatever order; the calls one behind the other. -/
theorem wp_region_phase {id : Nat} {Q : Exit → Act → World → Prop} {a : Act} {w : World} {l : List Oper} (c1 c2 : Nat) (T U0 U1 U2 : World → Prop) (h1 : c1 < l.length) (h2 : c2 < l.length) (hm : P.follows .mixedOrders = true) (hB : Region.lexB .any l.toArray = true) (hT : T w.drew) (hU : U0 w.drew)
    (h : wpPhase P .any l.toArray (Ph c1 c2 T U0 U1 U2) (fun a' => ∀ w', T w' → U2 w' → Q .normal a' w') l 0 a) : (Code.region id l.toArray true).wp P Q a w := by
  simp only [Region.lexB, Bool.and_eq_true] at hB
  have H := wpAnyL_whole (md := .any) hB.1 l 0 (Array.replicate l.toArray.size false) a (by simp) (headInv0 _) (by simp) (fun j hj => absurd hj (by omega)) (by simpa using hB.2) h
  refine wp_region_any hm ?_
  have hS0 : Ph c1 c2 T U0 U1 U2 (Array.replicate l.toArray.size false) w.drew := by
    have e1 : (Array.replicate l.toArray.size false).getD c1 false = false := getD_replicate_false _ _
    have e2 : (Array.replicate l.toArray.size false).getD c2 false = false := getD_replicate_false _ _
    unfold Ph
    rw [e1, e2]
    exact ⟨hT, hU⟩
  have := wpAny_of_L (Q' := Q) (g := 0) (fun listed a' w' hS' hL => ⟨hL.1, by
    have e1 := hL.2.1 c1 (by simpa using h1)
    have e2 := hL.2.1 c2 (by simpa using h2)
    unfold Ph at hS'
    rw [e1, e2] at hS'
    exact hL.2.2 w' hS'.1 hS'.2⟩) _ _ _ w.drew hS0 H
  simpa using this
/-! The steps. -/
section
variable {T U0 U1 U2 : World → Prop} {c1 c2 k : Nat} {Q : Act → Prop} {a : Act} {o : Oper} {rest : List Oper}
theorem getD_set_other {listed : Array Bool} {i j : Nat} (h : i ≠ j) : (listed.setIfInBounds i true).getD j false = listed.getD j false := by
  rw [Array.getD_eq_getD_getElem?, Array.getElem?_setIfInBounds, if_neg h, Array.getD_eq_getD_getElem?]
theorem Ph.other {listed : Array Bool} {w : World} (h : Ph c1 c2 T U0 U1 U2 listed w) (hk1 : k ≠ c1) (hk2 : k ≠ c2) : Ph c1 c2 T U0 U1 U2 (listed.setIfInBounds k true) w := by
  unfold Ph at *
  rw [getD_set_other hk1, getD_set_other hk2]
  exact h
theorem phase_nil (h : Q a) : wpPhase P md ops (Ph c1 c2 T U0 U1 U2) Q [] k a := h
theorem phase_val (v : Value) (b : Act) (hk1 : k ≠ c1) (hk2 : k ≠ c2) (hw : Region.wanted o (yielded ops a.tmps) = true) (hv : ∀ w, T w → (execOp a.eval o).run P w = .ok (.value v) w) (hb : a.put o.dst v = b)
    (h : wpPhase P md ops (Ph c1 c2 T U0 U1 U2) Q rest (k + 1) b) : wpPhase P md ops (Ph c1 c2 T U0 U1 U2) Q (o :: rest) k a :=
  ⟨v, .inl ⟨hw, fun _ _ w hS => .inl ⟨w, hv w hS.1, hS.other hk1 hk2⟩⟩, hb ▸ h⟩
theorem ready_size {listed : Array Bool} {i : Nat} (h : i ∈ Region.ready md ops listed) : i < listed.size := by
  have := (mem_ready.1 h).1
  by_cases c : i < listed.size
  · exact c
  · rw [Array.getD_eq_getD_getElem?, Array.getElem?_eq_none (by omega)] at this
    cases this
theorem phase_call1 (v : Value) (f : FuncId) (args : Array Value) (b : Act) (hk : k = c1) (hne : c1 ≠ c2) (hw : Region.wanted o (yielded ops a.tmps) = true) (hv : ∀ w, T w → (execOp a.eval o).run P w = .ok (.enter f args) w)
    (hc : ∀ w, T w → U0 w → Calls P f args w (fun e w'' => e = .returned v ∧ T w'' ∧ U1 w'')) (hb : a.put o.dst v = b)
    (h : wpPhase P md ops (Ph c1 c2 T U0 U1 U2) Q rest (k + 1) b) : wpPhase P md ops (Ph c1 c2 T U0 U1 U2) Q (o :: rest) k a := by
  subst hk
  refine ⟨v, .inl ⟨hw, fun listed hr w hS => .inr ⟨f, args, w, hv w hS.1, ?_⟩⟩, hb ▸ h⟩
  have hun : listed.getD k false = false := getD_both (mem_ready.1 hr).1
  have hS2 := hS.2
  rw [hun] at hS2
  cases h2 : listed.getD c2 false
  · rw [h2] at hS2
    refine (hc w hS.1 hS2).mono fun e w'' ⟨he, ht, hu⟩ => ⟨he, ht, ?_⟩
    rw [getD_set_true (ready_size hr) (.inl rfl), getD_set_other hne, h2]
    exact hu
  · rw [h2] at hS2
    exact hS2.elim
theorem phase_call2 (v : Value) (f : FuncId) (args : Array Value) (b : Act) (hk : k = c2) (hne : c1 ≠ c2) (ho : ops[k]? = some o) (haf : (o.after.any fun e => Region.binds md e && e.on == c1) = true) (hw : Region.wanted o (yielded ops a.tmps) = true)
    (hv : ∀ w, T w → (execOp a.eval o).run P w = .ok (.enter f args) w)
    (hc : ∀ w, T w → U1 w → Calls P f args w (fun e w'' => e = .returned v ∧ T w'' ∧ U2 w'')) (hb : a.put o.dst v = b)
    (h : wpPhase P md ops (Ph c1 c2 T U0 U1 U2) Q rest (k + 1) b) : wpPhase P md ops (Ph c1 c2 T U0 U1 U2) Q (o :: rest) k a := by
  subst hk
  refine ⟨v, .inl ⟨hw, fun listed hr w hS => .inr ⟨f, args, w, hv w hS.1, ?_⟩⟩, hb ▸ h⟩
  have hun : listed.getD k false = false := getD_both (mem_ready.1 hr).1
  have h1 : listed.getD c1 false = true := by
    obtain ⟨-, o', ho', hall⟩ := mem_ready.1 hr
    obtain rfl : o = o' := Option.some.inj (ho.symm.trans ho')
    rw [Array.any_eq_true] at haf
    obtain ⟨j, hj, hje⟩ := haf
    simp only [Bool.and_eq_true, beq_iff_eq] at hje
    have := hall _ (Array.getElem_mem hj) hje.1
    rw [hje.2] at this
    exact this
  have hS2 := hS.2
  rw [hun, h1] at hS2
  refine (hc w hS.1 hS2).mono fun e w'' ⟨he, ht, hu⟩ => ⟨he, ht, ?_⟩
  rw [getD_set_true (ready_size hr) (.inl rfl), getD_set_other (Ne.symm hne), h1]
  exact hu
end
end Go.Proofs.Ytgegahnjhaldeaa
