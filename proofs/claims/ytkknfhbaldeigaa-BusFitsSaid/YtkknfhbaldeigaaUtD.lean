/-
  Contracts of uart's why, receive, take, tellCause, tellLine, modemLines.
-/
import Derived.Test.YtkknfhbaldeigaaUtC
import Derived.Test.YtkknfhbaldeigaaPushG
set_option maxRecDepth 20000
namespace Go.Proofs.Ytkknfhbaldeigaa
open Go.ChangeShapes Go.WideShapes Go.ChangeAt Go.RowKit

def whyV (a2 lo a0 qq a1 em : Bool) : Int := if a2 = true ∧ lo = true then 6 else if a0 = true ∧ qq = true then 4 else if a1 = true ∧ em = true then 2 else 1
set_option maxHeartbeats 4000000 in
theorem why_walk (b n cap : Nat) (p : Option Addr) (ier : Int) (a2 lo a0 qq a1 em : Bool) (w : World) (e2 : (bits .and .u8 ier 4 != 0) = a2) (e0 : (bits .and .u8 ier 1 != 0) = a0) (e1 : (bits .and .u8 ier 2 != 0) = a1)
    (eq : decide (0 < n) = qq) (c0 : w.cell? ⟨b, 0, none⟩ = some (.int .u8 ier)) (c7 : w.cell? ⟨b, 7, none⟩ = some (.bool lo)) (c8 : w.cell? ⟨b, 8, none⟩ = some (.bool em)) (c9 : w.cell? ⟨b, 9, none⟩ = some (.slice p n cap)) :
    Calls Try.prog 70 #[.pointer (some ⟨b, 0, none⟩)] w fun e w' => e = .returned (.int .u8 (whyV a2 lo a0 qq a1 em)) ∧ w' = w := by
  cases a2 with
  | false =>
    cases a0 with
    | false =>
      cases a1 with
      | false =>
        go_enter Try.func70, Try.ntmps70
        go_wp2_with fail
        go_ret
        exact ⟨rfl, rfl⟩
      | true =>
        cases em with
        | false =>
          go_enter Try.func70, Try.ntmps70
          go_wp2_with fail
          go_ret
          exact ⟨rfl, rfl⟩
        | true =>
          go_enter Try.func70, Try.ntmps70
          go_wp2_with fail
          go_ret
          exact ⟨rfl, rfl⟩
    | true =>
      cases qq with
      | false =>
        cases a1 with
        | false =>
          go_enter Try.func70, Try.ntmps70
          go_wp2_with fail
          go_ret
          exact ⟨rfl, rfl⟩
        | true =>
          cases em with
          | false =>
            go_enter Try.func70, Try.ntmps70
            go_wp2_with fail
            go_ret
            exact ⟨rfl, rfl⟩
          | true =>
            go_enter Try.func70, Try.ntmps70
            go_wp2_with fail
            go_ret
            exact ⟨rfl, rfl⟩
      | true =>
        go_enter Try.func70, Try.ntmps70
        go_wp2_with fail
        go_ret
        exact ⟨rfl, rfl⟩
  | true =>
    cases lo with
    | false =>
      cases a0 with
      | false =>
        cases a1 with
        | false =>
          go_enter Try.func70, Try.ntmps70
          go_wp2_with fail
          go_ret
          exact ⟨rfl, rfl⟩
        | true =>
          cases em with
          | false =>
            go_enter Try.func70, Try.ntmps70
            go_wp2_with fail
            go_ret
            exact ⟨rfl, rfl⟩
          | true =>
            go_enter Try.func70, Try.ntmps70
            go_wp2_with fail
            go_ret
            exact ⟨rfl, rfl⟩
      | true =>
        cases qq with
        | false =>
          cases a1 with
          | false =>
            go_enter Try.func70, Try.ntmps70
            go_wp2_with fail
            go_ret
            exact ⟨rfl, rfl⟩
          | true =>
            cases em with
            | false =>
              go_enter Try.func70, Try.ntmps70
              go_wp2_with fail
              go_ret
              exact ⟨rfl, rfl⟩
            | true =>
              go_enter Try.func70, Try.ntmps70
              go_wp2_with fail
              go_ret
              exact ⟨rfl, rfl⟩
        | true =>
          go_enter Try.func70, Try.ntmps70
          go_wp2_with fail
          go_ret
          exact ⟨rfl, rfl⟩
    | true =>
      go_enter Try.func70, Try.ntmps70
      go_wp2_with fail
      go_ret
      exact ⟨rfl, rfl⟩
theorem why_c {F : Nat → Prop} {w : World} {b : Nat} {s : Ut.S} {qv sv : Value} (h : PtS F w b s qv sv) :
    Calls Try.prog 70 #[.pointer (some ⟨b, 0, none⟩)] w fun e w' => e = .returned (.int .u8 (Ut.cause s)) ∧ w' = w := by
  obtain ⟨c0, -, -, -, -, -, -, c7, c8, c9, -⟩ := h.cells
  obtain ⟨p, cap, rfl, -⟩ := own_form h.q
  have hb := Ut.ier_b h.ok
  have := why_walk b s.q.length cap p s.ier _ s.lost _ _ _ s.empty w (Ut.and4 hb) (Ut.and1 hb) (Ut.and2 hb) rfl c0 c7 c8 c9
  rw [show whyV (Ut.bt s.ier 2) s.lost (Ut.bt s.ier 0) (decide (0 < s.q.length)) (Ut.bt s.ier 1) s.empty = Ut.cause s by
    unfold whyV Ut.cause
    have e : (decide (0 < s.q.length) = true) = (s.q ≠ []) := by
      cases s.q <;> simp
    simp only [e]] at this
  exact this
theorem one_u8 (x : Int) : (#[Value.int .u8 x] : Array Value).all (·.oneCell') = true := by
  rw [Array.all_eq_true_iff_forall_mem]
  intro v hv
  simp at hv
  subst hv
  rfl
theorem zv_u8s (w : World) : (zeroValue U8S).run Try.prog w = .ok (.slice none 0 0) w := by kernel_rfl
set_option maxHeartbeats 4000000 in
/-- A byte is received. -/
theorem receive_c {F : Nat → Prop} {w : World} {b : Nat} {s : Ut.S} {x : Int} (hx : Ut.isB x) (h : Pt F w b s) :
    Calls Try.prog 67 #[.pointer (some ⟨b, 0, none⟩), .int .u8 x] w fun e w' => e = .returned (.bool (Ut.comeB s)) ∧ PtQ F w w' b (Ut.comeS s x) := by
  obtain ⟨qv, sv, h⟩ := h
  obtain ⟨-, -, -, -, -, -, c6, c7, -, c9, -⟩ := h.cells
  have hok := Ut.come_ok h.ok hx
  have hqn := h.ok.qn
  have f7 := h.row.frozen 7
  have H := Lib.hid h
  by_cases hfull : Ut.room s ≤ s.q.length
  · have HS := Lib.hid (show Ut.comeS s x = { s with lost := true } by unfold Ut.comeS; rw [if_pos hfull])
    have HB := Lib.hid (show Ut.comeB s = false by unfold Ut.comeB; simp; omega)
    rw [HB.out, HS.out]
    rw [HS.out] at hok
    have HP := Lib.hid (PtQ.of (h.upd (i := 7) (v := .bool true) (t := { s with lost := true }) rfl rfl rfl hok).p (Chg.of_cell h.fb 7 (.bool true)))
    obtain ⟨p, cap, rfl, -⟩ := own_form h.q
    clear h hok
    obtain hf | hf : s.fifo = false ∨ s.fifo = true := by cases s.fifo <;> simp
    · skip
      have hr : Ut.room s = 1 := by unfold Ut.room; rw [hf]; rfl
      rw [hr] at hfull
      have e0 : decide ((s.q.length : Int) ≥ 1) = true := by simp only [decide_eq_true_eq]; omega
      have e1 : decide (s.q.length ≥ 1) = true := by simp only [decide_eq_true_eq]; omega
      rw [hf] at c6
      clear hfull hf hr
      go_enter Try.func67, Try.ntmps67
      go_wp2_with fail
      go_ret
      exact ⟨rfl, HP.out⟩
    · skip
      have hr : Ut.room s = 16 := by unfold Ut.room; rw [hf]; rfl
      rw [hr] at hfull
      have e0 : decide ((s.q.length : Int) ≥ 16) = true := by simp only [decide_eq_true_eq]; omega
      have e1 : decide (s.q.length ≥ 16) = true := by simp only [decide_eq_true_eq]; omega
      rw [hf] at c6
      clear hfull hf hr
      go_enter Try.func67, Try.ntmps67
      go_wp2_with fail
      go_ret
      exact ⟨rfl, HP.out⟩
  · have HS := Lib.hid (show Ut.comeS s x = { s with q := s.q ++ [x] } by unfold Ut.comeS; rw [if_neg hfull])
    have HB := Lib.hid (show Ut.comeB s = true by unfold Ut.comeB; simp; omega)
    rw [HB.out, HS.out]
    rw [HS.out] at hok
    have HOK := Lib.hid hok
    have hb9 : b < w.heap.size := h.lt b h.fb
    have HC := Lib.hid h.q
    have HR := Lib.hid h.row
    have HQB := Lib.hid (fun k hk => (h.fq k hk).2)
    obtain ⟨p, cap, rfl, -⟩ := own_form h.q
    clear h hok
    obtain hf | hf : s.fifo = false ∨ s.fifo = true := by cases s.fifo <;> simp
    · skip
      have hr : Ut.room s = 1 := by unfold Ut.room; rw [hf]; rfl
      rw [hr] at hfull
      have e0 : decide ((s.q.length : Int) ≥ 1) = false := by simp only [decide_eq_false_iff_not]; omega
      have e1 : decide (s.q.length ≥ 1) = false := by simp only [decide_eq_false_iff_not]; omega
      rw [hf] at c6
      clear hfull hf hr
      go_enter Try.func67, Try.ntmps67
      go_wp2_with (at_builtin; refine wpList_pushG rfl _ _ U8S rfl 0 U8 _ 1 1 Try.underlying40 info_u8 rfl (by omega) (by omega) _ s.q.length _ rfl HC.out #[.int .u8 x] rfl (one_u8 x) _ rfl rfl (by omega) (Nat.zero_le _) ?_)
      intro v' w' ho hg hv
      have hcb : CsAt w' b PoT (ptV s (.slice p s.q.length cap) sv) := (Chg.of_grown (S := fun k => (Value.slice p s.q.length cap).ownBlock = some k) hg (fun k hk => hk)).cs (HR.out.alloc _) (fun e => HQB.out b e rfl)
      have k9 := hcb.cell 9
      have f9 := hcb.frozen 9
      have HP := Lib.hid (H.out.push (i := 9) (x := x) (.inl ⟨rfl, HOK.out⟩) ho hg hv.out)
      obtain ⟨p2, cap2, rfl, -⟩ := own_form ho
      clear ho hg hv hcb c9 c7 c6 f7
      simp only [ptV, List.getElem?_toArray, List.getElem?_cons_succ, List.getElem?_cons_zero] at k9
      go_wp2_with fail
      go_ret
      exact ⟨rfl, HP.out⟩
    · skip
      have hr : Ut.room s = 16 := by unfold Ut.room; rw [hf]; rfl
      rw [hr] at hfull
      have e0 : decide ((s.q.length : Int) ≥ 16) = false := by simp only [decide_eq_false_iff_not]; omega
      have e1 : decide (s.q.length ≥ 16) = false := by simp only [decide_eq_false_iff_not]; omega
      rw [hf] at c6
      clear hfull hf hr
      go_enter Try.func67, Try.ntmps67
      go_wp2_with (at_builtin; refine wpList_pushG rfl _ _ U8S rfl 0 U8 _ 1 1 Try.underlying40 info_u8 rfl (by omega) (by omega) _ s.q.length _ rfl HC.out #[.int .u8 x] rfl (one_u8 x) _ rfl rfl (by omega) (Nat.zero_le _) ?_)
      intro v' w' ho hg hv
      have hcb : CsAt w' b PoT (ptV s (.slice p s.q.length cap) sv) := (Chg.of_grown (S := fun k => (Value.slice p s.q.length cap).ownBlock = some k) hg (fun k hk => hk)).cs (HR.out.alloc _) (fun e => HQB.out b e rfl)
      have k9 := hcb.cell 9
      have f9 := hcb.frozen 9
      have HP := Lib.hid (H.out.push (i := 9) (x := x) (.inl ⟨rfl, HOK.out⟩) ho hg hv.out)
      obtain ⟨p2, cap2, rfl, -⟩ := own_form ho
      clear ho hg hv hcb c9 c7 c6 f7
      simp only [ptV, List.getElem?_toArray, List.getElem?_cons_succ, List.getElem?_cons_zero] at k9
      go_wp2_with fail
      go_ret
      exact ⟨rfl, HP.out⟩

set_option maxHeartbeats 4000000 in
/-- The first byte is taken. -/
theorem take_c {F : Nat → Prop} {w : World} {b : Nat} {s : Ut.S} (h : Pt F w b s) :
    Calls Try.prog 83 #[.pointer (some ⟨b, 0, none⟩)] w fun e w' => e = .returned (.int .u8 (s.q.getD 0 0)) ∧ PtQ F w w' b { s with q := s.q.drop 1 } := by
  obtain ⟨qv, sv, h⟩ := h
  obtain ⟨-, -, -, -, -, -, -, -, -, c9, -⟩ := h.cells
  have H := Lib.hid h
  have HQ := Lib.hid h.q
  obtain ⟨p, cap, hqv, -⟩ := own_form h.q
  subst hqv
  have hqn := h.ok.qn
  have hbl := h.lt b h.fb
  cases hq : s.q with
  | nil =>
    have HE := Lib.hid (show s = { s with q := s.q.drop 1 } by rw [hq]; obtain ⟨⟩ := s; simp at hq ⊢; exact hq)
    rw [show ({ s with q := List.drop 1 [] } : Ut.S) = s by obtain ⟨⟩ := s; simp at hq ⊢; exact hq]
    rw [hq] at c9
    simp only [List.length_nil] at c9
    clear h hqn HE
    go_enter Try.func83, Try.ntmps83
    go_wp2_with fail
    go_ret
    exact ⟨rfl, PtQ.of H.out.p (Chg.refl _ _)⟩
  | cons x xs =>
    have hlen : s.q.length = xs.length + 1 := by rw [hq]; rfl
    obtain ⟨g, cap', hv, -, hgl, hcap⟩ := own_pos h.q (by omega)
    simp only [Value.slice.injEq] at hv
    obtain ⟨rfl, -, rfl⟩ := hv
    have hgF := h.fq g rfl
    have hgo := h.qo g rfl
    have hrow := h.row
    have ho0 := h.q
    rw [hq] at ho0
    have hfirst : w.cell? ⟨g, 0, none⟩ = some (.int .u8 x) := by
      have := ho0.cellAt 0 (by simp)
      rw [this]
      rfl
    rw [hlen] at c9
    have HD := Lib.hid (bdelete_c g (xs.length + 1) cap x xs rfl w (by rw [hq] at HQ; exact HQ.out) (by omega))
    have hok : Ut.Ok { s with q := xs } := by
      have := Ut.read_ok h.ok 0
      have ok := h.ok
      exact ⟨ok.ier, ok.lcr, ok.mcr, ok.scr, ok.dll, ok.dlm, fun y hy => ok.qs y (by rw [hq]; exact List.mem_cons_of_mem _ hy), ok.outs, by dsimp only; omega⟩
    have HOK := Lib.hid hok
    have gl : ((xs.length + 1 : Nat) == 0) = false := by simp
    have gl2 : (((xs.length + 1 : Nat) : Int) == 0) = false := by simp; omega
    have gl3 : (0 : Int) < ((xs.length + 1 : Nat) : Int) := by omega
    have hx0 : List.getD (x :: xs) 0 0 = x := rfl
    rw [hx0]
    simp only [List.drop_succ_cons, List.drop_zero]
    have HG := Lib.hid (And.intro hgF hgo)
    clear h hok hgF hgo hq ho0 hx0 HQ hrow
    generalize hm : xs.length + 1 = m at *
    go_enter Try.func83, Try.ntmps83
    go_wp2_with fail
    refine HD.out.mono ?_
    rintro e w1 ⟨rfl, ho1, hc1⟩
    have hrow1 : CsAt w1 b PoT (ptV s _ sv) := hc1.cs H.out.row (fun e => HG.out.1.2 e.symm)
    have k9 := hrow1.cell 9
    have f9 := hrow1.frozen 9
    simp only [ptV, List.getElem?_toArray, List.getElem?_cons_succ, List.getElem?_cons_zero] at k9
    have hm1 : m - 1 = xs.length := by omega
    rw [hm1] at ho1
    have HP : PtQ F w (w1.setCell ⟨b, 9, none⟩ (.slice (some ⟨g, 0, none⟩) xs.length cap)) b { s with q := xs } := by
      have hk : PtS F w1 b { s with q := [] } (.slice none 0 0) sv → True := fun _ => trivial
      have hcb : Chg (fun k => k = b) w1 (w1.setCell ⟨b, 9, none⟩ (.slice (some ⟨g, 0, none⟩) xs.length cap)) := Chg.of_cell (S := fun k => k = b) rfl 9 _
      have hF : Chg F w (w1.setCell ⟨b, 9, none⟩ (.slice (some ⟨g, 0, none⟩) xs.length cap)) := (hc1.mono (fun k hk => by subst hk; exact HG.out.1.1)).trans (Chg.of_cell H.out.fb 9 _)
      refine PtQ.of ⟨.slice (some ⟨g, 0, none⟩) xs.length cap, sv, ?_, ?_, ?_, H.out.fb, fun k hk => ?_, H.out.fo, fun k hk => ?_, fun k hk => Nat.lt_of_lt_of_le (H.out.lt k hk) hF.size, HOK.out⟩ hF
      · unfold CsAt
        rw [heap_setCell_same w1 b 9 _ PoT _ hrow1]
        rfl
      · exact hcb.own ho1 (fun k hk e => HG.out.1.2 (by simp only [Value.ownBlock, Option.some.injEq] at hk; omega))
      · exact hcb.own (hc1.own H.out.o (fun k hk e => by subst e; exact HG.out.2 hk)) (fun k hk e => (H.out.fo k hk).2 e)
      · simp only [Value.ownBlock, Option.some.injEq] at hk
        subst hk
        exact HG.out.1
      · simp only [Value.ownBlock, Option.some.injEq] at hk
        subst hk
        exact HG.out.2
    have HP2 := Lib.hid HP
    clear HP ho1 hc1 hrow1 HD c9 hfirst
    go_wp2_with fail
    go_ret
    exact ⟨rfl, HP2.out⟩
end Go.Proofs.Ytkknfhbaldeigaa
