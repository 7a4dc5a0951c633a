/-
  Contracts of uart's why, receive, take, tellCause, tellLine, modemLines. Contracts of uart's tellCause, tellLine, modemLines, New, Fits, Line, Waiting, Out. Contracts of uart.Read, of a port.
-/
import Derived.Test.YtfjdalepaacmgaaGreatYai
set_option maxRecDepth 20000
namespace Go.Proofs.YtfjdalepaacmgaaGreat
open Go.ChangeShapes Go.WideShapes Go.ChangeAt Go.RowKit

def whyV (a2 lo a0 qq a1 em : Bool) : Int := if a2 = true ∧ lo = true then 6 else if a0 = true ∧ qq = true then 4 else if a1 = true ∧ em = true then 2 else 1
set_option maxHeartbeats 4000000 in
theorem why_walk (b n cap : Nat) (p : Option Addr) (ier : Int) (a2 lo a0 qq a1 em : Bool) (w : World) (e2 : (bits .and .u8 ier 4 != 0) = a2) (e0 : (bits .and .u8 ier 1 != 0) = a0) (e1 : (bits .and .u8 ier 2 != 0) = a1)
    (eq : decide (0 < n) = qq) (c0 : w.cell? ⟨b, 0, none⟩ = some (.int .u8 ier)) (c7 : w.cell? ⟨b, 7, none⟩ = some (.bool lo)) (c8 : w.cell? ⟨b, 8, none⟩ = some (.bool em)) (c9 : w.cell? ⟨b, 9, none⟩ = some (.slice p n cap)) :
    Calls Tryz.prog 65 #[.pointer (some ⟨b, 0, none⟩)] w fun e w' => e = .returned (.int .u8 (whyV a2 lo a0 qq a1 em)) ∧ w' = w := by
  cases a2 with
  | false =>
    cases a0 with
    | false =>
      cases a1 with
      | false =>
        go_enter Tryz.func65, Tryz.ntmps65
        go_wp2_with fail
        go_ret
        exact ⟨rfl, rfl⟩
      | true =>
        cases em with
        | false =>
          go_enter Tryz.func65, Tryz.ntmps65
          go_wp2_with fail
          go_ret
          exact ⟨rfl, rfl⟩
        | true =>
          go_enter Tryz.func65, Tryz.ntmps65
          go_wp2_with fail
          go_ret
          exact ⟨rfl, rfl⟩
    | true =>
      cases qq with
      | false =>
        cases a1 with
        | false =>
          go_enter Tryz.func65, Tryz.ntmps65
          go_wp2_with fail
          go_ret
          exact ⟨rfl, rfl⟩
        | true =>
          cases em with
          | false =>
            go_enter Tryz.func65, Tryz.ntmps65
            go_wp2_with fail
            go_ret
            exact ⟨rfl, rfl⟩
          | true =>
            go_enter Tryz.func65, Tryz.ntmps65
            go_wp2_with fail
            go_ret
            exact ⟨rfl, rfl⟩
      | true =>
        go_enter Tryz.func65, Tryz.ntmps65
        go_wp2_with fail
        go_ret
        exact ⟨rfl, rfl⟩
  | true =>
    cases lo with
    | false =>
      cases a0 with
      | false =>
        cases a1 with
        | false =>
          go_enter Tryz.func65, Tryz.ntmps65
          go_wp2_with fail
          go_ret
          exact ⟨rfl, rfl⟩
        | true =>
          cases em with
          | false =>
            go_enter Tryz.func65, Tryz.ntmps65
            go_wp2_with fail
            go_ret
            exact ⟨rfl, rfl⟩
          | true =>
            go_enter Tryz.func65, Tryz.ntmps65
            go_wp2_with fail
            go_ret
            exact ⟨rfl, rfl⟩
      | true =>
        cases qq with
        | false =>
          cases a1 with
          | false =>
            go_enter Tryz.func65, Tryz.ntmps65
            go_wp2_with fail
            go_ret
            exact ⟨rfl, rfl⟩
          | true =>
            cases em with
            | false =>
              go_enter Tryz.func65, Tryz.ntmps65
              go_wp2_with fail
              go_ret
              exact ⟨rfl, rfl⟩
            | true =>
              go_enter Tryz.func65, Tryz.ntmps65
              go_wp2_with fail
              go_ret
              exact ⟨rfl, rfl⟩
        | true =>
          go_enter Tryz.func65, Tryz.ntmps65
          go_wp2_with fail
          go_ret
          exact ⟨rfl, rfl⟩
    | true =>
      go_enter Tryz.func65, Tryz.ntmps65
      go_wp2_with fail
      go_ret
      exact ⟨rfl, rfl⟩
theorem why_c {F : Nat → Prop} {w : World} {b : Nat} {s : Ut.S} {qv sv : Value} (h : PtS F w b s qv sv) :
    Calls Tryz.prog 65 #[.pointer (some ⟨b, 0, none⟩)] w fun e w' => e = .returned (.int .u8 (Ut.cause s)) ∧ w' = w := by
  obtain ⟨c0, -, -, -, -, -, -, c7, c8, c9, -⟩ := h.cells
  obtain ⟨p, cap, rfl, -⟩ := own_form h.q
  have hb := Ut.ier_b h.ok
  have := why_walk b s.q.length cap p s.ier _ s.lost _ _ _ s.empty w (Ut.and4 hb) (Ut.and1 hb) (Ut.and2 hb) rfl c0 c7 c8 c9
  rw [show whyV (Ut.bt s.ier 2) s.lost (Ut.bt s.ier 0) (decide (0 < s.q.length)) (Ut.bt s.ier 1) s.empty = Ut.cause s by
    unfold whyV Ut.cause
    have e : (decide (0 < s.q.length) = true) = (s.q ≠ []) := by
      cases s.q <;> simp
    simp only [e]] at this
  exact this
theorem one_u8 (x : Int) : (#[Value.int .u8 x] : Array Value).all (·.oneCell') = true := by
  rw [Array.all_eq_true_iff_forall_mem]
  intro v hv
  simp at hv
  subst hv
  rfl
theorem zv_u8s (w : World) : (zeroValue U8S).run Tryz.prog w = .ok (.slice none 0 0) w := by kernel_rfl
set_option maxHeartbeats 4000000 in
/-- A byte is received. -/
theorem receive_c {F : Nat → Prop} {w : World} {b : Nat} {s : Ut.S} {x : Int} (hx : Ut.isB x) (h : Pt F w b s) :
    Calls Tryz.prog 62 #[.pointer (some ⟨b, 0, none⟩), .int .u8 x] w fun e w' => e = .returned (.bool (Ut.comeB s)) ∧ PtQ F w w' b (Ut.comeS s x) := by
  obtain ⟨qv, sv, h⟩ := h
  obtain ⟨-, -, -, -, -, -, c6, c7, -, c9, -⟩ := h.cells
  have hok := Ut.come_ok h.ok hx
  have hqn := h.ok.qn
  have f7 := h.row.frozen 7
  have H := Lib.hid h
  by_cases hfull : Ut.room s ≤ s.q.length
  · have HS := Lib.hid (show Ut.comeS s x = { s with lost := true } by unfold Ut.comeS; rw [if_pos hfull])
    have HB := Lib.hid (show Ut.comeB s = false by unfold Ut.comeB; simp; omega)
    rw [HB.out, HS.out]
    rw [HS.out] at hok
    have HP := Lib.hid (PtQ.of (h.upd (i := 7) (v := .bool true) (t := { s with lost := true }) rfl rfl rfl hok).p (Chg.of_cell h.fb 7 (.bool true)))
    obtain ⟨p, cap, rfl, -⟩ := own_form h.q
    clear h hok
    obtain hf | hf : s.fifo = false ∨ s.fifo = true := by cases s.fifo <;> simp
    · skip
      have hr : Ut.room s = 1 := by unfold Ut.room; rw [hf]; rfl
      rw [hr] at hfull
      have e0 : decide ((s.q.length : Int) ≥ 1) = true := by simp only [decide_eq_true_eq]; omega
      have e1 : decide (s.q.length ≥ 1) = true := by simp only [decide_eq_true_eq]; omega
      rw [hf] at c6
      clear hfull hf hr
      go_enter Tryz.func62, Tryz.ntmps62
      go_wp2_with fail
      go_ret
      exact ⟨rfl, HP.out⟩
    · skip
      have hr : Ut.room s = 16 := by unfold Ut.room; rw [hf]; rfl
      rw [hr] at hfull
      have e0 : decide ((s.q.length : Int) ≥ 16) = true := by simp only [decide_eq_true_eq]; omega
      have e1 : decide (s.q.length ≥ 16) = true := by simp only [decide_eq_true_eq]; omega
      rw [hf] at c6
      clear hfull hf hr
      go_enter Tryz.func62, Tryz.ntmps62
      go_wp2_with fail
      go_ret
      exact ⟨rfl, HP.out⟩
  · have HS := Lib.hid (show Ut.comeS s x = { s with q := s.q ++ [x] } by unfold Ut.comeS; rw [if_neg hfull])
    have HB := Lib.hid (show Ut.comeB s = true by unfold Ut.comeB; simp; omega)
    rw [HB.out, HS.out]
    rw [HS.out] at hok
    have HOK := Lib.hid hok
    have hb9 : b < w.heap.size := h.lt b h.fb
    have HC := Lib.hid h.q
    have HR := Lib.hid h.row
    have HQB := Lib.hid (fun k hk => (h.fq k hk).2)
    obtain ⟨p, cap, rfl, -⟩ := own_form h.q
    clear h hok
    obtain hf | hf : s.fifo = false ∨ s.fifo = true := by cases s.fifo <;> simp
    · skip
      have hr : Ut.room s = 1 := by unfold Ut.room; rw [hf]; rfl
      rw [hr] at hfull
      have e0 : decide ((s.q.length : Int) ≥ 1) = false := by simp only [decide_eq_false_iff_not]; omega
      have e1 : decide (s.q.length ≥ 1) = false := by simp only [decide_eq_false_iff_not]; omega
      rw [hf] at c6
      clear hfull hf hr
      go_enter Tryz.func62, Tryz.ntmps62
      go_wp2_with (at_builtin; refine wpList_pushG rfl _ _ U8S rfl 0 U8 _ 1 1 Tryz.underlying49 info_u8 rfl (by omega) (by omega) _ s.q.length _ rfl HC.out #[.int .u8 x] rfl (one_u8 x) _ rfl rfl (by omega) (Nat.zero_le _) ?_)
      intro v' w' ho hg hv
      have hcb : CsAt w' b PoT (ptV s (.slice p s.q.length cap) sv) := (Chg.of_grown (S := fun k => (Value.slice p s.q.length cap).ownBlock = some k) hg (fun k hk => hk)).cs (HR.out.alloc _) (fun e => HQB.out b e rfl)
      have k9 := hcb.cell 9
      have f9 := hcb.frozen 9
      have HP := Lib.hid (H.out.push (i := 9) (x := x) (.inl ⟨rfl, HOK.out⟩) ho hg hv.out)
      obtain ⟨p2, cap2, rfl, -⟩ := own_form ho
      clear ho hg hv hcb c9 c7 c6 f7
      simp only [ptV, List.getElem?_toArray, List.getElem?_cons_succ, List.getElem?_cons_zero] at k9
      go_wp2_with fail
      go_ret
      exact ⟨rfl, HP.out⟩
    · skip
      have hr : Ut.room s = 16 := by unfold Ut.room; rw [hf]; rfl
      rw [hr] at hfull
      have e0 : decide ((s.q.length : Int) ≥ 16) = false := by simp only [decide_eq_false_iff_not]; omega
      have e1 : decide (s.q.length ≥ 16) = false := by simp only [decide_eq_false_iff_not]; omega
      rw [hf] at c6
      clear hfull hf hr
      go_enter Tryz.func62, Tryz.ntmps62
      go_wp2_with (at_builtin; refine wpList_pushG rfl _ _ U8S rfl 0 U8 _ 1 1 Tryz.underlying49 info_u8 rfl (by omega) (by omega) _ s.q.length _ rfl HC.out #[.int .u8 x] rfl (one_u8 x) _ rfl rfl (by omega) (Nat.zero_le _) ?_)
      intro v' w' ho hg hv
      have hcb : CsAt w' b PoT (ptV s (.slice p s.q.length cap) sv) := (Chg.of_grown (S := fun k => (Value.slice p s.q.length cap).ownBlock = some k) hg (fun k hk => hk)).cs (HR.out.alloc _) (fun e => HQB.out b e rfl)
      have k9 := hcb.cell 9
      have f9 := hcb.frozen 9
      have HP := Lib.hid (H.out.push (i := 9) (x := x) (.inl ⟨rfl, HOK.out⟩) ho hg hv.out)
      obtain ⟨p2, cap2, rfl, -⟩ := own_form ho
      clear ho hg hv hcb c9 c7 c6 f7
      simp only [ptV, List.getElem?_toArray, List.getElem?_cons_succ, List.getElem?_cons_zero] at k9
      go_wp2_with fail
      go_ret
      exact ⟨rfl, HP.out⟩

set_option maxHeartbeats 4000000 in
/-- The first byte is taken. -/
theorem take_c {F : Nat → Prop} {w : World} {b : Nat} {s : Ut.S} (h : Pt F w b s) :
    Calls Tryz.prog 85 #[.pointer (some ⟨b, 0, none⟩)] w fun e w' => e = .returned (.int .u8 (s.q.getD 0 0)) ∧ PtQ F w w' b { s with q := s.q.drop 1 } := by
  obtain ⟨qv, sv, h⟩ := h
  obtain ⟨-, -, -, -, -, -, -, -, -, c9, -⟩ := h.cells
  have H := Lib.hid h
  have HQ := Lib.hid h.q
  obtain ⟨p, cap, hqv, -⟩ := own_form h.q
  subst hqv
  have hqn := h.ok.qn
  have hbl := h.lt b h.fb
  cases hq : s.q with
  | nil =>
    have HE := Lib.hid (show s = { s with q := s.q.drop 1 } by rw [hq]; obtain ⟨⟩ := s; simp at hq ⊢; exact hq)
    rw [show ({ s with q := List.drop 1 [] } : Ut.S) = s by obtain ⟨⟩ := s; simp at hq ⊢; exact hq]
    rw [hq] at c9
    simp only [List.length_nil] at c9
    clear h hqn HE
    go_enter Tryz.func85, Tryz.ntmps85
    go_wp2_with fail
    go_ret
    exact ⟨rfl, PtQ.of H.out.p (Chg.refl _ _)⟩
  | cons x xs =>
    have hlen : s.q.length = xs.length + 1 := by rw [hq]; rfl
    obtain ⟨g, cap', hv, -, hgl, hcap⟩ := own_pos h.q (by omega)
    simp only [Value.slice.injEq] at hv
    obtain ⟨rfl, -, rfl⟩ := hv
    have hgF := h.fq g rfl
    have hgo := h.qo g rfl
    have hrow := h.row
    have ho0 := h.q
    rw [hq] at ho0
    have hfirst : w.cell? ⟨g, 0, none⟩ = some (.int .u8 x) := by
      have := ho0.cellAt 0 (by simp)
      rw [this]
      rfl
    rw [hlen] at c9
    have HD := Lib.hid (bdelete_c g (xs.length + 1) cap x xs rfl w (by rw [hq] at HQ; exact HQ.out) (by omega))
    have hok : Ut.Ok { s with q := xs } := by
      have := Ut.read_ok h.ok 0
      have ok := h.ok
      exact ⟨ok.ier, ok.lcr, ok.mcr, ok.scr, ok.dll, ok.dlm, fun y hy => ok.qs y (by rw [hq]; exact List.mem_cons_of_mem _ hy), ok.outs, by dsimp only; omega⟩
    have HOK := Lib.hid hok
    have gl : ((xs.length + 1 : Nat) == 0) = false := by simp
    have gl2 : (((xs.length + 1 : Nat) : Int) == 0) = false := by simp; omega
    have gl3 : (0 : Int) < ((xs.length + 1 : Nat) : Int) := by omega
    have hx0 : List.getD (x :: xs) 0 0 = x := rfl
    rw [hx0]
    simp only [List.drop_succ_cons, List.drop_zero]
    have HG := Lib.hid (And.intro hgF hgo)
    clear h hok hgF hgo hq ho0 hx0 HQ hrow
    generalize hm : xs.length + 1 = m at *
    go_enter Tryz.func85, Tryz.ntmps85
    go_wp2_with fail
    refine HD.out.mono ?_
    rintro e w1 ⟨rfl, ho1, hc1⟩
    have hrow1 : CsAt w1 b PoT (ptV s _ sv) := hc1.cs H.out.row (fun e => HG.out.1.2 e.symm)
    have k9 := hrow1.cell 9
    have f9 := hrow1.frozen 9
    simp only [ptV, List.getElem?_toArray, List.getElem?_cons_succ, List.getElem?_cons_zero] at k9
    have hm1 : m - 1 = xs.length := by omega
    rw [hm1] at ho1
    have HP : PtQ F w (w1.setCell ⟨b, 9, none⟩ (.slice (some ⟨g, 0, none⟩) xs.length cap)) b { s with q := xs } := by
      have hk : PtS F w1 b { s with q := [] } (.slice none 0 0) sv → True := fun _ => trivial
      have hcb : Chg (fun k => k = b) w1 (w1.setCell ⟨b, 9, none⟩ (.slice (some ⟨g, 0, none⟩) xs.length cap)) := Chg.of_cell (S := fun k => k = b) rfl 9 _
      have hF : Chg F w (w1.setCell ⟨b, 9, none⟩ (.slice (some ⟨g, 0, none⟩) xs.length cap)) := (hc1.mono (fun k hk => by subst hk; exact HG.out.1.1)).trans (Chg.of_cell H.out.fb 9 _)
      refine PtQ.of ⟨.slice (some ⟨g, 0, none⟩) xs.length cap, sv, ?_, ?_, ?_, H.out.fb, fun k hk => ?_, H.out.fo, fun k hk => ?_, fun k hk => Nat.lt_of_lt_of_le (H.out.lt k hk) hF.size, HOK.out⟩ hF
      · unfold CsAt
        rw [heap_setCell_same w1 b 9 _ PoT _ hrow1]
        rfl
      · exact hcb.own ho1 (fun k hk e => HG.out.1.2 (by simp only [Value.ownBlock, Option.some.injEq] at hk; omega))
      · exact hcb.own (hc1.own H.out.o (fun k hk e => by subst e; exact HG.out.2 hk)) (fun k hk e => (H.out.fo k hk).2 e)
      · simp only [Value.ownBlock, Option.some.injEq] at hk
        subst hk
        exact HG.out.1
      · simp only [Value.ownBlock, Option.some.injEq] at hk
        subst hk
        exact HG.out.2
    have HP2 := Lib.hid HP
    clear HP ho1 hc1 hrow1 HD c9 hfirst
    go_wp2_with fail
    go_ret
    exact ⟨rfl, HP2.out⟩
end Go.Proofs.YtfjdalepaacmgaaGreat
set_option maxRecDepth 20000
namespace Go.Proofs.YtfjdalepaacmgaaGreat
open Go.ChangeShapes Go.WideShapes Go.ChangeAt Go.RowKit

namespace Ut
theorem cause_of (s : S) : cause s = 1 ∨ cause s = 2 ∨ cause s = 4 ∨ cause s = 6 := by
  unfold cause
  split
  · simp
  · split
    · simp
    · split <;> simp
theorem read2_v (s : S) : readV s 2 = cause s + (if s.fifo = true then 192 else 0) := rfl
theorem read2_s (s : S) : readS s 2 = if cause s = 2 then { s with empty := false } else s := rfl
theorem read5_v (s : S) : readV s 5 = 96 + (if s.q ≠ [] then 1 else 0) + (if s.lost = true then 2 else 0) := rfl
theorem read5_s (s : S) : readS s 5 = { s with lost := false } := rfl
def mdI (k : Nat) : Nat := if k = 0 then 1 else if k = 1 then 0 else k
def md (m : Int) : Nat → Int
  | 0 => 0
  | k + 1 => md m k + 2 ^ (4 + k) * b2i (bt m (mdI k))
theorem md_step : ∀ m : Fin 32, ∀ k : Fin 4, Go.bits .or .u8 (md ((m : Nat) : Int) k) (IntKind.u8.wrap (Go.bits .and .u8 (((m : Nat) : Int) / 2 ^ (mdI k)) 1 * 2 ^ (4 + (k : Nat)))) = md ((m : Nat) : Int) (k + 1) := by decide +kernel
theorem md_next {m : Int} (h0 : 0 ≤ m) (h1 : m < 32) (k : Nat) (hk : k < 4) : Go.bits .or .u8 (md m k) (IntKind.u8.wrap (Go.bits .and .u8 (m / 2 ^ (mdI k)) 1 * 2 ^ (4 + k))) = md m (k + 1) := by
  obtain ⟨n, rfl⟩ := Int.eq_ofNat_of_zero_le h0
  exact md_step ⟨n, by omega⟩ ⟨k, hk⟩
theorem md_all (m : Int) (h : bt m 4 = true) : modem m = md m 4 := by
  unfold modem
  rw [if_pos h]
  simp [md, mdI]
theorem modem_no (m : Int) (h : bt m 4 = false) : modem m = 176 := by
  unfold modem
  rw [if_neg (by rw [h]; simp)]
end Ut
set_option maxHeartbeats 4000000 in
theorem tellCause_c {F : Nat → Prop} {w : World} {b : Nat} {s : Ut.S} (h : Pt F w b s) :
    Calls Tryz.prog 86 #[.pointer (some ⟨b, 0, none⟩)] w fun e w' => e = .returned (.int .u8 (Ut.readV s 2)) ∧ PtQ F w w' b (Ut.readS s 2) := by
  obtain ⟨qv, sv, h⟩ := h
  obtain ⟨-, -, -, -, -, -, c6, -, c8, -, -⟩ := h.cells
  have f8 := h.row.frozen 8
  have HW := Lib.hid (why_c h)
  have hok := Ut.read_ok h.ok 2
  rw [Ut.read2_s] at hok ⊢
  rw [Ut.read2_v]
  have hc := Ut.cause_of s
  by_cases h2 : Ut.cause s = 2
  · rw [if_pos h2] at hok ⊢
    have HP := Lib.hid (PtQ.of (h.upd (i := 8) (v := .bool false) (t := { s with empty := false }) rfl rfl rfl hok).p (Chg.of_cell (w := w) h.fb 8 (.bool false)))
    have k6 : (w.setCell ⟨b, 8, none⟩ (.bool false)).cell? ⟨b, 6, none⟩ = some (.bool s.fifo) := (h.upd (i := 8) (v := .bool false) (t := { s with empty := false }) rfl rfl rfl hok).row.cell 6
    rw [h2] at HW ⊢
    clear hc h hok
    obtain hf | hf : s.fifo = false ∨ s.fifo = true := by cases s.fifo <;> simp
    all_goals
      rw [hf] at c6 k6
      simp only [hf, if_true, if_false, Bool.false_eq_true]
      go_enter Tryz.func86, Tryz.ntmps86
      go_wp2_with fail
      refine HW.out.mono ?_
      rintro e w1 ⟨rfl, rfl⟩
      go_wp2_with fail
      go_ret
      first | exact ⟨rfl, HP.out⟩ | (rw [hf] at HP; exact ⟨rfl, HP.out⟩)
  · rw [if_neg h2] at hok ⊢
    have HP := Lib.hid (PtQ.of h.p (Chg.refl F w))
    clear h hok
    have hc3 : Ut.cause s = 1 ∨ Ut.cause s = 4 ∨ Ut.cause s = 6 := by omega
    clear hc h2
    obtain hf | hf : s.fifo = false ∨ s.fifo = true := by cases s.fifo <;> simp
    all_goals
      rw [hf] at c6
      simp only [hf, if_true, if_false, Bool.false_eq_true]
      rcases hc3 with e | e | e
      all_goals
        rw [e] at HW ⊢
        clear e
        go_enter Tryz.func86, Tryz.ntmps86
        go_wp2_with fail
        refine HW.out.mono ?_
        rintro e w1 ⟨rfl, rfl⟩
        go_wp2_with fail
        go_ret
        exact ⟨rfl, HP.out⟩
set_option maxHeartbeats 4000000 in
theorem tellLine_c {F : Nat → Prop} {w : World} {b : Nat} {s : Ut.S} (h : Pt F w b s) :
    Calls Tryz.prog 87 #[.pointer (some ⟨b, 0, none⟩)] w fun e w' => e = .returned (.int .u8 (Ut.readV s 5)) ∧ PtQ F w w' b (Ut.readS s 5) := by
  obtain ⟨qv, sv, h⟩ := h
  obtain ⟨-, -, -, -, -, -, -, c7, -, c9, -⟩ := h.cells
  have f7 := h.row.frozen 7
  have hok := Ut.read_ok h.ok 5
  rw [Ut.read5_s] at hok ⊢
  rw [Ut.read5_v]
  have HP := Lib.hid (PtQ.of (h.upd (i := 7) (v := .bool false) (t := { s with lost := false }) rfl rfl rfl hok).p (Chg.of_cell (w := w) h.fb 7 (.bool false)))
  obtain ⟨p, cap, hqv, -⟩ := own_form h.q
  subst hqv
  clear h hok
  obtain hf | hf : s.lost = false ∨ s.lost = true := by cases s.lost <;> simp
  all_goals
    rw [hf] at c7
    simp only [hf, if_true, if_false, Bool.false_eq_true]
    by_cases hq : s.q = []
    · have e0 : decide (0 < s.q.length) = false := by rw [hq]; rfl
      rw [if_neg (by simpa using hq)]
      clear hq
      go_enter Tryz.func87, Tryz.ntmps87
      go_wp2_with fail
      go_ret
      exact ⟨rfl, HP.out⟩
    · have e0 : decide (0 < s.q.length) = true := by
        have := mt List.length_eq_zero_iff.1 hq
        simp only [decide_eq_true_eq]
        omega
      rw [if_pos (by simpa using hq)]
      clear hq
      go_enter Tryz.func87, Tryz.ntmps87
      go_wp2_with fail
      go_ret
      exact ⟨rfl, HP.out⟩
theorem info_StT2 : (Tryz.prog.info? StT).map (·.size) = some (stV Ut.zero).size := by kernel_rfl
set_option maxHeartbeats 4000000 in
theorem modemLines_c (s : Ut.S) (ok : Ut.Ok s) (w : World) : Calls Tryz.prog 88 #[.agg (stV s)] w fun e w' => e = .returned (.int .u8 (Ut.modem s.mcr)) ∧ Below w.heap.size w w' := by
  have HB := Lib.hid ((Below.refl w.heap.size w).alloc (Nat.le_refl _) (Obj.cells (stV s) StT))
  have HR := Lib.hid (CsAt.new w StT (stV s))
  have HL := Lib.hid (looped_c s ok)
  have hm := ok.mcr
  have HM := Lib.hid (fun k hk => Ut.md_next hm.1 hm.2 k hk)
  cases hl : Ut.lp s with
  | false =>
    rw [Ut.modem_no s.mcr hl]
    rw [hl] at HL
    clear hl hm
    go_enter Tryz.func88, Tryz.ntmps88
    go_wp2_with (refine wpList_load_row rfl StT _ rfl w.heap.size rfl StT _ (0, 0) _ HR.out Tryz.underlying119 rfl info_StT ?_)
    refine (HL.out _).mono ?_
    rintro e w1 ⟨rfl, hb1⟩
    have HB1 := Lib.hid (HB.out.trans (hb1.mono HB.out.size))
    clear hb1
    go_wp2_with fail
    go_ret
    exact ⟨rfl, HB1.out⟩
  | true =>
    rw [Ut.md_all s.mcr hl]
    rw [hl] at HL
    clear hl
    go_enter Tryz.func88, Tryz.ntmps88
    go_wp2_with (refine wpList_load_row rfl StT _ rfl w.heap.size rfl StT _ (0, 0) _ HR.out Tryz.underlying119 rfl info_StT ?_)
    refine (HL.out _).mono ?_
    rintro e w1 ⟨rfl, hb1⟩
    have HB1 := Lib.hid (HB.out.trans (hb1.mono HB.out.size))
    have HR1 := Lib.hid (HR.out.low hb1)
    clear hb1 HB HR HL
    go_wp2_with fail
    go_loopw [3, 10] (fun v i wr => ∃ k : Nat, k ≤ 4 ∧ i = .int .i64 k ∧ v = .int .u8 (Ut.md s.mcr k) ∧ wr = w1) (fun _ i _ => 4 - (intOf i).toNat)
    case atStart => exact ⟨0, by omega, rfl, rfl, rfl⟩
    case round =>
      obtain ⟨k, hk, rfl, rfl, rfl⟩ := hrel
      have c2 := HR1.out.cell 2
      simp only [stV, List.getElem?_toArray, List.getElem?_cons_succ, List.getElem?_cons_zero] at c2
      have ix0 : ∀ W : World, (Instr.index 167 (.agg #[.int .i64 1, .int .i64 0, .int .i64 2, .int .i64 3]) (.int .i64 0)).run Tryz.prog W = .ok (.int .i64 1) W := fun W => by kernel_rfl
      have ix1 : ∀ W : World, (Instr.index 167 (.agg #[.int .i64 1, .int .i64 0, .int .i64 2, .int .i64 3]) (.int .i64 1)).run Tryz.prog W = .ok (.int .i64 0) W := fun W => by kernel_rfl
      have ix2 : ∀ W : World, (Instr.index 167 (.agg #[.int .i64 1, .int .i64 0, .int .i64 2, .int .i64 3]) (.int .i64 2)).run Tryz.prog W = .ok (.int .i64 2) W := fun W => by kernel_rfl
      have ix3 : ∀ W : World, (Instr.index 167 (.agg #[.int .i64 1, .int .i64 0, .int .i64 2, .int .i64 3]) (.int .i64 3)).run Tryz.prog W = .ok (.int .i64 3) W := fun W => by kernel_rfl
      obtain rfl | rfl | rfl | rfl | rfl : k = 0 ∨ k = 1 ∨ k = 2 ∨ k = 3 ∨ k = 4 := by omega
      · have e := HM.out 0 (by omega)
        generalize Ut.md s.mcr 0 = v at *
        go_wp2_with fail
        go_roundw
        case rel => exact ⟨1, by omega, rfl, by rw [← e]; rfl, trivial⟩
        case measure => simp [intOf]
      · have e := HM.out 1 (by omega)
        generalize Ut.md s.mcr 1 = v at *
        go_wp2_with fail
        go_roundw
        case rel => exact ⟨2, by omega, rfl, by rw [← e]; simp [Ut.mdI, IntKind.wrap_u8], trivial⟩
        case measure => simp [intOf]
      · have e := HM.out 2 (by omega)
        generalize Ut.md s.mcr 2 = v at *
        go_wp2_with fail
        go_roundw
        case rel => exact ⟨3, by omega, rfl, by rw [← e]; rfl, trivial⟩
        case measure => simp [intOf]
      · have e := HM.out 3 (by omega)
        generalize Ut.md s.mcr 3 = v at *
        go_wp2_with fail
        go_roundw
        case rel => exact ⟨4, by omega, rfl, by rw [← e]; rfl, trivial⟩
        case measure => simp [intOf]
      · go_wp2_with fail
        go_ret
        exact ⟨rfl, HB1.out⟩
end Go.Proofs.YtfjdalepaacmgaaGreat
set_option maxRecDepth 20000
namespace Go.Proofs.YtfjdalepaacmgaaGreat
open Go.ChangeShapes Go.WideShapes Go.ChangeAt Go.RowKit

namespace Ut
theorem read_far {s : S} {off : Int} (h : 8 ≤ off) : readV s off = 0 ∧ readS s off = s ∧ is off = false := by
  unfold readV readS is
  refine ⟨?_, ?_, by simp; omega⟩
  · repeat (first | rw [if_neg (by omega)])
  · repeat (first | rw [if_neg (by omega)])
theorem is_lt {off : Int} (h : off < 8) : is off = true := by unfold is; simpa using h
theorem read0_v (s : S) : readV s 0 = if hi s = true then s.dll else s.q.getD 0 0 := rfl
theorem read0_s (s : S) : readS s 0 = if hi s = true then s else { s with q := s.q.drop 1 } := rfl
theorem read1_v (s : S) : readV s 1 = if hi s = true then s.dlm else s.ier := rfl
theorem read1_s (s : S) : readS s 1 = s := rfl
theorem read3_v (s : S) : readV s 3 = s.lcr := rfl
theorem read3_s (s : S) : readS s 3 = s := rfl
theorem read4_v (s : S) : readV s 4 = s.mcr := rfl
theorem read4_s (s : S) : readS s 4 = s := rfl
theorem read6_v (s : S) : readV s 6 = modem s.mcr := rfl
theorem read6_s (s : S) : readS s 6 = s := rfl
theorem read7_v (s : S) : readV s 7 = s.scr := rfl
theorem read7_s (s : S) : readS s 7 = s := rfl
end Ut
set_option maxHeartbeats 16000000 in
theorem uread_c {F : Nat → Prop} {w : World} {b : Nat} {s : Ut.S} (off : Int) (h0 : 0 ≤ off) (_h1 : off ≤ 18446744073709551615) (h : Pt F w b s) :
    Calls Tryz.prog 55 #[.pointer (some ⟨b, 0, none⟩), .int .u64 off] w fun e w' => e = .returned (.tuple #[.int .u8 (Ut.readV s off), .bool (Ut.is off)]) ∧ PtQ F w w' b (Ut.readS s off) := by
  have HC := Lib.hid (tellCause_c h)
  have HT := Lib.hid (tellLine_c h)
  have HK := Lib.hid (take_c h)
  have HLa := Lib.hid (latched_c s h.ok w)
  have HMo := Lib.hid (modemLines_c s h.ok w)
  have H0 := Lib.hid h
  obtain ⟨qv, sv, hp⟩ := h
  obtain ⟨c0, c1, c2, c3, c4, c5, c6, c7, c8, -, -⟩ := hp.cells
  have HST := Lib.hid hp.st
  have HR := Lib.hid (PtQ.of H0.out (Chg.refl F w))
  have HLow := Lib.hid (fun (w' : World) (hb : Below w.heap.size w w') => PtQ.of (F := F) (H0.out.low hb) (Chg.of_below hb))
  have hbl : b < w.heap.size := hp.lt b hp.fb
  clear hp
  by_cases hf : 8 ≤ off
  · obtain ⟨e1, e2, e3⟩ := Ut.read_far (s := s) hf
    rw [e1, e2, e3]
    have g0 : decide (off ≥ 8) = true := by simpa using hf
    clear HC HT HK HLa HMo hf
    go_enter Tryz.func55, Tryz.ntmps55
    go_wp2_with fail
    go_ret2
    exact ⟨rfl, HR.out⟩
  · rw [Ut.is_lt (by omega)]
    obtain rfl | rfl | rfl | rfl | rfl | rfl | rfl | rfl : off = 0 ∨ off = 1 ∨ off = 2 ∨ off = 3 ∨ off = 4 ∨ off = 5 ∨ off = 6 ∨ off = 7 := by omega
    · rw [Ut.read0_v, Ut.read0_s]
      cases hl : Ut.hi s with
      | true =>
        rw [hl] at HLa
        rw [if_pos rfl, if_pos rfl]
        clear hl HC HT HMo HK
        go_enter Tryz.func55, Tryz.ntmps55
        go_wp2_with (refine wpList_load_midW (by kernel_rfl) StT _ rfl b 0 rfl (stV s).toList _ HST.out Tryz.underlying119 rfl info_StT ?_)
        refine HLa.out.mono ?_
        rintro e w1 ⟨rfl, hb1⟩
        have HB1 := Lib.hid hb1
        have k := (hb1.cell (p := ⟨b, 4, none⟩) hbl).trans c4
        clear hb1 HLa HR
        go_wp2_with fail
        go_ret2
        exact ⟨rfl, HLow.out _ HB1.out⟩
      | false =>
        rw [hl] at HLa
        rw [if_neg (by simp), if_neg (by simp)]
        clear hl HC HT HMo
        go_enter Tryz.func55, Tryz.ntmps55
        go_wp2_with (refine wpList_load_midW (by kernel_rfl) StT _ rfl b 0 rfl (stV s).toList _ HST.out Tryz.underlying119 rfl info_StT ?_)
        refine HLa.out.mono ?_
        rintro e w1 ⟨rfl, hb1⟩
        have HB1 := Lib.hid hb1
        have HK1 := Lib.hid (take_c (H0.out.low hb1))
        have HC1 := Lib.hid (Chg.of_below (S := F) hb1)
        have HF1 := Lib.hid (fun (w2 : World) (s2 : Ut.S) (h : PtQ F w1 w2 b s2) => PtQ.seq HC1.out h)
        clear hb1 HK HLa HLow HR
        go_wp2_with fail
        refine HK1.out.mono ?_
        rintro e w2 ⟨rfl, hp2⟩
        have HP2 := Lib.hid (HF1.out _ _ hp2)
        clear hp2 HF1 HK1
        go_wp2_with fail
        go_ret2
        exact ⟨rfl, HP2.out⟩
    · rw [Ut.read1_v, Ut.read1_s]
      cases hl : Ut.hi s with
      | true =>
        rw [hl] at HLa
        rw [if_pos rfl]
        clear hl HC HT HMo HK
        go_enter Tryz.func55, Tryz.ntmps55
        go_wp2_with (refine wpList_load_midW (by kernel_rfl) StT _ rfl b 0 rfl (stV s).toList _ HST.out Tryz.underlying119 rfl info_StT ?_)
        refine HLa.out.mono ?_
        rintro e w1 ⟨rfl, hb1⟩
        have HB1 := Lib.hid hb1
        have k := (hb1.cell (p := ⟨b, 5, none⟩) hbl).trans c5
        clear hb1 HLa HR
        go_wp2_with fail
        go_ret2
        exact ⟨rfl, HLow.out _ HB1.out⟩
      | false =>
        rw [hl] at HLa
        rw [if_neg (by simp)]
        clear hl HC HT HMo HK
        go_enter Tryz.func55, Tryz.ntmps55
        go_wp2_with (refine wpList_load_midW (by kernel_rfl) StT _ rfl b 0 rfl (stV s).toList _ HST.out Tryz.underlying119 rfl info_StT ?_)
        refine HLa.out.mono ?_
        rintro e w1 ⟨rfl, hb1⟩
        have HB1 := Lib.hid hb1
        have k := (hb1.cell (p := ⟨b, 0, none⟩) hbl).trans c0
        clear hb1 HLa HR
        go_wp2_with fail
        go_ret2
        exact ⟨rfl, HLow.out _ HB1.out⟩
    · skip
      clear HK HLa HMo HLow HR HT
      go_enter Tryz.func55, Tryz.ntmps55
      go_wp2_with fail
      refine HC.out.mono ?_
      rintro e w2 ⟨rfl, hp2⟩
      have HP2 := Lib.hid hp2
      clear hp2 HC
      go_wp2_with fail
      go_ret2
      exact ⟨rfl, HP2.out⟩
    · rw [Ut.read3_v, Ut.read3_s]
      clear HC HT HK HLa HMo
      go_enter Tryz.func55, Tryz.ntmps55
      go_wp2_with fail
      go_ret2
      exact ⟨rfl, HR.out⟩
    · rw [Ut.read4_v, Ut.read4_s]
      clear HC HT HK HLa HMo
      go_enter Tryz.func55, Tryz.ntmps55
      go_wp2_with fail
      go_ret2
      exact ⟨rfl, HR.out⟩
    · skip
      clear HK HLa HMo HLow HR HC
      go_enter Tryz.func55, Tryz.ntmps55
      go_wp2_with fail
      refine HT.out.mono ?_
      rintro e w2 ⟨rfl, hp2⟩
      have HP2 := Lib.hid hp2
      clear hp2 HT
      go_wp2_with fail
      go_ret2
      exact ⟨rfl, HP2.out⟩
    · rw [Ut.read6_v, Ut.read6_s]
      clear HC HT HK HLa HR
      go_enter Tryz.func55, Tryz.ntmps55
      go_wp2_with (refine wpList_load_mid rfl StT _ rfl b 0 rfl (stV s).toList _ HST.out Tryz.underlying119 rfl info_StT ?_)
      refine HMo.out.mono ?_
      rintro e w1 ⟨rfl, hb1⟩
      have HB1 := Lib.hid hb1
      clear hb1 HMo
      go_wp2_with fail
      go_ret2
      exact ⟨rfl, HLow.out _ HB1.out⟩
    · rw [Ut.read7_v, Ut.read7_s]
      clear HC HT HK HLa HMo
      go_enter Tryz.func55, Tryz.ntmps55
      go_wp2_with fail
      go_ret2
      exact ⟨rfl, HR.out⟩
end Go.Proofs.YtfjdalepaacmgaaGreat
