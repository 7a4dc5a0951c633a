/-
  Contracts of uart.Write, of a port. Contracts of uart's New, Fits, Input, Line, Waiting, Out; of a port that isn't there. Two values of a struct's or an array's type (of integers, bools, and such structs and arrays) compared: they are equal just if all their cells are.
-/
import Derived.Test.YtfjdalepaacmgaaGreatYaj
import Derived.WalkMore
import Derived.Test.YtfjdalepaacmgaaGreatRows
import Derived.DeepKeys
import Derived.Laws.StructEq
import Derived.WalkKit
set_option maxRecDepth 20000
namespace Go.Proofs.YtfjdalepaacmgaaGreat
open Go.ChangeShapes Go.WideShapes Go.ChangeAt Go.RowKit

namespace Ut
theorem write_far {s : S} {off x : Int} (h : 8 ≤ off) : writeS s off x = s ∧ is off = false := by
  unfold writeS is
  refine ⟨?_, by simp; omega⟩
  repeat (first | rw [if_neg (by omega)])
theorem write0 (s : S) (x : Int) : writeS s 0 x = if hi s = true then { s with dll := x } else if lp s = true then { comeS s x with empty := true } else { s with out := s.out ++ [x], empty := true } := rfl
theorem write1 (s : S) (x : Int) : writeS s 1 x = if hi s = true then { s with dlm := x } else { s with empty := s.empty || (bt x 1 && !bt s.ier 1), ier := x % 16 } := rfl
theorem write2 (s : S) (x : Int) : writeS s 2 x = { s with q := if bt x 0 ≠ s.fifo ∨ bt x 1 = true then [] else s.q, fifo := bt x 0 } := rfl
theorem write3 (s : S) (x : Int) : writeS s 3 x = { s with lcr := x } := rfl
theorem write4 (s : S) (x : Int) : writeS s 4 x = { s with mcr := x % 32 } := rfl
theorem write5 (s : S) (x : Int) : writeS s 5 x = s := rfl
theorem write6 (s : S) (x : Int) : writeS s 6 x = s := rfl
theorem write7 (s : S) (x : Int) : writeS s 7 x = { s with scr := x } := rfl
theorem rise_f : ∀ x : Fin 256, ∀ y : Fin 16, (Go.bits .and .u8 (Go.bits .andNot .u8 ((x : Nat) : Int) ((y : Nat) : Int)) 2 != 0) = (bt ((x : Nat) : Int) 1 && !bt ((y : Nat) : Int) 1) := by decide +kernel
theorem rise {x y : Int} (hx : isB x) (hy : 0 ≤ y ∧ y < 16) : (Go.bits .and .u8 (Go.bits .andNot .u8 x y) 2 != 0) = (bt x 1 && !bt y 1) := by
  obtain ⟨n, rfl⟩ := Int.eq_ofNat_of_zero_le hx.1
  obtain ⟨m, rfl⟩ := Int.eq_ofNat_of_zero_le hy.1
  exact rise_f ⟨n, by have := hx.2; omega⟩ ⟨m, by have := hy.2; omega⟩
theorem low_f : ∀ x : Fin 256, Go.bits .and .u8 ((x : Nat) : Int) 15 = ((x : Nat) : Int) % 16 ∧ Go.bits .and .u8 ((x : Nat) : Int) 31 = ((x : Nat) : Int) % 32 := by decide +kernel
theorem low4 {x : Int} (hx : isB x) : Go.bits .and .u8 x 15 = x % 16 := by
  obtain ⟨n, rfl⟩ := Int.eq_ofNat_of_zero_le hx.1
  exact (low_f ⟨n, by have := hx.2; omega⟩).1
theorem low5 {x : Int} (hx : isB x) : Go.bits .and .u8 x 31 = x % 32 := by
  obtain ⟨n, rfl⟩ := Int.eq_ofNat_of_zero_le hx.1
  exact (low_f ⟨n, by have := hx.2; omega⟩).2
end Ut
/-- Something more is changed of a port. -/
theorem PtQ.upd {F : Nat → Prop} {w w1 w' : World} {b : Nat} {s t : Ut.S} (h : PtQ F w w1 b s) (f : Pt (Nw F w w1) w1 b s → Pt (Nw F w w1) w' b t) (hs : w'.heap.size = w1.heap.size) (hc : Chg F w1 w') : PtQ F w w' b t := by
  refine ⟨?_, h.chg.trans hc⟩
  have := f h.pt
  rwa [show Nw F w w' = Nw F w w1 by unfold Nw; rw [hs]]
/-- One cell of a port is stored. -/
theorem PtQ.cell {F : Nat → Prop} {w w1 : World} {b : Nat} {s t : Ut.S} (h : PtQ F w w1 b s) (hb : F b) {i : Nat} {v : Value} (e : ∀ qv sv, (ptV s qv sv).setIfInBounds i v = ptV t qv sv) (eq : t.q = s.q) (eo : t.out = s.out) (ok : Ut.Ok t) :
    PtQ F w (w1.setCell ⟨b, i, none⟩ v) b t :=
  h.upd (fun ⟨qv, sv, hp⟩ => ⟨qv, sv, hp.upd (e qv sv) eq eo ok⟩) (by simp) (Chg.of_cell hb i v)
theorem PtQ.row {F : Nat → Prop} {w w1 : World} {b : Nat} {s : Ut.S} (h : PtQ F w w1 b s) : ∃ qv sv, CsAt w1 b PoT (ptV s qv sv) := by
  obtain ⟨qv, sv, hp⟩ := h.pt
  exact ⟨qv, sv, hp.row⟩
set_option maxHeartbeats 16000000 in
theorem uwrite_c {F : Nat → Prop} {w : World} {b : Nat} {s : Ut.S} (off x : Int) (h0 : 0 ≤ off) (_h1 : off ≤ 18446744073709551615) (hx : Ut.isB x) (ho : s.out.length < 900) (h : Pt F w b s) :
    Calls Tryz.prog 59 #[.pointer (some ⟨b, 0, none⟩), .int .u64 off, .int .u8 x] w fun e w' => e = .returned (.bool (Ut.is off)) ∧ PtQ F w w' b (Ut.writeS s off x) := by
  have hok := Ut.write_ok (off := off) h.ok hx
  have HLa := Lib.hid (latched_c s h.ok w)
  have HLo := Lib.hid (looped_c s h.ok)
  have HX := Lib.hid hx
  have HO := Lib.hid ho
  have H0 := Lib.hid h
  obtain ⟨qv, sv, hp⟩ := h
  obtain ⟨c0, c1, c2, c3, c4, c5, c6, c7, c8, c9, c10⟩ := hp.cells
  have HST := Lib.hid hp.st
  have HP := Lib.hid hp
  have HR := Lib.hid (PtQ.of H0.out (Chg.refl F w))
  have HLow := Lib.hid (fun (w' : World) (hb : Below w.heap.size w w') => PtQ.of (F := F) (H0.out.low hb) (Chg.of_below hb))
  have hbl : b < w.heap.size := hp.lt b hp.fb
  have hfb := hp.fb
  by_cases hf : 8 ≤ off
  · obtain ⟨e2, e3⟩ := Ut.write_far (s := s) (x := x) hf
    rw [e2, e3]
    have g0 : decide (off ≥ 8) = true := by simpa using hf
    clear HLa HLo hf hok hp
    go_enter Tryz.func59, Tryz.ntmps59
    go_wp2_with fail
    go_step3
    go_wp2_with fail
    try rw [Exit.noGoto_ret]
    go_ret
    exact ⟨rfl, HR.out⟩
  · rw [Ut.is_lt (by omega)]
    obtain rfl | rfl | rfl | rfl | rfl | rfl | rfl | rfl : off = 0 ∨ off = 1 ∨ off = 2 ∨ off = 3 ∨ off = 4 ∨ off = 5 ∨ off = 6 ∨ off = 7 := by omega
    · rw [Ut.write0] at hok ⊢
      cases hl : Ut.hi s with
      | true =>
        rw [hl] at HLa
        rw [hl, if_pos rfl] at hok
        rw [if_pos rfl]
        go_enter Tryz.func59, Tryz.ntmps59
        go_wp2_with fail
        go_step3
        go_wp2_with fail
        go_step3
        go_wp2_with (refine wpList_load_mid rfl StT _ rfl b 0 rfl (stV s).toList _ HST.out Tryz.underlying119 rfl info_StT ?_)
        refine HLa.out.mono ?_
        rintro e w1 ⟨rfl, hb1⟩
        have HB1 := Lib.hid hb1
        have k := (hb1.cell (p := ⟨b, 4, none⟩) hbl).trans c4
        have f := (HP.out.low hb1).row.frozen 4
        have HQ := Lib.hid ((HLow.out _ hb1).cell (i := 4) (v := .int .u8 x) (t := { s with dll := x }) hfb (fun _ _ => rfl) rfl rfl hok)
        clear hb1 hok hp HLa HLo
        go_wp2_with fail
        try rw [Exit.noGoto_ret]
        go_ret
        exact ⟨rfl, HQ.out⟩
      | false =>
        rw [hl] at HLa
        rw [hl, if_neg (by simp)] at hok
        rw [if_neg (by simp)]
        cases hm : Ut.lp s with
        | true =>
          rw [hm] at HLo
          rw [hm, if_pos rfl] at hok
          rw [if_pos rfl]
          have HOK := Lib.hid hok
          clear hok hp
          go_enter Tryz.func59, Tryz.ntmps59
          go_wp2_with fail
          go_step3
          go_wp2_with fail
          go_step3
          go_wp2_with (refine wpList_load_mid rfl StT _ rfl b 0 rfl (stV s).toList _ HST.out Tryz.underlying119 rfl info_StT ?_)
          refine HLa.out.mono ?_
          rintro e w1 ⟨rfl, hb1⟩
          have HB1 := Lib.hid hb1
          have hst1 := (HP.out.low hb1).st
          have HST1 := Lib.hid hst1
          have HC1 := Lib.hid (receive_c hx (H0.out.low hb1))
          clear hb1 HLa hst1
          go_wp2_with (refine wpList_load_mid rfl StT _ rfl b 0 rfl (stV s).toList _ HST1.out Tryz.underlying119 rfl info_StT ?_)
          refine (HLo.out _).mono ?_
          rintro e w2 ⟨rfl, hb2⟩
          have HB2 := Lib.hid (HB1.out.trans (hb2.mono HB1.out.size))
          have HC2 := Lib.hid (receive_c hx (H0.out.low HB2.out))
          clear hb2 HLo HC1
          go_wp2_with fail
          refine HC2.out.mono ?_
          rintro e w3 ⟨rfl, hq3⟩
          have hq4 := PtQ.seq (Chg.of_below (S := F) HB2.out) hq3
          obtain ⟨qv3, sv3, hr3⟩ := hq4.row
          have k8 := hr3.cell 8
          have f8 := hr3.frozen 8
          simp only [ptV, List.getElem?_toArray, List.getElem?_cons_succ, List.getElem?_cons_zero] at k8
          have HQ := Lib.hid (hq4.cell (i := 8) (v := .bool true) (t := { Ut.comeS s x with empty := true }) hfb (fun _ _ => rfl) rfl rfl HOK.out)
          clear hq3 hq4 hr3 HC2
          go_wp2_with fail
          try rw [Exit.noGoto_ret]
          go_ret
          exact ⟨rfl, HQ.out⟩
        | false =>
          rw [hm] at HLo
          rw [hm, if_neg (by simp)] at hok
          rw [if_neg (by simp)]
          have HOK := Lib.hid hok
          clear hok
          have hoo : Ut.Ok { s with out := s.out ++ [x] } := ⟨hp.ok.ier, hp.ok.lcr, hp.ok.mcr, hp.ok.scr, hp.ok.dll, hp.ok.dlm, hp.ok.qs, HOK.out.outs, hp.ok.qn⟩
          have HOO := Lib.hid hoo
          obtain ⟨p, cap, hsv, -⟩ := own_form hp.o
          subst hsv
          clear hp hoo
          go_enter Tryz.func59, Tryz.ntmps59
          go_wp2_with fail
          go_step3
          go_wp2_with fail
          go_step3
          go_wp2_with (refine wpList_load_mid rfl StT _ rfl b 0 rfl (stV s).toList _ HST.out Tryz.underlying119 rfl info_StT ?_)
          refine HLa.out.mono ?_
          rintro e w1 ⟨rfl, hb1⟩
          have HB1 := Lib.hid hb1
          have HST1 := Lib.hid (HP.out.low hb1).st
          clear hb1 HLa
          go_wp2_with (refine wpList_load_mid rfl StT _ rfl b 0 rfl (stV s).toList _ HST1.out Tryz.underlying119 rfl info_StT ?_)
          refine (HLo.out _).mono ?_
          rintro e w2 ⟨rfl, hb2⟩
          have HB2 := Lib.hid (HB1.out.trans (hb2.mono HB1.out.size))
          have HP2 := Lib.hid (HP.out.low HB2.out)
          have k10 := HP2.out.row.cell 10
          have f10 := HP2.out.row.frozen 10
          simp only [ptV, List.getElem?_toArray, List.getElem?_cons_succ, List.getElem?_cons_zero] at k10
          have hsz2 := HP2.out.lt b hfb
          clear hb2 HLo
          go_wp2_with (at_builtin; refine wpList_pushG rfl _ _ U8S rfl 0 U8 _ 1 1 Tryz.underlying49 info_u8 rfl (by omega) (by omega) _ s.out.length _ rfl HP2.out.o #[.int .u8 x] rfl (one_u8 x) _ rfl rfl (by omega) (Nat.zero_le _) ?_)
          intro v' w' ho2 hg hv
          have hcb : CsAt w' b PoT (ptV s qv (.slice p s.out.length cap)) := (Chg.of_grown (S := fun k => (Value.slice p s.out.length cap).ownBlock = some k) hg (fun k hk => hk)).cs (HP2.out.row.alloc _) (fun e => (HP2.out.fo b e).2 rfl)
          have j10 := hcb.cell 10
          have g10 := hcb.frozen 10
          have hq3 := PtQ.seq (Chg.of_below (S := F) HB2.out) (HP2.out.push (i := 10) (x := x) (.inr ⟨rfl, HOO.out⟩) ho2 hg hv.out)
          simp only [show ¬ ((10 : Nat) = 9) by omega, if_false] at hq3
          obtain ⟨p2, cap2, hv2, -⟩ := own_form ho2
          subst hv2
          obtain ⟨qv3, sv3, hr3⟩ := hq3.row
          have j8 := hr3.cell 8
          have g8 := hr3.frozen 8
          simp only [ptV, List.getElem?_toArray, List.getElem?_cons_succ, List.getElem?_cons_zero] at j10 j8
          have HQ := Lib.hid (hq3.cell (i := 8) (v := .bool true) (t := { s with out := s.out ++ [x], empty := true }) hfb (fun _ _ => rfl) rfl rfl HOK.out)
          clear ho2 hg hv hcb hq3 hr3 k10 f10
          go_wp2_with fail
          try rw [Exit.noGoto_ret]
          go_ret
          exact ⟨rfl, HQ.out⟩
    · rw [Ut.write1] at hok ⊢
      cases hl : Ut.hi s with
      | true =>
        rw [hl] at HLa
        rw [hl, if_pos rfl] at hok
        rw [if_pos rfl]
        go_enter Tryz.func59, Tryz.ntmps59
        go_wp2_with fail
        go_step3
        go_wp2_with fail
        go_step3
        go_wp2_with (refine wpList_load_mid rfl StT _ rfl b 0 rfl (stV s).toList _ HST.out Tryz.underlying119 rfl info_StT ?_)
        refine HLa.out.mono ?_
        rintro e w1 ⟨rfl, hb1⟩
        have HB1 := Lib.hid hb1
        have k := (hb1.cell (p := ⟨b, 5, none⟩) hbl).trans c5
        have f := (HP.out.low hb1).row.frozen 5
        have HQ := Lib.hid ((HLow.out _ hb1).cell (i := 5) (v := .int .u8 x) (t := { s with dlm := x }) hfb (fun _ _ => rfl) rfl rfl hok)
        clear hb1 hok hp HLa HLo
        go_wp2_with fail
        try rw [Exit.noGoto_ret]
        go_ret
        exact ⟨rfl, HQ.out⟩
      | false =>
        rw [hl] at HLa
        rw [hl, if_neg (by simp)] at hok
        rw [if_neg (by simp)]
        have er := Ut.rise hx hp.ok.ier
        have e4 := Ut.low4 hx
        obtain ⟨r, hr⟩ : ∃ r, (Ut.bt x 1 && !Ut.bt s.ier 1) = r := ⟨_, rfl⟩
        rw [hr] at hok er
        rw [hr]
        have hok1 : Ut.Ok { s with empty := s.empty || r } := ⟨hp.ok.ier, hp.ok.lcr, hp.ok.mcr, hp.ok.scr, hp.ok.dll, hp.ok.dlm, hp.ok.qs, hp.ok.outs, hp.ok.qn⟩
        have HOK1 := Lib.hid hok1
        have HOK := Lib.hid hok
        obtain he | he : s.empty = false ∨ s.empty = true := by cases s.empty <;> simp
        · rw [he] at c8 HOK1 HOK
          rw [he]
          simp only [Bool.false_or] at HOK1 HOK ⊢
          clear hok hok1 he
          go_enter Tryz.func59, Tryz.ntmps59
          go_wp2_with fail
          go_step3
          go_wp2_with fail
          go_step3
          go_wp2_with (refine wpList_load_mid rfl StT _ rfl b 0 rfl (stV s).toList _ HST.out Tryz.underlying119 rfl info_StT ?_)
          refine HLa.out.mono ?_
          rintro e w1 ⟨rfl, hb1⟩
          have HB1 := Lib.hid hb1
          have k0 := (hb1.cell (p := ⟨b, 0, none⟩) hbl).trans c0
          have k8 := (hb1.cell (p := ⟨b, 8, none⟩) hbl).trans c8
          have f0 := (HP.out.low hb1).row.frozen 0
          have f8 := (HP.out.low hb1).row.frozen 8
          have HQ1 := Lib.hid ((HLow.out _ hb1).cell (i := 8) (v := .bool r) (t := { s with empty := r }) hfb (fun _ _ => rfl) rfl rfl HOK1.out)
          have HQ := Lib.hid (HQ1.out.cell (i := 0) (v := .int .u8 (x % 16)) (t := { s with empty := r, ier := x % 16 }) hfb (fun _ _ => rfl) rfl rfl HOK.out)
          clear hb1 hp HLa HLo HQ1
          go_wp2_with fail
          try rw [Exit.noGoto_ret]
          go_ret
          exact ⟨rfl, HQ.out⟩
        · rw [he] at c8 HOK1 HOK
          rw [he]
          simp only [Bool.true_or] at HOK1 HOK ⊢
          clear hok hok1 he
          go_enter Tryz.func59, Tryz.ntmps59
          go_wp2_with fail
          go_step3
          go_wp2_with fail
          go_step3
          go_wp2_with (refine wpList_load_mid rfl StT _ rfl b 0 rfl (stV s).toList _ HST.out Tryz.underlying119 rfl info_StT ?_)
          refine HLa.out.mono ?_
          rintro e w1 ⟨rfl, hb1⟩
          have HB1 := Lib.hid hb1
          have k0 := (hb1.cell (p := ⟨b, 0, none⟩) hbl).trans c0
          have k8 := (hb1.cell (p := ⟨b, 8, none⟩) hbl).trans c8
          have f0 := (HP.out.low hb1).row.frozen 0
          have f8 := (HP.out.low hb1).row.frozen 8
          have HQ1 := Lib.hid ((HLow.out _ hb1).cell (i := 8) (v := .bool true) (t := { s with empty := true }) hfb (fun _ _ => rfl) rfl rfl HOK1.out)
          have HQ := Lib.hid (HQ1.out.cell (i := 0) (v := .int .u8 (x % 16)) (t := { s with empty := true, ier := x % 16 }) hfb (fun _ _ => rfl) rfl rfl HOK.out)
          clear hb1 hp HLa HLo HQ1
          go_wp2_with fail
          try rw [Exit.noGoto_ret]
          go_ret
          exact ⟨rfl, HQ.out⟩
    · rw [Ut.write2] at hok ⊢
      have a0 := Ut.and1 hx
      have a1 := Ut.and2 hx
      have hqo : Ut.Ok { s with q := [] } := ⟨hp.ok.ier, hp.ok.lcr, hp.ok.mcr, hp.ok.scr, hp.ok.dll, hp.ok.dlm, by simp, hp.ok.outs, by simp⟩
      have HQ0 := Lib.hid (hp.setQ (v := .slice none 0 0) (xs := []) (World.ownsRow_nil _ _ _ _) (fun k hk => by cases hk) hqo)
      obtain ⟨p, cap, rfl, -⟩ := own_form hp.q
      have f6 := hp.row.frozen 6
      have f9 := hp.row.frozen 9
      generalize Ut.bt x 0 = nf at *
      generalize Ut.bt x 1 = cl at *
      obtain hff | hff : s.fifo = false ∨ s.fifo = true := by cases s.fifo <;> simp
      · rw [hff] at c6
        cases nf with
        | false =>
          cases cl with
          | true =>
            rw [if_pos (by rw [hff]; simp)] at hok ⊢
            have HQ := Lib.hid ((PtQ.of HQ0.out.p (Chg.of_cell (w := w) hfb 9 (.slice none 0 0))).cell (i := 6) (v := .bool false) (t := { s with q := [], fifo := false }) hfb (fun _ _ => rfl) rfl rfl hok)
            clear hok hp HLa HLo HQ0
            go_enter Tryz.func59, Tryz.ntmps59
            go_wp2_with fail
            go_step3
            go_wp2_with fail
            go_step3
            go_wp2_with fail
            try rw [Exit.noGoto_ret]
            go_ret
            exact ⟨rfl, HQ.out⟩
          | false =>
            rw [if_neg (by rw [hff]; simp)] at hok ⊢
            have HQ := Lib.hid (HR.out.cell (i := 6) (v := .bool false) (t := { s with fifo := false }) hfb (fun _ _ => rfl) rfl rfl hok)
            clear hok hp HLa HLo HQ0
            go_enter Tryz.func59, Tryz.ntmps59
            go_wp2_with fail
            go_step3
            go_wp2_with fail
            go_step3
            go_wp2_with fail
            try rw [Exit.noGoto_ret]
            go_ret
            exact ⟨rfl, HQ.out⟩
        | true =>
          rw [if_pos (by rw [hff]; simp)] at hok ⊢
          have HQ := Lib.hid ((PtQ.of HQ0.out.p (Chg.of_cell (w := w) hfb 9 (.slice none 0 0))).cell (i := 6) (v := .bool true) (t := { s with q := [], fifo := true }) hfb (fun _ _ => rfl) rfl rfl hok)
          clear hok hp HLa HLo HQ0
          go_enter Tryz.func59, Tryz.ntmps59
          go_wp2_with fail
          go_step3
          go_wp2_with fail
          go_step3
          go_wp2_with fail
          try rw [Exit.noGoto_ret]
          go_ret
          exact ⟨rfl, HQ.out⟩
      · rw [hff] at c6
        cases nf with
        | false =>
          rw [if_pos (by rw [hff]; simp)] at hok ⊢
          have HQ := Lib.hid ((PtQ.of HQ0.out.p (Chg.of_cell (w := w) hfb 9 (.slice none 0 0))).cell (i := 6) (v := .bool false) (t := { s with q := [], fifo := false }) hfb (fun _ _ => rfl) rfl rfl hok)
          clear hok hp HLa HLo HQ0
          go_enter Tryz.func59, Tryz.ntmps59
          go_wp2_with fail
          go_step3
          go_wp2_with fail
          go_step3
          go_wp2_with fail
          try rw [Exit.noGoto_ret]
          go_ret
          exact ⟨rfl, HQ.out⟩
        | true =>
          cases cl with
          | true =>
            rw [if_pos (by rw [hff]; simp)] at hok ⊢
            have HQ := Lib.hid ((PtQ.of HQ0.out.p (Chg.of_cell (w := w) hfb 9 (.slice none 0 0))).cell (i := 6) (v := .bool true) (t := { s with q := [], fifo := true }) hfb (fun _ _ => rfl) rfl rfl hok)
            clear hok hp HLa HLo HQ0
            go_enter Tryz.func59, Tryz.ntmps59
            go_wp2_with fail
            go_step3
            go_wp2_with fail
            go_step3
            go_wp2_with fail
            try rw [Exit.noGoto_ret]
            go_ret
            exact ⟨rfl, HQ.out⟩
          | false =>
            rw [if_neg (by rw [hff]; simp)] at hok ⊢
            have HQ := Lib.hid (HR.out.cell (i := 6) (v := .bool true) (t := { s with fifo := true }) hfb (fun _ _ => rfl) rfl rfl hok)
            clear hok hp HLa HLo HQ0
            go_enter Tryz.func59, Tryz.ntmps59
            go_wp2_with fail
            go_step3
            go_wp2_with fail
            go_step3
            go_wp2_with fail
            try rw [Exit.noGoto_ret]
            go_ret
            exact ⟨rfl, HQ.out⟩
    · rw [Ut.write3] at hok ⊢
      have f := hp.row.frozen 1
      have HQ := Lib.hid (HR.out.cell (i := 1) (v := .int .u8 (x)) (t := { s with lcr := x }) hfb (fun _ _ => rfl) rfl rfl hok)
      clear hok hp HLa HLo
      go_enter Tryz.func59, Tryz.ntmps59
      go_wp2_with fail
      go_step3
      go_wp2_with fail
      go_step3
      go_wp2_with fail
      try rw [Exit.noGoto_ret]
      go_ret
      exact ⟨rfl, HQ.out⟩
    · rw [Ut.write4] at hok ⊢
      have e5 := Ut.low5 hx
      have f := hp.row.frozen 2
      have HQ := Lib.hid (HR.out.cell (i := 2) (v := .int .u8 (x % 32)) (t := { s with mcr := x % 32 }) hfb (fun _ _ => rfl) rfl rfl hok)
      clear hok hp HLa HLo
      go_enter Tryz.func59, Tryz.ntmps59
      go_wp2_with fail
      go_step3
      go_wp2_with fail
      go_step3
      go_wp2_with fail
      try rw [Exit.noGoto_ret]
      go_ret
      exact ⟨rfl, HQ.out⟩
    · rw [Ut.write5] at hok ⊢
      clear hok hp HLa HLo
      go_enter Tryz.func59, Tryz.ntmps59
      go_wp2_with fail
      go_step3
      go_wp2_with fail
      go_step3
      go_wp2_with fail
      try rw [Exit.noGoto_ret]
      go_ret
      exact ⟨rfl, HR.out⟩
    · rw [Ut.write6] at hok ⊢
      clear hok hp HLa HLo
      go_enter Tryz.func59, Tryz.ntmps59
      go_wp2_with fail
      go_step3
      go_wp2_with fail
      go_step3
      go_wp2_with fail
      try rw [Exit.noGoto_ret]
      go_ret
      exact ⟨rfl, HR.out⟩
    · rw [Ut.write7] at hok ⊢
      have f := hp.row.frozen 3
      have HQ := Lib.hid (HR.out.cell (i := 3) (v := .int .u8 (x)) (t := { s with scr := x }) hfb (fun _ _ => rfl) rfl rfl hok)
      clear hok hp HLa HLo
      go_enter Tryz.func59, Tryz.ntmps59
      go_wp2_with fail
      go_step3
      go_wp2_with fail
      go_step3
      go_wp2_with fail
      try rw [Exit.noGoto_ret]
      go_ret
      exact ⟨rfl, HQ.out⟩
end Go.Proofs.YtfjdalepaacmgaaGreat
set_option maxRecDepth 20000
namespace Go.Proofs.YtfjdalepaacmgaaGreat
open Go.ChangeShapes Go.WideShapes Go.ChangeAt Go.RowKit

theorem zero_PoT (W : World) : (zeroValue PoT).run Tryz.prog W = .ok (.agg (ptV Ut.zero (.slice none 0 0) (.slice none 0 0))) W := by kernel_rfl
theorem unew_c (w : World) : Calls Tryz.prog 14 #[] w fun e w' => e = .returned (.pointer (some ⟨w.heap.size, 0, none⟩)) ∧ w' = w.alloc (.cells (ptV Ut.zero (.slice none 0 0) (.slice none 0 0)) PoT) := by
  go_enter Tryz.func14, Tryz.ntmps14
  go_wp2_with fail
  go_ret
  exact ⟨rfl, rfl⟩
/-- A new port. -/
theorem PtS.new (w : World) : PtS (fun k => k = w.heap.size) (w.alloc (.cells (ptV Ut.zero (.slice none 0 0) (.slice none 0 0)) PoT)) w.heap.size Ut.zero (.slice none 0 0) (.slice none 0 0) :=
  ⟨CsAt.new _ _ _, World.ownsRow_nil _ _ _ _, World.ownsRow_nil _ _ _ _, rfl, (fun k hk => by cases hk), (fun k hk => by cases hk), (fun k hk => by cases hk), (fun k hk => by subst hk; simp), Ut.zero_ok⟩
theorem ufits_c (off size : Int) (_h0 : 0 ≤ off) (_h1 : off ≤ 18446744073709551615) (w : World) : Calls Tryz.prog 91 #[.int .u64 off, .int .i64 size] w fun e w' => e = .returned (.bool (decide (off < 8 ∧ size = 1))) ∧ w' = w := by
  by_cases h : off < 8
  · have g0 : decide (off < 8) = true := by simpa using h
    have g1 : decide (off < 8 ∧ size = 1) = (size == 1) := by
      rw [Bool.eq_iff_iff]
      simp [h]
    rw [g1]
    clear h g1
    go_enter Tryz.func91, Tryz.ntmps91
    go_wp2_with fail
    go_ret
    exact ⟨rfl, rfl⟩
  · have g0 : decide (off < 8) = false := by simpa using h
    have g1 : decide (off < 8 ∧ size = 1) = false := by simp [h]
    rw [g1]
    clear h g1
    go_enter Tryz.func91, Tryz.ntmps91
    go_wp2_with fail
    go_ret
    exact ⟨rfl, rfl⟩
set_option maxHeartbeats 4000000 in
theorem uinput_c {F : Nat → Prop} {w : World} {b : Nat} {s : Ut.S} {x : Int} (hx : Ut.isB x) (h : Pt F w b s) :
    Calls Tryz.prog 27 #[.pointer (some ⟨b, 0, none⟩), .int .u8 x] w fun e w' => e = .returned (.bool (Ut.inB s)) ∧ PtQ F w w' b (Ut.inS s x) := by
  have HL := Lib.hid (looped_c s h.ok w)
  have H0 := Lib.hid h
  have HX := Lib.hid hx
  obtain ⟨qv, sv, hp⟩ := h
  have HST := Lib.hid hp.st
  clear hp
  cases hl : Ut.lp s with
  | true =>
    rw [show Ut.inB s = false by unfold Ut.inB; rw [hl]; rfl, show Ut.inS s x = s by unfold Ut.inS; rw [if_pos hl]]
    rw [hl] at HL
    clear hl
    go_enter Tryz.func27, Tryz.ntmps27
    go_wp2_with (refine wpList_load_midW (by kernel_rfl) StT _ rfl b 0 rfl (stV s).toList _ HST.out Tryz.underlying119 rfl info_StT ?_)
    refine HL.out.mono ?_
    rintro e w1 ⟨rfl, hb1⟩
    have HQ := Lib.hid (PtQ.of (F := F) (H0.out.low hb1) (Chg.of_below hb1))
    clear hb1 HL
    go_wp2_with fail
    go_ret
    exact ⟨rfl, HQ.out⟩
  | false =>
    rw [show Ut.inB s = Ut.comeB s by unfold Ut.inB; rw [hl]; rfl, show Ut.inS s x = Ut.comeS s x by unfold Ut.inS; rw [if_neg (by rw [hl]; simp)]]
    rw [hl] at HL
    clear hl
    go_enter Tryz.func27, Tryz.ntmps27
    go_wp2_with (refine wpList_load_midW (by kernel_rfl) StT _ rfl b 0 rfl (stV s).toList _ HST.out Tryz.underlying119 rfl info_StT ?_)
    refine HL.out.mono ?_
    rintro e w1 ⟨rfl, hb1⟩
    have HB1 := Lib.hid hb1
    have HC1 := Lib.hid (receive_c HX.out (H0.out.low hb1))
    clear hb1 HL
    go_wp2_with fail
    refine HC1.out.mono ?_
    rintro e w2 ⟨rfl, hq2⟩
    have HQ := Lib.hid (PtQ.seq (Chg.of_below (S := F) HB1.out) hq2)
    clear hq2 HC1
    go_wp2_with fail
    go_ret
    exact ⟨rfl, HQ.out⟩
theorem uline_c {F : Nat → Prop} {w : World} {b : Nat} {s : Ut.S} (h : Pt F w b s) :
    Calls Tryz.prog 29 #[.pointer (some ⟨b, 0, none⟩)] w fun e w' => e = .returned (.bool (Ut.cause s != 1)) ∧ w' = w := by
  obtain ⟨qv, sv, hp⟩ := h
  have HW := Lib.hid (why_c hp)
  clear hp
  go_enter Tryz.func29, Tryz.ntmps29
  go_wp2_with fail
  refine HW.out.mono ?_
  rintro e w1 ⟨rfl, rfl⟩
  go_wp2_with fail
  go_ret
  exact ⟨rfl, rfl⟩
set_option maxHeartbeats 1000000 in
theorem uwaiting_c {F : Nat → Prop} {w : World} {b : Nat} {s : Ut.S} (h : Pt F w b s) :
    Calls Tryz.prog 78 #[.pointer (some ⟨b, 0, none⟩)] w fun e w' => ∃ v, e = .returned v ∧ w'.ownsRow w.heap.size U8 1 v s.q.length (u8V s.q) ∧ Below w.heap.size w w' := by
  obtain ⟨qv, sv, hp⟩ := h
  have c9 := hp.row.cell 9
  simp only [ptV, List.getElem?_toArray, List.getElem?_cons_succ, List.getElem?_cons_zero] at c9
  have HC := Lib.hid (bclone_c 0 qv s.q w hp.q (by have := hp.ok.qn; omega))
  obtain ⟨p, cap, rfl, -⟩ := own_form hp.q
  clear hp
  go_enter Tryz.func78, Tryz.ntmps78
  go_wp2_with fail
  refine HC.out.mono ?_
  rintro e w1 ⟨v, rfl, ho, hb⟩
  have HO := Lib.hid ho
  have HB := Lib.hid hb
  clear ho hb HC
  go_wp2_with fail
  go_ret
  exact ⟨_, rfl, HO.out, HB.out⟩
set_option maxHeartbeats 1000000 in
theorem uout_c {F : Nat → Prop} {w : World} {b : Nat} {s : Ut.S} (hn : s.out.length ≤ 900) (h : Pt F w b s) :
    Calls Tryz.prog 77 #[.pointer (some ⟨b, 0, none⟩)] w fun e w' => ∃ v, e = .returned v ∧ w'.ownsRow w.heap.size U8 1 v s.out.length (u8V s.out) ∧ Below w.heap.size w w' := by
  obtain ⟨qv, sv, hp⟩ := h
  have c10 := hp.row.cell 10
  simp only [ptV, List.getElem?_toArray, List.getElem?_cons_succ, List.getElem?_cons_zero] at c10
  have HC := Lib.hid (bclone_c 0 sv s.out w hp.o (by omega))
  obtain ⟨p, cap, rfl, -⟩ := own_form hp.o
  clear hp
  go_enter Tryz.func77, Tryz.ntmps77
  go_wp2_with fail
  refine HC.out.mono ?_
  rintro e w1 ⟨v, rfl, ho, hb⟩
  have HO := Lib.hid ho
  have HB := Lib.hid hb
  clear ho hb HC
  go_wp2_with fail
  go_ret
  exact ⟨_, rfl, HO.out, HB.out⟩
/-! A port that isn't there. -/
theorem nread_c (off : Int) (w : World) : Calls Tryz.prog 55 #[.pointer none, .int .u64 off] w fun e w' => e = .returned (.tuple #[.int .u8 0, .bool false]) ∧ w' = w := by
  go_enter Tryz.func55, Tryz.ntmps55
  go_wp2_with fail
  go_ret2
  exact ⟨rfl, rfl⟩
theorem nwrite_c (off x : Int) (w : World) : Calls Tryz.prog 59 #[.pointer none, .int .u64 off, .int .u8 x] w fun e w' => e = .returned (.bool false) ∧ w' = w := by
  go_enter Tryz.func59, Tryz.ntmps59
  go_wp2_with fail
  go_step3
  go_wp2_with fail
  try rw [Exit.noGoto_ret]
  go_ret
  exact ⟨rfl, rfl⟩
theorem ninput_c (x : Int) (w : World) : Calls Tryz.prog 27 #[.pointer none, .int .u8 x] w fun e w' => e = .returned (.bool false) ∧ w' = w := by
  go_enter Tryz.func27, Tryz.ntmps27
  go_wp2_with fail
  go_ret
  exact ⟨rfl, rfl⟩
theorem nline_c (w : World) : Calls Tryz.prog 29 #[.pointer none] w fun e w' => e = .returned (.bool false) ∧ w' = w := by
  go_enter Tryz.func29, Tryz.ntmps29
  go_wp2_with fail
  go_ret
  exact ⟨rfl, rfl⟩
theorem nwaiting_c (w : World) : Calls Tryz.prog 78 #[.pointer none] w fun e w' => e = .returned (.slice none 0 0) ∧ w' = w := by
  go_enter Tryz.func78, Tryz.ntmps78
  go_wp2_with fail
  go_ret
  exact ⟨rfl, rfl⟩
theorem nout_c (w : World) : Calls Tryz.prog 77 #[.pointer none] w fun e w' => e = .returned (.slice none 0 0) ∧ w' = w := by
  go_enter Tryz.func77, Tryz.ntmps77
  go_wp2_with fail
  go_ret
  exact ⟨rfl, rfl⟩
theorem nclone_c (w : World) : Calls Tryz.prog 47 #[.pointer none] w fun e w' => e = .returned (.pointer none) ∧ w' = w := by
  go_enter Tryz.func47, Tryz.ntmps47
  go_wp2_with fail
  go_ret
  exact ⟨rfl, rfl⟩
theorem nsame_c (w : World) : Calls Tryz.prog 48 #[.pointer none, .pointer none] w fun e w' => e = .returned (.bool true) ∧ w' = w := by
  go_enter Tryz.func48, Tryz.ntmps48
  go_wp2_with fail
  go_ret
  exact ⟨rfl, rfl⟩
theorem nsame1_c (a : Addr) (w : World) : Calls Tryz.prog 48 #[.pointer none, .pointer (some a)] w fun e w' => e = .returned (.bool false) ∧ w' = w := by
  have hq : ∀ W : World, (binOp .eql 68 (.pointer none) (.pointer (some a))).run Tryz.prog W = .ok (.bool false) W := fun W => by kernel_rfl
  go_enter Tryz.func48, Tryz.ntmps48
  go_wp2_with fail
  go_ret
  exact ⟨rfl, rfl⟩
theorem nsame2_c (a : Addr) (w : World) : Calls Tryz.prog 48 #[.pointer (some a), .pointer none] w fun e w' => e = .returned (.bool false) ∧ w' = w := by
  have hq : ∀ W : World, (binOp .eql 68 (.pointer (some a)) (.pointer none)).run Tryz.prog W = .ok (.bool false) W := fun W => by kernel_rfl
  go_enter Tryz.func48, Tryz.ntmps48
  go_wp2_with fail
  go_ret
  exact ⟨rfl, rfl⟩
end Go.Proofs.YtfjdalepaacmgaaGreat
set_option maxRecDepth 20000
namespace Go.Proofs.YtfjdalepaacmgaaGreat
open Go.RowKit
namespace Eqf

/-- A cell's literal. -/
def litV : Value → Lit
  | .int k n => .int k n
  | .bool b => .bool b
  | _ => .bool false
/-- Is a cell of a kind (none: a bool)? -/
def okV : Option IntKind → Value → Bool
  | some q, .int q' n => decide (q' = q) && (Lit.int q n).wf
  | none, .bool _ => true
  | _, _ => false
def okL : List (Option IntKind) → List Value → Bool
  | [], [] => true
  | k :: ks, v :: vs => okV k v && okL ks vs
  | _, _ => false
theorem okL_len : ∀ {ks : List (Option IntKind)} {vs : List Value}, okL ks vs = true → vs.length = ks.length
  | [], [], _ => rfl
  | k :: ks, v :: vs, h => by
    simp only [okL, Bool.and_eq_true] at h
    simp [okL_len h.2]
  | [], _ :: _, h => by simp [okL] at h
  | _ :: _, [], h => by simp [okL] at h
theorem okL_app : ∀ {ks ls : List (Option IntKind)} {vs : List Value}, okL (ks ++ ls) vs = true → okL ks (vs.take ks.length) = true ∧ okL ls (vs.drop ks.length) = true
  | [], ls, vs, h => by simpa [okL] using h
  | k :: ks, ls, [], h => by simp [okL] at h
  | k :: ks, ls, v :: vs, h => by
    simp only [List.cons_append, okL, Bool.and_eq_true] at h
    have := okL_app h.2
    simp only [List.length_cons, List.take_succ_cons, List.drop_succ_cons, okL, Bool.and_eq_true]
    exact ⟨⟨h.1, this.1⟩, this.2⟩
theorem app_okL : ∀ {ks ls : List (Option IntKind)} {vs us : List Value}, okL ks vs = true → okL ls us = true → okL (ks ++ ls) (vs ++ us) = true
  | [], _, [], _, _, h => h
  | k :: ks, ls, v :: vs, us, h, g => by
    simp only [okL, Bool.and_eq_true] at h
    simp only [List.cons_append, okL, Bool.and_eq_true]
    exact ⟨h.1, app_okL h.2 g⟩
  | [], _, _ :: _, _, h, _ => by simp [okL] at h
  | _ :: _, _, [], _, h, _ => by simp [okL] at h
section
variable (P : Program)
/-- The kinds of a struct's fields, if these stand one behind the other. -/
def flatF (g : TypeId → Option (List (Option IntKind))) : List Field → Nat → Option (List (Option IntKind))
  | [], _ => some []
  | f :: fs, o => match g f.type with
    | none => none
    | some ks => if f.offset = o ∧ P.cellsOf f.type = ks.length then (flatF g fs (o + ks.length)).map (ks ++ ·) else none
/-- The kinds of a type's cells. -/
def flat : Nat → TypeId → Option (List (Option IntKind))
  | 0, _ => none
  | d + 1, t => match P.underlying t with
    | some .bool => some [none]
    | some (.int q) => some [some q]
    | some (.array n e) => match flat d e with
      | none => none
      | some ks => if P.cellsOf e = ks.length ∧ P.cellsOf t = n * ks.length then some ((List.replicate n ks).flatten) else none
    | some (.struct fs) => match flatF P (flat d) fs.toList 0 with
      | none => none
      | some ks => if P.cellsOf t = ks.length ∧ fs.all (·.name != "_") = true then some ks else none
    | _ => none
end
variable {P : Program}
theorem items (d : Nat) (e : TypeId) (ks : List (Option IntKind)) (he : P.cellsOf e = ks.length) (ih : ∀ cs, okL ks cs = true → P.keyLits d e cs = some (cs.map litV)) :
    ∀ (n : Nat) (o : Nat) (cs : List Value), okL (List.replicate n ks).flatten (cs.drop (o * ks.length)) = true →
      ((List.range' o n).mapM fun i => P.keyLits d e ((cs.drop (i * P.cellsOf e)).take (P.cellsOf e))) = some ((List.range' o n).map fun i => ((cs.drop (i * ks.length)).take ks.length).map litV) ∧
      ((List.range' o n).map fun i => ((cs.drop (i * ks.length)).take ks.length).map litV).flatten = (cs.drop (o * ks.length)).map litV
  | 0, o, cs, h => by
    have := okL_len h
    simp at this
    have e : cs.drop (o * ks.length) = [] := List.drop_eq_nil_of_le (by omega)
    simp [e]
  | n + 1, o, cs, h => by
    rw [List.replicate_succ, List.flatten_cons] at h
    obtain ⟨h1, h2⟩ := okL_app h
    rw [List.drop_drop, ← Nat.succ_mul] at h2
    obtain ⟨i1, i2⟩ := items d e ks he ih n (o + 1) cs h2
    rw [he] at i1 ⊢
    refine ⟨?_, ?_⟩
    · rw [List.range'_succ, List.mapM_cons, ih _ h1, i1]
      rfl
    · rw [List.range'_succ, List.map_cons, List.flatten_cons, i2, ← List.map_append, Nat.succ_mul, ← List.drop_drop, List.take_append_drop]
theorem fields (d : Nat) (ih : ∀ (t : TypeId) (ks : List (Option IntKind)) (cs : List Value), flat P d t = some ks → okL ks cs = true → P.keyLits d t cs = some (cs.map litV)) :
    ∀ (fs : List Field) (o : Nat) (ks : List (Option IntKind)) (cs : List Value), flatF P (flat P d) fs o = some ks → okL ks (cs.drop o) = true →
      ∃ ls, (fs.mapM fun f => P.keyLits d f.type ((cs.drop f.offset).take (P.cellsOf f.type))) = some ls ∧ ls.flatten = (cs.drop o).map litV
  | [], o, ks, cs, h, g => by
    simp only [flatF, Option.some.injEq] at h
    subst h
    have := okL_len g
    have e : cs.drop o = [] := List.length_eq_zero_iff.1 (by simpa using this)
    exact ⟨[], rfl, by rw [e]; rfl⟩
  | f :: fs, o, ks, cs, h, g => by
    simp only [flatF] at h
    cases hk : flat P d f.type with
    | none => rw [hk] at h; cases h
    | some ls =>
      rw [hk] at h
      simp only at h
      split at h
      · rename_i hc
        obtain ⟨ms, hm, rfl⟩ := Option.map_eq_some_iff.1 h
        obtain ⟨g1, g2⟩ := okL_app g
        rw [List.drop_drop] at g2
        obtain ⟨rs, r1, r2⟩ := fields d ih fs (o + ls.length) ms cs hm g2
        refine ⟨((cs.drop o).take ls.length).map litV :: rs, ?_, ?_⟩
        · rw [List.mapM_cons, hc.1, hc.2, ih f.type ls _ hk g1, r1]
          rfl
        · rw [List.flatten_cons, r2, ← List.map_append, ← List.drop_drop, List.take_append_drop]
      · cases h
theorem lits : ∀ (d : Nat) (t : TypeId) (ks : List (Option IntKind)) (cs : List Value), flat P d t = some ks → okL ks cs = true → P.keyLits d t cs = some (cs.map litV)
  | 0, _, _, _, h, _ => by simp [flat] at h
  | d + 1, t, ks, cs, h, g => by
    have hl := okL_len g
    unfold flat at h
    unfold Program.keyLits
    cases hu : P.underlying t with
    | none => rw [hu] at h; cases h
    | some kd =>
      rw [hu] at h
      cases kd
      case bool =>
        simp only [Option.some.injEq] at h
        subst h
        match cs, g with
        | [.bool b], _ => rfl
      case int q =>
        simp only [Option.some.injEq] at h
        subst h
        match cs, g with
        | [.int q' n], g =>
          simp only [okL, okV, Bool.and_eq_true, decide_eq_true_eq, and_true] at g
          obtain ⟨rfl, g2⟩ := g
          simp [g2, litV]
      case array n e =>
        simp only at h
        cases hf : flat P d e with
        | none => rw [hf] at h; cases h
        | some ls =>
          rw [hf] at h
          simp only at h
          split at h
          · rename_i hc
            simp only [Option.some.injEq] at h
            subst h
            have hlen : cs.length = P.cellsOf t := by rw [hc.2, hl]; simp
            obtain ⟨i1, i2⟩ := items d e ls hc.1 (fun cs hcs => lits d e ls cs hf hcs) n 0 cs (by simpa using g)
            rw [← List.range_eq_range'] at i1 i2
            simp only [if_pos hlen, i1, Option.map_some, i2]
            simp
          · cases h
      case struct fs =>
        simp only at h
        cases hf : flatF P (flat P d) fs.toList 0 with
        | none => rw [hf] at h; cases h
        | some ls =>
          rw [hf] at h
          simp only at h
          split at h
          · rename_i hc
            simp only [Option.some.injEq] at h
            subst h
            obtain ⟨rs, r1, r2⟩ := fields d (fun t ks cs => lits d t ks cs) fs.toList 0 ls cs hf (by simpa using g)
            simp only [if_pos (And.intro (hl.trans hc.1.symm) hc.2), r1, Option.map_some, r2]
            simp
          · cases h
      all_goals cases h
def eqv : Value → Value → Bool
  | .int _ n, .int _ m => n == m
  | .bool a, .bool b => a == b
  | _, _ => false
/-- Are two rows of cells equal? -/
def eqL : List Value → List Value → Bool
  | [], [] => true
  | v :: vs, u :: us => eqv v u && eqL vs us
  | _, _ => false
theorem eqv_lit {k : Option IntKind} {v u : Value} (hv : okV k v = true) (hu : okV k u = true) : litV v = litV u ↔ eqv v u = true := by
  cases k with
  | none =>
    cases v <;> simp [okV] at hv
    cases u <;> simp [okV] at hu
    simp [litV, eqv]
  | some q =>
    cases v <;> simp [okV] at hv
    cases u <;> simp [okV] at hu
    simp [litV, eqv, hv.1, hu.1]
theorem eqL_lit : ∀ {ks : List (Option IntKind)} {vs us : List Value}, okL ks vs = true → okL ks us = true → (vs.map litV = us.map litV ↔ eqL vs us = true)
  | [], [], [], _, _ => by simp [eqL]
  | k :: ks, v :: vs, u :: us, h, g => by
    simp only [okL, Bool.and_eq_true] at h g
    simp only [List.map_cons, List.cons.injEq, eqL, Bool.and_eq_true, eqv_lit h.1 g.1, eqL_lit h.2 g.2]
  | [], _ :: _, _, h, _ => by simp [okL] at h
  | [], [], _ :: _, _, g => by simp [okL] at g
  | _ :: _, [], _, h, _ => by simp [okL] at h
  | _ :: _, _ :: _, [], _, g => by simp [okL] at g
theorem eqL_self : ∀ {ks : List (Option IntKind)} {vs : List Value}, okL ks vs = true → eqL vs vs = true := fun h => (eqL_lit h h).1 rfl
/-- Compared. -/
theorem eql (w : World) (m : Nat) (hm : m ≤ 10000) (t : TypeId) (ks : List (Option IntKind)) (hk : P.keyTypeAt m t = true) (hf : flat P m t = some ks) (x y : Array Value) (fx : Value.formed P t (.agg x) = true) (fy : Value.formed P t (.agg y) = true)
    (hx : okL ks x.toList = true) (hy : okL ks y.toList = true) : (Op.equalIn 10000 t (.agg x) (.agg y)).run P w = .ok (eqL x.toList y.toList) w := by
  obtain ⟨r, hr, hiff⟩ := run_equalIn_deep (P := P) (10000 - m) m t hk w m m (.agg x) (.agg y) _ _ fx fy (lits m t ks _ hf hx) (lits m t ks _ hf hy)
  rw [show 10000 - m + m = 10000 by omega] at hr
  rw [hr]
  congr 1
  rw [Bool.eq_iff_iff, hiff]
  exact eqL_lit hx hy
theorem beql (w : World) (m : Nat) (hm : m ≤ 10000) (t : TypeId) (ks : List (Option IntKind)) (hk : P.keyTypeAt m t = true) (hf : flat P m t = some ks) (x y : Array Value) (fx : Value.formed P t (.agg x) = true) (fy : Value.formed P t (.agg y) = true)
    (hx : okL ks x.toList = true) (hy : okL ks y.toList = true) : (binOp .eql t (.agg x) (.agg y)).run P w = .ok (.bool (eqL x.toList y.toList)) w := by
  rw [run_eql_struct, eql w m hm t ks hk hf x y fx fy hx hy]
  rfl
theorem bneq (w : World) (m : Nat) (hm : m ≤ 10000) (t : TypeId) (ks : List (Option IntKind)) (hk : P.keyTypeAt m t = true) (hf : flat P m t = some ks) (x y : Array Value) (fx : Value.formed P t (.agg x) = true) (fy : Value.formed P t (.agg y) = true)
    (hx : okL ks x.toList = true) (hy : okL ks y.toList = true) : (binOp .neq t (.agg x) (.agg y)).run P w = .ok (.bool (!(eqL x.toList y.toList))) w := by
  rw [run_neq_struct, eql w m hm t ks hk hf x y fx fy hx hy]
  rfl
end Eqf
end Go.Proofs.YtfjdalepaacmgaaGreat
