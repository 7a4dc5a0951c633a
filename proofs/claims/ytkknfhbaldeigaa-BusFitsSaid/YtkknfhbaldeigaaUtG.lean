/-
  Contracts of uart.Write, of a port.
-/
import Derived.Test.YtkknfhbaldeigaaUtF
import Derived.WalkMore
set_option maxRecDepth 20000
namespace Go.Proofs.Ytkknfhbaldeigaa
open Go.ChangeShapes Go.WideShapes Go.ChangeAt Go.RowKit

namespace Ut
theorem write_far {s : S} {off x : Int} (h : 8 ≤ off) : writeS s off x = s ∧ is off = false := by
  unfold writeS is
  refine ⟨?_, by simp; omega⟩
  repeat (first | rw [if_neg (by omega)])
theorem write0 (s : S) (x : Int) : writeS s 0 x = if hi s = true then { s with dll := x } else if lp s = true then { comeS s x with empty := true } else { s with out := s.out ++ [x], empty := true } := rfl
theorem write1 (s : S) (x : Int) : writeS s 1 x = if hi s = true then { s with dlm := x } else { s with empty := s.empty || (bt x 1 && !bt s.ier 1), ier := x % 16 } := rfl
theorem write2 (s : S) (x : Int) : writeS s 2 x = { s with q := if bt x 0 ≠ s.fifo ∨ bt x 1 = true then [] else s.q, fifo := bt x 0 } := rfl
theorem write3 (s : S) (x : Int) : writeS s 3 x = { s with lcr := x } := rfl
theorem write4 (s : S) (x : Int) : writeS s 4 x = { s with mcr := x % 32 } := rfl
theorem write5 (s : S) (x : Int) : writeS s 5 x = s := rfl
theorem write6 (s : S) (x : Int) : writeS s 6 x = s := rfl
theorem write7 (s : S) (x : Int) : writeS s 7 x = { s with scr := x } := rfl
theorem rise_f : ∀ x : Fin 256, ∀ y : Fin 16, (Go.bits .and .u8 (Go.bits .andNot .u8 ((x : Nat) : Int) ((y : Nat) : Int)) 2 != 0) = (bt ((x : Nat) : Int) 1 && !bt ((y : Nat) : Int) 1) := by decide +kernel
theorem rise {x y : Int} (hx : isB x) (hy : 0 ≤ y ∧ y < 16) : (Go.bits .and .u8 (Go.bits .andNot .u8 x y) 2 != 0) = (bt x 1 && !bt y 1) := by
  obtain ⟨n, rfl⟩ := Int.eq_ofNat_of_zero_le hx.1
  obtain ⟨m, rfl⟩ := Int.eq_ofNat_of_zero_le hy.1
  exact rise_f ⟨n, by have := hx.2; omega⟩ ⟨m, by have := hy.2; omega⟩
theorem low_f : ∀ x : Fin 256, Go.bits .and .u8 ((x : Nat) : Int) 15 = ((x : Nat) : Int) % 16 ∧ Go.bits .and .u8 ((x : Nat) : Int) 31 = ((x : Nat) : Int) % 32 := by decide +kernel
theorem low4 {x : Int} (hx : isB x) : Go.bits .and .u8 x 15 = x % 16 := by
  obtain ⟨n, rfl⟩ := Int.eq_ofNat_of_zero_le hx.1
  exact (low_f ⟨n, by have := hx.2; omega⟩).1
theorem low5 {x : Int} (hx : isB x) : Go.bits .and .u8 x 31 = x % 32 := by
  obtain ⟨n, rfl⟩ := Int.eq_ofNat_of_zero_le hx.1
  exact (low_f ⟨n, by have := hx.2; omega⟩).2
end Ut
/-- Something more is changed of a port. -/
theorem PtQ.upd {F : Nat → Prop} {w w1 w' : World} {b : Nat} {s t : Ut.S} (h : PtQ F w w1 b s) (f : Pt (Nw F w w1) w1 b s → Pt (Nw F w w1) w' b t) (hs : w'.heap.size = w1.heap.size) (hc : Chg F w1 w') : PtQ F w w' b t := by
  refine ⟨?_, h.chg.trans hc⟩
  have := f h.pt
  rwa [show Nw F w w' = Nw F w w1 by unfold Nw; rw [hs]]
/-- One cell of a port is stored. -/
theorem PtQ.cell {F : Nat → Prop} {w w1 : World} {b : Nat} {s t : Ut.S} (h : PtQ F w w1 b s) (hb : F b) {i : Nat} {v : Value} (e : ∀ qv sv, (ptV s qv sv).setIfInBounds i v = ptV t qv sv) (eq : t.q = s.q) (eo : t.out = s.out) (ok : Ut.Ok t) :
    PtQ F w (w1.setCell ⟨b, i, none⟩ v) b t :=
  h.upd (fun ⟨qv, sv, hp⟩ => ⟨qv, sv, hp.upd (e qv sv) eq eo ok⟩) (by simp) (Chg.of_cell hb i v)
theorem PtQ.row {F : Nat → Prop} {w w1 : World} {b : Nat} {s : Ut.S} (h : PtQ F w w1 b s) : ∃ qv sv, CsAt w1 b PoT (ptV s qv sv) := by
  obtain ⟨qv, sv, hp⟩ := h.pt
  exact ⟨qv, sv, hp.row⟩
set_option maxHeartbeats 16000000 in
theorem uwrite_c {F : Nat → Prop} {w : World} {b : Nat} {s : Ut.S} (off x : Int) (h0 : 0 ≤ off) (_h1 : off ≤ 18446744073709551615) (hx : Ut.isB x) (ho : s.out.length < 900) (h : Pt F w b s) :
    Calls Try.prog 64 #[.pointer (some ⟨b, 0, none⟩), .int .u64 off, .int .u8 x] w fun e w' => e = .returned (.bool (Ut.is off)) ∧ PtQ F w w' b (Ut.writeS s off x) := by
  have hok := Ut.write_ok (off := off) h.ok hx
  have HLa := Lib.hid (latched_c s h.ok w)
  have HLo := Lib.hid (looped_c s h.ok)
  have HX := Lib.hid hx
  have HO := Lib.hid ho
  have H0 := Lib.hid h
  obtain ⟨qv, sv, hp⟩ := h
  obtain ⟨c0, c1, c2, c3, c4, c5, c6, c7, c8, c9, c10⟩ := hp.cells
  have HST := Lib.hid hp.st
  have HP := Lib.hid hp
  have HR := Lib.hid (PtQ.of H0.out (Chg.refl F w))
  have HLow := Lib.hid (fun (w' : World) (hb : Below w.heap.size w w') => PtQ.of (F := F) (H0.out.low hb) (Chg.of_below hb))
  have hbl : b < w.heap.size := hp.lt b hp.fb
  have hfb := hp.fb
  by_cases hf : 8 ≤ off
  · obtain ⟨e2, e3⟩ := Ut.write_far (s := s) (x := x) hf
    rw [e2, e3]
    have g0 : decide (off ≥ 8) = true := by simpa using hf
    clear HLa HLo hf hok hp
    go_enter Try.func64, Try.ntmps64
    go_wp2_with fail
    go_step3
    go_wp2_with fail
    try rw [Exit.noGoto_ret]
    go_ret
    exact ⟨rfl, HR.out⟩
  · rw [Ut.is_lt (by omega)]
    obtain rfl | rfl | rfl | rfl | rfl | rfl | rfl | rfl : off = 0 ∨ off = 1 ∨ off = 2 ∨ off = 3 ∨ off = 4 ∨ off = 5 ∨ off = 6 ∨ off = 7 := by omega
    · rw [Ut.write0] at hok ⊢
      cases hl : Ut.hi s with
      | true =>
        rw [hl] at HLa
        rw [hl, if_pos rfl] at hok
        rw [if_pos rfl]
        go_enter Try.func64, Try.ntmps64
        go_wp2_with fail
        go_step3
        go_wp2_with fail
        go_step3
        go_wp2_with (refine wpList_load_mid rfl StT _ rfl b 0 rfl (stV s).toList _ HST.out Try.underlying131 rfl info_StT ?_)
        refine HLa.out.mono ?_
        rintro e w1 ⟨rfl, hb1⟩
        have HB1 := Lib.hid hb1
        have k := (hb1.cell (p := ⟨b, 4, none⟩) hbl).trans c4
        have f := (HP.out.low hb1).row.frozen 4
        have HQ := Lib.hid ((HLow.out _ hb1).cell (i := 4) (v := .int .u8 x) (t := { s with dll := x }) hfb (fun _ _ => rfl) rfl rfl hok)
        clear hb1 hok hp HLa HLo
        go_wp2_with fail
        try rw [Exit.noGoto_ret]
        go_ret
        exact ⟨rfl, HQ.out⟩
      | false =>
        rw [hl] at HLa
        rw [hl, if_neg (by simp)] at hok
        rw [if_neg (by simp)]
        cases hm : Ut.lp s with
        | true =>
          rw [hm] at HLo
          rw [hm, if_pos rfl] at hok
          rw [if_pos rfl]
          have HOK := Lib.hid hok
          clear hok hp
          go_enter Try.func64, Try.ntmps64
          go_wp2_with fail
          go_step3
          go_wp2_with fail
          go_step3
          go_wp2_with (refine wpList_load_mid rfl StT _ rfl b 0 rfl (stV s).toList _ HST.out Try.underlying131 rfl info_StT ?_)
          refine HLa.out.mono ?_
          rintro e w1 ⟨rfl, hb1⟩
          have HB1 := Lib.hid hb1
          have hst1 := (HP.out.low hb1).st
          have HST1 := Lib.hid hst1
          have HC1 := Lib.hid (receive_c hx (H0.out.low hb1))
          clear hb1 HLa hst1
          go_wp2_with (refine wpList_load_mid rfl StT _ rfl b 0 rfl (stV s).toList _ HST1.out Try.underlying131 rfl info_StT ?_)
          refine (HLo.out _).mono ?_
          rintro e w2 ⟨rfl, hb2⟩
          have HB2 := Lib.hid (HB1.out.trans (hb2.mono HB1.out.size))
          have HC2 := Lib.hid (receive_c hx (H0.out.low HB2.out))
          clear hb2 HLo HC1
          go_wp2_with fail
          refine HC2.out.mono ?_
          rintro e w3 ⟨rfl, hq3⟩
          have hq4 := PtQ.seq (Chg.of_below (S := F) HB2.out) hq3
          obtain ⟨qv3, sv3, hr3⟩ := hq4.row
          have k8 := hr3.cell 8
          have f8 := hr3.frozen 8
          simp only [ptV, List.getElem?_toArray, List.getElem?_cons_succ, List.getElem?_cons_zero] at k8
          have HQ := Lib.hid (hq4.cell (i := 8) (v := .bool true) (t := { Ut.comeS s x with empty := true }) hfb (fun _ _ => rfl) rfl rfl HOK.out)
          clear hq3 hq4 hr3 HC2
          go_wp2_with fail
          try rw [Exit.noGoto_ret]
          go_ret
          exact ⟨rfl, HQ.out⟩
        | false =>
          rw [hm] at HLo
          rw [hm, if_neg (by simp)] at hok
          rw [if_neg (by simp)]
          have HOK := Lib.hid hok
          clear hok
          have hoo : Ut.Ok { s with out := s.out ++ [x] } := ⟨hp.ok.ier, hp.ok.lcr, hp.ok.mcr, hp.ok.scr, hp.ok.dll, hp.ok.dlm, hp.ok.qs, HOK.out.outs, hp.ok.qn⟩
          have HOO := Lib.hid hoo
          obtain ⟨p, cap, hsv, -⟩ := own_form hp.o
          subst hsv
          clear hp hoo
          go_enter Try.func64, Try.ntmps64
          go_wp2_with fail
          go_step3
          go_wp2_with fail
          go_step3
          go_wp2_with (refine wpList_load_mid rfl StT _ rfl b 0 rfl (stV s).toList _ HST.out Try.underlying131 rfl info_StT ?_)
          refine HLa.out.mono ?_
          rintro e w1 ⟨rfl, hb1⟩
          have HB1 := Lib.hid hb1
          have HST1 := Lib.hid (HP.out.low hb1).st
          clear hb1 HLa
          go_wp2_with (refine wpList_load_mid rfl StT _ rfl b 0 rfl (stV s).toList _ HST1.out Try.underlying131 rfl info_StT ?_)
          refine (HLo.out _).mono ?_
          rintro e w2 ⟨rfl, hb2⟩
          have HB2 := Lib.hid (HB1.out.trans (hb2.mono HB1.out.size))
          have HP2 := Lib.hid (HP.out.low HB2.out)
          have k10 := HP2.out.row.cell 10
          have f10 := HP2.out.row.frozen 10
          simp only [ptV, List.getElem?_toArray, List.getElem?_cons_succ, List.getElem?_cons_zero] at k10
          have hsz2 := HP2.out.lt b hfb
          clear hb2 HLo
          go_wp2_with (at_builtin; refine wpList_pushG rfl _ _ U8S rfl 0 U8 _ 1 1 Try.underlying40 info_u8 rfl (by omega) (by omega) _ s.out.length _ rfl HP2.out.o #[.int .u8 x] rfl (one_u8 x) _ rfl rfl (by omega) (Nat.zero_le _) ?_)
          intro v' w' ho2 hg hv
          have hcb : CsAt w' b PoT (ptV s qv (.slice p s.out.length cap)) := (Chg.of_grown (S := fun k => (Value.slice p s.out.length cap).ownBlock = some k) hg (fun k hk => hk)).cs (HP2.out.row.alloc _) (fun e => (HP2.out.fo b e).2 rfl)
          have j10 := hcb.cell 10
          have g10 := hcb.frozen 10
          have hq3 := PtQ.seq (Chg.of_below (S := F) HB2.out) (HP2.out.push (i := 10) (x := x) (.inr ⟨rfl, HOO.out⟩) ho2 hg hv.out)
          simp only [show ¬ ((10 : Nat) = 9) by omega, if_false] at hq3
          obtain ⟨p2, cap2, hv2, -⟩ := own_form ho2
          subst hv2
          obtain ⟨qv3, sv3, hr3⟩ := hq3.row
          have j8 := hr3.cell 8
          have g8 := hr3.frozen 8
          simp only [ptV, List.getElem?_toArray, List.getElem?_cons_succ, List.getElem?_cons_zero] at j10 j8
          have HQ := Lib.hid (hq3.cell (i := 8) (v := .bool true) (t := { s with out := s.out ++ [x], empty := true }) hfb (fun _ _ => rfl) rfl rfl HOK.out)
          clear ho2 hg hv hcb hq3 hr3 k10 f10
          go_wp2_with fail
          try rw [Exit.noGoto_ret]
          go_ret
          exact ⟨rfl, HQ.out⟩
    · rw [Ut.write1] at hok ⊢
      cases hl : Ut.hi s with
      | true =>
        rw [hl] at HLa
        rw [hl, if_pos rfl] at hok
        rw [if_pos rfl]
        go_enter Try.func64, Try.ntmps64
        go_wp2_with fail
        go_step3
        go_wp2_with fail
        go_step3
        go_wp2_with (refine wpList_load_mid rfl StT _ rfl b 0 rfl (stV s).toList _ HST.out Try.underlying131 rfl info_StT ?_)
        refine HLa.out.mono ?_
        rintro e w1 ⟨rfl, hb1⟩
        have HB1 := Lib.hid hb1
        have k := (hb1.cell (p := ⟨b, 5, none⟩) hbl).trans c5
        have f := (HP.out.low hb1).row.frozen 5
        have HQ := Lib.hid ((HLow.out _ hb1).cell (i := 5) (v := .int .u8 x) (t := { s with dlm := x }) hfb (fun _ _ => rfl) rfl rfl hok)
        clear hb1 hok hp HLa HLo
        go_wp2_with fail
        try rw [Exit.noGoto_ret]
        go_ret
        exact ⟨rfl, HQ.out⟩
      | false =>
        rw [hl] at HLa
        rw [hl, if_neg (by simp)] at hok
        rw [if_neg (by simp)]
        have er := Ut.rise hx hp.ok.ier
        have e4 := Ut.low4 hx
        obtain ⟨r, hr⟩ : ∃ r, (Ut.bt x 1 && !Ut.bt s.ier 1) = r := ⟨_, rfl⟩
        rw [hr] at hok er
        rw [hr]
        have hok1 : Ut.Ok { s with empty := s.empty || r } := ⟨hp.ok.ier, hp.ok.lcr, hp.ok.mcr, hp.ok.scr, hp.ok.dll, hp.ok.dlm, hp.ok.qs, hp.ok.outs, hp.ok.qn⟩
        have HOK1 := Lib.hid hok1
        have HOK := Lib.hid hok
        obtain he | he : s.empty = false ∨ s.empty = true := by cases s.empty <;> simp
        · rw [he] at c8 HOK1 HOK
          rw [he]
          simp only [Bool.false_or] at HOK1 HOK ⊢
          clear hok hok1 he
          go_enter Try.func64, Try.ntmps64
          go_wp2_with fail
          go_step3
          go_wp2_with fail
          go_step3
          go_wp2_with (refine wpList_load_mid rfl StT _ rfl b 0 rfl (stV s).toList _ HST.out Try.underlying131 rfl info_StT ?_)
          refine HLa.out.mono ?_
          rintro e w1 ⟨rfl, hb1⟩
          have HB1 := Lib.hid hb1
          have k0 := (hb1.cell (p := ⟨b, 0, none⟩) hbl).trans c0
          have k8 := (hb1.cell (p := ⟨b, 8, none⟩) hbl).trans c8
          have f0 := (HP.out.low hb1).row.frozen 0
          have f8 := (HP.out.low hb1).row.frozen 8
          have HQ1 := Lib.hid ((HLow.out _ hb1).cell (i := 8) (v := .bool r) (t := { s with empty := r }) hfb (fun _ _ => rfl) rfl rfl HOK1.out)
          have HQ := Lib.hid (HQ1.out.cell (i := 0) (v := .int .u8 (x % 16)) (t := { s with empty := r, ier := x % 16 }) hfb (fun _ _ => rfl) rfl rfl HOK.out)
          clear hb1 hp HLa HLo HQ1
          go_wp2_with fail
          try rw [Exit.noGoto_ret]
          go_ret
          exact ⟨rfl, HQ.out⟩
        · rw [he] at c8 HOK1 HOK
          rw [he]
          simp only [Bool.true_or] at HOK1 HOK ⊢
          clear hok hok1 he
          go_enter Try.func64, Try.ntmps64
          go_wp2_with fail
          go_step3
          go_wp2_with fail
          go_step3
          go_wp2_with (refine wpList_load_mid rfl StT _ rfl b 0 rfl (stV s).toList _ HST.out Try.underlying131 rfl info_StT ?_)
          refine HLa.out.mono ?_
          rintro e w1 ⟨rfl, hb1⟩
          have HB1 := Lib.hid hb1
          have k0 := (hb1.cell (p := ⟨b, 0, none⟩) hbl).trans c0
          have k8 := (hb1.cell (p := ⟨b, 8, none⟩) hbl).trans c8
          have f0 := (HP.out.low hb1).row.frozen 0
          have f8 := (HP.out.low hb1).row.frozen 8
          have HQ1 := Lib.hid ((HLow.out _ hb1).cell (i := 8) (v := .bool true) (t := { s with empty := true }) hfb (fun _ _ => rfl) rfl rfl HOK1.out)
          have HQ := Lib.hid (HQ1.out.cell (i := 0) (v := .int .u8 (x % 16)) (t := { s with empty := true, ier := x % 16 }) hfb (fun _ _ => rfl) rfl rfl HOK.out)
          clear hb1 hp HLa HLo HQ1
          go_wp2_with fail
          try rw [Exit.noGoto_ret]
          go_ret
          exact ⟨rfl, HQ.out⟩
    · rw [Ut.write2] at hok ⊢
      have a0 := Ut.and1 hx
      have a1 := Ut.and2 hx
      have hqo : Ut.Ok { s with q := [] } := ⟨hp.ok.ier, hp.ok.lcr, hp.ok.mcr, hp.ok.scr, hp.ok.dll, hp.ok.dlm, by simp, hp.ok.outs, by simp⟩
      have HQ0 := Lib.hid (hp.setQ (v := .slice none 0 0) (xs := []) (World.ownsRow_nil _ _ _ _) (fun k hk => by cases hk) hqo)
      obtain ⟨p, cap, rfl, -⟩ := own_form hp.q
      have f6 := hp.row.frozen 6
      have f9 := hp.row.frozen 9
      generalize Ut.bt x 0 = nf at *
      generalize Ut.bt x 1 = cl at *
      obtain hff | hff : s.fifo = false ∨ s.fifo = true := by cases s.fifo <;> simp
      · rw [hff] at c6
        cases nf with
        | false =>
          cases cl with
          | true =>
            rw [if_pos (by rw [hff]; simp)] at hok ⊢
            have HQ := Lib.hid ((PtQ.of HQ0.out.p (Chg.of_cell (w := w) hfb 9 (.slice none 0 0))).cell (i := 6) (v := .bool false) (t := { s with q := [], fifo := false }) hfb (fun _ _ => rfl) rfl rfl hok)
            clear hok hp HLa HLo HQ0
            go_enter Try.func64, Try.ntmps64
            go_wp2_with fail
            go_step3
            go_wp2_with fail
            go_step3
            go_wp2_with fail
            try rw [Exit.noGoto_ret]
            go_ret
            exact ⟨rfl, HQ.out⟩
          | false =>
            rw [if_neg (by rw [hff]; simp)] at hok ⊢
            have HQ := Lib.hid (HR.out.cell (i := 6) (v := .bool false) (t := { s with fifo := false }) hfb (fun _ _ => rfl) rfl rfl hok)
            clear hok hp HLa HLo HQ0
            go_enter Try.func64, Try.ntmps64
            go_wp2_with fail
            go_step3
            go_wp2_with fail
            go_step3
            go_wp2_with fail
            try rw [Exit.noGoto_ret]
            go_ret
            exact ⟨rfl, HQ.out⟩
        | true =>
          rw [if_pos (by rw [hff]; simp)] at hok ⊢
          have HQ := Lib.hid ((PtQ.of HQ0.out.p (Chg.of_cell (w := w) hfb 9 (.slice none 0 0))).cell (i := 6) (v := .bool true) (t := { s with q := [], fifo := true }) hfb (fun _ _ => rfl) rfl rfl hok)
          clear hok hp HLa HLo HQ0
          go_enter Try.func64, Try.ntmps64
          go_wp2_with fail
          go_step3
          go_wp2_with fail
          go_step3
          go_wp2_with fail
          try rw [Exit.noGoto_ret]
          go_ret
          exact ⟨rfl, HQ.out⟩
      · rw [hff] at c6
        cases nf with
        | false =>
          rw [if_pos (by rw [hff]; simp)] at hok ⊢
          have HQ := Lib.hid ((PtQ.of HQ0.out.p (Chg.of_cell (w := w) hfb 9 (.slice none 0 0))).cell (i := 6) (v := .bool false) (t := { s with q := [], fifo := false }) hfb (fun _ _ => rfl) rfl rfl hok)
          clear hok hp HLa HLo HQ0
          go_enter Try.func64, Try.ntmps64
          go_wp2_with fail
          go_step3
          go_wp2_with fail
          go_step3
          go_wp2_with fail
          try rw [Exit.noGoto_ret]
          go_ret
          exact ⟨rfl, HQ.out⟩
        | true =>
          cases cl with
          | true =>
            rw [if_pos (by rw [hff]; simp)] at hok ⊢
            have HQ := Lib.hid ((PtQ.of HQ0.out.p (Chg.of_cell (w := w) hfb 9 (.slice none 0 0))).cell (i := 6) (v := .bool true) (t := { s with q := [], fifo := true }) hfb (fun _ _ => rfl) rfl rfl hok)
            clear hok hp HLa HLo HQ0
            go_enter Try.func64, Try.ntmps64
            go_wp2_with fail
            go_step3
            go_wp2_with fail
            go_step3
            go_wp2_with fail
            try rw [Exit.noGoto_ret]
            go_ret
            exact ⟨rfl, HQ.out⟩
          | false =>
            rw [if_neg (by rw [hff]; simp)] at hok ⊢
            have HQ := Lib.hid (HR.out.cell (i := 6) (v := .bool true) (t := { s with fifo := true }) hfb (fun _ _ => rfl) rfl rfl hok)
            clear hok hp HLa HLo HQ0
            go_enter Try.func64, Try.ntmps64
            go_wp2_with fail
            go_step3
            go_wp2_with fail
            go_step3
            go_wp2_with fail
            try rw [Exit.noGoto_ret]
            go_ret
            exact ⟨rfl, HQ.out⟩
    · rw [Ut.write3] at hok ⊢
      have f := hp.row.frozen 1
      have HQ := Lib.hid (HR.out.cell (i := 1) (v := .int .u8 (x)) (t := { s with lcr := x }) hfb (fun _ _ => rfl) rfl rfl hok)
      clear hok hp HLa HLo
      go_enter Try.func64, Try.ntmps64
      go_wp2_with fail
      go_step3
      go_wp2_with fail
      go_step3
      go_wp2_with fail
      try rw [Exit.noGoto_ret]
      go_ret
      exact ⟨rfl, HQ.out⟩
    · rw [Ut.write4] at hok ⊢
      have e5 := Ut.low5 hx
      have f := hp.row.frozen 2
      have HQ := Lib.hid (HR.out.cell (i := 2) (v := .int .u8 (x % 32)) (t := { s with mcr := x % 32 }) hfb (fun _ _ => rfl) rfl rfl hok)
      clear hok hp HLa HLo
      go_enter Try.func64, Try.ntmps64
      go_wp2_with fail
      go_step3
      go_wp2_with fail
      go_step3
      go_wp2_with fail
      try rw [Exit.noGoto_ret]
      go_ret
      exact ⟨rfl, HQ.out⟩
    · rw [Ut.write5] at hok ⊢
      clear hok hp HLa HLo
      go_enter Try.func64, Try.ntmps64
      go_wp2_with fail
      go_step3
      go_wp2_with fail
      go_step3
      go_wp2_with fail
      try rw [Exit.noGoto_ret]
      go_ret
      exact ⟨rfl, HR.out⟩
    · rw [Ut.write6] at hok ⊢
      clear hok hp HLa HLo
      go_enter Try.func64, Try.ntmps64
      go_wp2_with fail
      go_step3
      go_wp2_with fail
      go_step3
      go_wp2_with fail
      try rw [Exit.noGoto_ret]
      go_ret
      exact ⟨rfl, HR.out⟩
    · rw [Ut.write7] at hok ⊢
      have f := hp.row.frozen 3
      have HQ := Lib.hid (HR.out.cell (i := 3) (v := .int .u8 (x)) (t := { s with scr := x }) hfb (fun _ _ => rfl) rfl rfl hok)
      clear hok hp HLa HLo
      go_enter Try.func64, Try.ntmps64
      go_wp2_with fail
      go_step3
      go_wp2_with fail
      go_step3
      go_wp2_with fail
      try rw [Exit.noGoto_ret]
      go_ret
      exact ⟨rfl, HQ.out⟩
end Go.Proofs.Ytkknfhbaldeigaa
