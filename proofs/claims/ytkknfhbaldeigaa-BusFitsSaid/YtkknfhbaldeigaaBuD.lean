/-
  What stands after something was done to a bus; contracts of read, write.
-/
import Derived.Test.YtkknfhbaldeigaaBuC
import Derived.Test.YtkknfhbaldeigaaUtI
set_option maxRecDepth 20000
namespace Go.Proofs.Ytkknfhbaldeigaa
open Go.ChangeShapes Go.WideShapes Go.ChangeAt Go.RowKit
theorem Bs.readV_rng {s : Ut.S} (h : Ut.Ok s) (off : Int) : 0 ≤ Ut.readV s off ∧ Ut.readV s off < 256 := by
  have hq : ∀ i, 0 ≤ s.q.getD i 0 ∧ s.q.getD i 0 < 256 := fun i => by
    rw [List.getD]
    by_cases hi : i < s.q.length
    · rw [List.getElem?_eq_getElem hi]
      exact h.qs _ (List.getElem_mem hi)
    · rw [List.getElem?_eq_none (by omega)]
      simp
  have h1 := h.ier
  have h2 := h.lcr
  have h3 := h.mcr
  have h4 := h.scr
  have h5 := h.dll
  have h6 := h.dlm
  unfold Ut.isB at h2 h4 h5 h6
  have hc := Ut.cause_of s
  have hm : 0 ≤ Ut.modem s.mcr ∧ Ut.modem s.mcr < 256 := by
    unfold Ut.modem Ut.b2i
    split
    · refine ⟨?_, ?_⟩ <;> (repeat' split) <;> omega
    · omega
  have h0 := hq 0
  unfold Ut.readV
  repeat' split
  all_goals omega

namespace Bs
def readB (X : B) (d : Nat) (off size : Int) : Int := if d = 0 then Ct.readC X.n X.c off size else if d = 1 then Pc.readV X.n X.p off size else Ut.readV X.u off
def readX (X : B) (d : Nat) (off size : Int) : B := if d = 0 then X else if d = 1 then { X with p := Pc.readW X.n X.p off size } else { X with u := Ut.readS X.u off }
def writeX (X : B) (d : Nat) (off size v : Int) : B := if d = 0 then { X with c := Ct.writeC X.n X.c off size v } else if d = 1 then { X with p := Pc.writeW X.n X.p off size v } else { X with u := Ut.writeS X.u off (v % 256) }
end Bs
/-- A bus in memory: F holds the port's blocks. -/
structure Bu (F : Nat → Prop) (w : World) (b : Nat) (X : Bs.B) : Prop where
  ex : ∃ g, CsAt w b BuT (buV (.pointer (some ⟨g, 0, none⟩)) X.n X.c X.p) ∧ Pt F w g X.u
  nb : ¬ F b
  okc : Ct.Ok X.n X.c
  okp : Pc.Ok X.n X.p
/-- After something was done. -/
structure BuQ (F : Nat → Prop) (w w' : World) (b : Nat) (X : Bs.B) : Prop where
  ex : ∃ F', Bu F' w' b X ∧ ∀ k, F' k → F k ∨ w.heap.size ≤ k
  chg : Chg (fun k => F k ∨ k = b) w w'
section
variable {F : Nat → Prop} {w w' w1 : World} {b : Nat} {X Y : Bs.B}
theorem Bu.lt (h : Bu F w b X) : b < w.heap.size := by
  obtain ⟨g, h1, -⟩ := h.ex
  exact h1.lt
theorem Bu.lo (h : Bu F w b X) : ∀ k, F k → k < w.heap.size := by
  obtain ⟨g, -, h2⟩ := h.ex
  exact h2.lt
theorem Bu.low (h : Bu F w b X) (hb : Below w.heap.size w w') : Bu F w' b X := by
  obtain ⟨g, h1, h2⟩ := h.ex
  exact ⟨⟨g, h1.low hb, h2.low hb⟩, h.nb, h.okc, h.okp⟩
theorem Bu.n1 (h : Bu F w b X) : w.cell? ⟨b, 1, none⟩ = some (.int .i64 X.n) := by
  obtain ⟨g, h1, -⟩ := h.ex
  rw [h1.cell]; exact buV_n
theorem Bu.keepQ (h : Bu F w b X) (hb : Below w.heap.size w w') : BuQ F w w' b X := ⟨⟨F, h.low hb, fun _ hk => .inl hk⟩, Chg.of_below hb⟩
theorem BuQ.then (h : BuQ F w w1 b X) (k : ∀ G, Bu G w1 b X → BuQ G w1 w' b Y) : BuQ F w w' b Y := by
  obtain ⟨⟨G, h1, h2⟩, h3⟩ := h
  obtain ⟨⟨J, k1, k2⟩, k3⟩ := k G h1
  refine ⟨⟨J, k1, fun i hi => ?_⟩, h3.transN k3 (fun i hi => ?_)⟩
  · rcases k2 i hi with hi | hi
    · exact h2 i hi
    · exact .inr (Nat.le_trans h3.size hi)
  · rcases hi with hi | hi
    · rcases h2 i hi with hi | hi
      · exact .inl (.inl hi)
      · exact .inr hi
    · exact .inl (.inr hi)
theorem BuQ.after (hb : Below w.heap.size w w1) (k : BuQ F w1 w' b Y) : BuQ F w w' b Y := by
  obtain ⟨⟨J, k1, k2⟩, k3⟩ := k
  exact ⟨⟨J, k1, fun i hi => (k2 i hi).imp id (Nat.le_trans hb.size)⟩, (Chg.of_below hb).trans k3⟩
theorem BuQ.low (h : BuQ F w w1 b X) (hb : Below w1.heap.size w1 w') : BuQ F w w' b X := by
  obtain ⟨⟨G, h1, h2⟩, h3⟩ := h
  exact ⟨⟨G, h1.low hb, h2⟩, h3.trans (Chg.of_below hb)⟩
theorem Och.chg (h : Och (some b) w w') : Chg (fun k => k = b) w w' := ⟨h.os, h.tape, h.output, h.size, fun k hk hs => h.block k hk (fun e => hs (by cases e; rfl))⟩
theorem BuQ.of_c {g : Nat} {cs : List Int} (h : Bu F w b X) (hp : Pt F w g X.u) (hc : Bm.CtP (.pointer (some ⟨g, 0, none⟩), X.p) w' (some ⟨b, 2, none⟩) X.n cs) (ho : Och (some b) w w') : BuQ F w w' b { X with c := cs } := by
  rcases hc with hc | ⟨b', e, hc⟩
  · cases hc.1
  · cases e
    refine ⟨⟨F, ⟨⟨g, hc.row, hp.keep ho.chg (fun k hk e => h.nb (e ▸ hk))⟩, h.nb, hc.ok, h.okp⟩, fun _ hk => .inl hk⟩, ho.chg.mono (fun _ hk => .inr hk)⟩
theorem BuQ.of_p {g : Nat} {ps : List Int} (h : Bu F w b X) (hp : Pt F w g X.u) (hc : Bp.PcP ⟨.pointer (some ⟨g, 0, none⟩), X.c, h.okc.len⟩ w' (some ⟨b, 20, none⟩) X.n ps) (ho : Och (some b) w w') : BuQ F w w' b { X with p := ps } := by
  rcases hc with hc | ⟨b', e, hc⟩
  · cases hc.1
  · cases e
    refine ⟨⟨F, ⟨⟨g, hc.row, hp.keep ho.chg (fun k hk e => h.nb (e ▸ hk))⟩, h.nb, h.okc, hc.ok⟩, fun _ hk => .inl hk⟩, ho.chg.mono (fun _ hk => .inr hk)⟩
theorem BuQ.of_u {g : Nat} {s : Ut.S} (h : Bu F w b X) (hr : CsAt w b BuT (buV (.pointer (some ⟨g, 0, none⟩)) X.n X.c X.p)) (hq : PtQ F w w' g s) : BuQ F w w' b { X with u := s } := by
  refine ⟨⟨Nw F w w', ⟨⟨g, hq.chg.cs hr h.nb, hq.pt⟩, fun hk => ?_, h.okc, h.okp⟩, fun _ hk => hk.imp id (fun h2 => h2.1)⟩, hq.chg.mono (fun _ hk => .inl hk)⟩
  rcases hk with hk | hk
  · exact h.nb hk
  · have := hr.lt; omega
end
set_option maxHeartbeats 8000000 in
theorem bread_c (F : Nat → Prop) (b : Nat) (X : Bs.B) (d : Nat) (hd : d < 3) (off size : Int) (o0 : 0 ≤ off) (o1 : off ≤ 18446744073709551615) (w : World) (h : Bu F w b X) :
    Calls Try.prog 25 #[.pointer (some ⟨b, 0, none⟩), .agg #[.int .i64 d, .int .u64 off, .int .i64 size]] w fun e w' => e = .returned (.int .u64 (Bs.readB X d off size)) ∧ BuQ F w w' b (Bs.readX X d off size) := by
  obtain ⟨g, hrow, hpt⟩ := h.ex
  have hb0 : Below w.heap.size w (w.alloc (.cells #[.int .i64 d, .int .u64 off, .int .i64 size] TgT)) := (Below.refl _ _).alloc (Nat.le_refl _) _
  have hR := CsAt.new w TgT #[.int .i64 d, .int .u64 off, .int .i64 size]
  have hB := h.low hb0
  have hrow1 := hrow.low hb0
  have hpt1 := hpt.low hb0
  have HB0 := Lib.hid hb0
  have hbl := h.lt
  go_enter Try.func25, Try.ntmps25
  go_upto_region 1 with fail
  generalize w.alloc (.cells #[.int .i64 d, .int .u64 off, .int .i64 size] TgT) = w1 at *
  have q0 := hR.cell 0
  have q1 := hR.cell 1
  have q2 := hR.cell 2
  have c0 : w1.cell? ⟨b, 0, none⟩ = some (.pointer (some ⟨g, 0, none⟩)) := by rw [hrow1.cell]; exact buV_u
  simp only [List.getElem?_toArray, List.getElem?_cons_zero, List.getElem?_cons_succ] at q0 q1 q2
  have hbd : Below w1.heap.size w1 w1.drew := below_dU (Below.refl _ _) 1
  have HBD := Lib.hid (hB.low hbd)
  have HRD := Lib.hid (hrow1.low hbd)
  have HPD := Lib.hid (hpt1.low hbd)
  have HTD := Lib.hid (hR.low hbd)
  have HB1 := Lib.hid (HB0.out.trans (hbd.mono HB0.out.size))
  have HBU := Lib.hid h
  have hWd : w1.drew = w1.drew := rfl
  clear hR hrow hpt hB hrow1 hpt1 hb0 hbd HB0 h
  obtain rfl | rfl | rfl : d = 0 ∨ d = 1 ∨ d = 2 := by omega
  · try clear hd
    go_upto_region 4 with fail
    clear hWd q0 q1 q2 c0
    have hs0 : CsAt w1.drew w.heap.size TgT #[.int .i64 0, .int .u64 off, .int .i64 size] ∧ w1.drew.cell? ⟨b, 0, none⟩ = some (.pointer (some ⟨g, 0, none⟩)) := ⟨HTD.out, by rw [HRD.out.cell]; exact buV_u⟩
    refine wp_region_noPanic ?_
    refine wp_region_held (S := fun W => CsAt W w.heap.size TgT #[.int .i64 0, .int .u64 off, .int .i64 size] ∧ W.cell? ⟨b, 0, none⟩ = some (.pointer (some ⟨g, 0, none⟩))) (by kernel_rfl) ?_
    refine takeH (fuel := 11) (i := 0) (.pointer (some ⟨b, 0, none⟩)) ?_ rfl (by kernel_rfl) (by kernel_rfl) (by kernel_rfl) (fun _ _ _ h => h) (by kernel_rfl) (fun W hS => by go_simp) hs0 ?_ ?_
    rotate_left 1
    · go_simp
      exact rfl
    refine takeH (fuel := 10) (i := 1) (.pointer (some ⟨b, 0, none⟩)) ?_ rfl (by kernel_rfl) (by kernel_rfl) (by kernel_rfl) (fun _ _ _ h => h) (by kernel_rfl) (fun W hS => by go_simp) hs0 ?_ ?_
    rotate_left 1
    · go_simp
      exact rfl
    refine takeH (fuel := 9) (i := 2) (.pointer (some ⟨b, 2, none⟩)) ?_ rfl (by kernel_rfl) (by kernel_rfl) (by kernel_rfl) (fun _ _ _ h => h) (by kernel_rfl) (fun W hS => by go_simp) hs0 ?_ ?_
    rotate_left 1
    · go_simp
      exact rfl
    refine takeH (fuel := 8) (i := 3) (.pointer (some ⟨w.heap.size, 1, none⟩)) ?_ rfl (by kernel_rfl) (by kernel_rfl) (by kernel_rfl) (fun _ _ _ h => h) (by kernel_rfl) (fun W hS => by go_simp) hs0 ?_ ?_
    rotate_left 1
    · go_simp
      exact rfl
    refine takeH (fuel := 7) (i := 4) (.int .u64 off) ?_ rfl (by kernel_rfl) (by kernel_rfl) (by kernel_rfl) (fun _ _ _ h => h) (by kernel_rfl) (fun W hS => by (have q := hS.1.cell 1; simp only [List.getElem?_toArray, List.getElem?_cons_succ, List.getElem?_cons_zero] at q; go_simp)) hs0 ?_ ?_
    rotate_left 1
    · go_simp
      exact rfl
    refine takeH (fuel := 6) (i := 5) (.pointer (some ⟨w.heap.size, 2, none⟩)) ?_ rfl (by kernel_rfl) (by kernel_rfl) (by kernel_rfl) (fun _ _ _ h => h) (by kernel_rfl) (fun W hS => by go_simp) hs0 ?_ ?_
    rotate_left 1
    · go_simp
      exact rfl
    refine takeH (fuel := 5) (i := 6) (.int .i64 size) ?_ rfl (by kernel_rfl) (by kernel_rfl) (by kernel_rfl) (fun _ _ _ h => h) (by kernel_rfl) (fun W hS => by (have q := hS.1.cell 2; simp only [List.getElem?_toArray, List.getElem?_cons_succ, List.getElem?_cons_zero] at q; go_simp)) hs0 ?_ ?_
    rotate_left 1
    · go_simp
      exact rfl
    refine wpAnyH_all (fuel := 4) (rs := [7]) (by kernel_rfl) (by decide) ?_
    intro i hi
    obtain rfl : i = 7 := by simpa using hi
    refine wpOp_callX 58 #[.pointer (some ⟨b, 2, none⟩), .int .u64 off, .int .i64 size] rfl (by kernel_rfl) (by go_simp) ?_
    refine (Bm.read_c (S := (.pointer (some ⟨g, 0, none⟩), X.p)) (some ⟨b, 2, none⟩) X.n X.c off o0 o1 size w1.drew (.inr ⟨b, rfl, ⟨HRD.out, HBD.out.okc⟩⟩)).mono ?_
    rintro e w2 ⟨rfl, hb2⟩
    have hQ := HBD.out.keepQ hb2
    have hs2 : CsAt w2 w.heap.size TgT #[.int .i64 0, .int .u64 off, .int .i64 size] ∧ w2.cell? ⟨b, 0, none⟩ = some (.pointer (some ⟨g, 0, none⟩)) := ⟨hQ.chg.cs HTD.out (fun hk => hk.elim (fun hk => by have := HBU.out.lo _ hk; omega) (fun hk => by omega)), by rw [(HRD.out.low hb2).cell]; exact buV_u⟩
    have HQ := Lib.hid (BuQ.after HB1.out hQ)
    refine ⟨_, rfl, hs2, ?_⟩
    refine takeH (fuel := 3) (i := 8) (.tuple #[.int .u64 (Ct.readC X.n X.c off size), .bool (Ct.is X.n off size)]) ?_ rfl (by kernel_rfl) (by kernel_rfl) (by kernel_rfl) (fun _ _ _ h => h) (by kernel_rfl) (fun W hS => by go_simp) hs2 ?_ ?_
    rotate_left 1
    · go_simp
      exact rfl
    refine takeH (fuel := 2) (i := 9) (.int .u64 (Ct.readC X.n X.c off size)) ?_ rfl (by kernel_rfl) (by kernel_rfl) (by kernel_rfl) (fun _ _ _ h => h) (by kernel_rfl) (fun W hS => by go_simp) hs2 ?_ ?_
    rotate_left 1
    · go_simp
      exact rfl
    refine takeH (fuel := 1) (i := 10) (.bool (Ct.is X.n off size)) ?_ rfl (by kernel_rfl) (by kernel_rfl) (by kernel_rfl) (fun _ _ _ h => h) (by kernel_rfl) (fun W hS => by go_simp) hs2 ?_ ?_
    rotate_left 1
    · go_simp
      exact rfl
    refine takeH (fuel := 0) (i := 11) (.int .u64 (Ct.readC X.n X.c off size)) ?_ rfl (by kernel_rfl) (by kernel_rfl) (by kernel_rfl) (fun _ _ _ h => h) (by kernel_rfl) (fun W hS => by go_simp) hs2 ?_ ?_
    rotate_left 1
    · go_simp
      exact rfl
    refine wpAnyH_done (by kernel_rfl) ?_ _
    refine NoPanic.normal ?_
    clear hs0 hs2 hQ
    go_wp2_with fail
    go_ret
    exact ⟨rfl, HQ.out⟩
  · try clear hd
    go_upto_region 6 with fail
    clear hWd q0 q1 q2 c0
    have hs0 : CsAt w1.drew w.heap.size TgT #[.int .i64 1, .int .u64 off, .int .i64 size] ∧ w1.drew.cell? ⟨b, 0, none⟩ = some (.pointer (some ⟨g, 0, none⟩)) := ⟨HTD.out, by rw [HRD.out.cell]; exact buV_u⟩
    refine wp_region_noPanic ?_
    refine wp_region_held (S := fun W => CsAt W w.heap.size TgT #[.int .i64 1, .int .u64 off, .int .i64 size] ∧ W.cell? ⟨b, 0, none⟩ = some (.pointer (some ⟨g, 0, none⟩))) (by kernel_rfl) ?_
    refine takeH (fuel := 11) (i := 0) (.pointer (some ⟨b, 0, none⟩)) ?_ rfl (by kernel_rfl) (by kernel_rfl) (by kernel_rfl) (fun _ _ _ h => h) (by kernel_rfl) (fun W hS => by go_simp) hs0 ?_ ?_
    rotate_left 1
    · go_simp
      exact rfl
    refine takeH (fuel := 10) (i := 1) (.pointer (some ⟨b, 0, none⟩)) ?_ rfl (by kernel_rfl) (by kernel_rfl) (by kernel_rfl) (fun _ _ _ h => h) (by kernel_rfl) (fun W hS => by go_simp) hs0 ?_ ?_
    rotate_left 1
    · go_simp
      exact rfl
    refine takeH (fuel := 9) (i := 2) (.pointer (some ⟨b, 20, none⟩)) ?_ rfl (by kernel_rfl) (by kernel_rfl) (by kernel_rfl) (fun _ _ _ h => h) (by kernel_rfl) (fun W hS => by go_simp) hs0 ?_ ?_
    rotate_left 1
    · go_simp
      exact rfl
    refine takeH (fuel := 8) (i := 3) (.pointer (some ⟨w.heap.size, 1, none⟩)) ?_ rfl (by kernel_rfl) (by kernel_rfl) (by kernel_rfl) (fun _ _ _ h => h) (by kernel_rfl) (fun W hS => by go_simp) hs0 ?_ ?_
    rotate_left 1
    · go_simp
      exact rfl
    refine takeH (fuel := 7) (i := 4) (.int .u64 off) ?_ rfl (by kernel_rfl) (by kernel_rfl) (by kernel_rfl) (fun _ _ _ h => h) (by kernel_rfl) (fun W hS => by (have q := hS.1.cell 1; simp only [List.getElem?_toArray, List.getElem?_cons_succ, List.getElem?_cons_zero] at q; go_simp)) hs0 ?_ ?_
    rotate_left 1
    · go_simp
      exact rfl
    refine takeH (fuel := 6) (i := 5) (.pointer (some ⟨w.heap.size, 2, none⟩)) ?_ rfl (by kernel_rfl) (by kernel_rfl) (by kernel_rfl) (fun _ _ _ h => h) (by kernel_rfl) (fun W hS => by go_simp) hs0 ?_ ?_
    rotate_left 1
    · go_simp
      exact rfl
    refine takeH (fuel := 5) (i := 6) (.int .i64 size) ?_ rfl (by kernel_rfl) (by kernel_rfl) (by kernel_rfl) (fun _ _ _ h => h) (by kernel_rfl) (fun W hS => by (have q := hS.1.cell 2; simp only [List.getElem?_toArray, List.getElem?_cons_succ, List.getElem?_cons_zero] at q; go_simp)) hs0 ?_ ?_
    rotate_left 1
    · go_simp
      exact rfl
    refine wpAnyH_all (fuel := 4) (rs := [7]) (by kernel_rfl) (by decide) ?_
    intro i hi
    obtain rfl : i = 7 := by simpa using hi
    refine wpOp_callX 59 #[.pointer (some ⟨b, 20, none⟩), .int .u64 off, .int .i64 size] rfl (by kernel_rfl) (by go_simp) ?_
    refine (Bp.pread_c (S := ⟨.pointer (some ⟨g, 0, none⟩), X.c, HBD.out.okc.len⟩) (some ⟨b, 20, none⟩) X.n X.p off size o0 o1 w1.drew (.inr ⟨b, rfl, ⟨HRD.out, HBD.out.okp⟩⟩)).mono ?_
    rintro e w2 ⟨rfl, hp2, ho2⟩
    have hQ := BuQ.of_p HBD.out HPD.out hp2 ho2
    have hs2 : CsAt w2 w.heap.size TgT #[.int .i64 1, .int .u64 off, .int .i64 size] ∧ w2.cell? ⟨b, 0, none⟩ = some (.pointer (some ⟨g, 0, none⟩)) := ⟨hQ.chg.cs HTD.out (fun hk => hk.elim (fun hk => by have := HBU.out.lo _ hk; omega) (fun hk => by omega)), by rw [hp2.of.row.cell]; exact buV_u⟩
    have HQ := Lib.hid (BuQ.after HB1.out hQ)
    refine ⟨_, rfl, hs2, ?_⟩
    refine takeH (fuel := 3) (i := 8) (.tuple #[.int .u64 (Pc.readV X.n X.p off size), .bool (Pc.is X.n off size)]) ?_ rfl (by kernel_rfl) (by kernel_rfl) (by kernel_rfl) (fun _ _ _ h => h) (by kernel_rfl) (fun W hS => by go_simp) hs2 ?_ ?_
    rotate_left 1
    · go_simp
      exact rfl
    refine takeH (fuel := 2) (i := 9) (.int .u64 (Pc.readV X.n X.p off size)) ?_ rfl (by kernel_rfl) (by kernel_rfl) (by kernel_rfl) (fun _ _ _ h => h) (by kernel_rfl) (fun W hS => by go_simp) hs2 ?_ ?_
    rotate_left 1
    · go_simp
      exact rfl
    refine takeH (fuel := 1) (i := 10) (.bool (Pc.is X.n off size)) ?_ rfl (by kernel_rfl) (by kernel_rfl) (by kernel_rfl) (fun _ _ _ h => h) (by kernel_rfl) (fun W hS => by go_simp) hs2 ?_ ?_
    rotate_left 1
    · go_simp
      exact rfl
    refine takeH (fuel := 0) (i := 11) (.int .u64 (Pc.readV X.n X.p off size)) ?_ rfl (by kernel_rfl) (by kernel_rfl) (by kernel_rfl) (fun _ _ _ h => h) (by kernel_rfl) (fun W hS => by go_simp) hs2 ?_ ?_
    rotate_left 1
    · go_simp
      exact rfl
    refine wpAnyH_done (by kernel_rfl) ?_ _
    refine NoPanic.normal ?_
    clear hs0 hs2 hQ
    go_wp2_with fail
    go_ret
    exact ⟨rfl, HQ.out⟩
  · try clear hd
    go_upto_region 8 with fail
    clear hWd q0 q1 q2 c0
    have hs0 : CsAt w1.drew w.heap.size TgT #[.int .i64 2, .int .u64 off, .int .i64 size] ∧ w1.drew.cell? ⟨b, 0, none⟩ = some (.pointer (some ⟨g, 0, none⟩)) := ⟨HTD.out, by rw [HRD.out.cell]; exact buV_u⟩
    refine wp_region_noPanic ?_
    refine wp_region_held (S := fun W => CsAt W w.heap.size TgT #[.int .i64 2, .int .u64 off, .int .i64 size] ∧ W.cell? ⟨b, 0, none⟩ = some (.pointer (some ⟨g, 0, none⟩))) (by kernel_rfl) ?_
    refine takeH (fuel := 11) (i := 0) (.pointer (some ⟨b, 0, none⟩)) ?_ rfl (by kernel_rfl) (by kernel_rfl) (by kernel_rfl) (fun _ _ _ h => h) (by kernel_rfl) (fun W hS => by go_simp) hs0 ?_ ?_
    rotate_left 1
    · go_simp
      exact rfl
    refine takeH (fuel := 10) (i := 1) (.pointer (some ⟨b, 0, none⟩)) ?_ rfl (by kernel_rfl) (by kernel_rfl) (by kernel_rfl) (fun _ _ _ h => h) (by kernel_rfl) (fun W hS => by go_simp) hs0 ?_ ?_
    rotate_left 1
    · go_simp
      exact rfl
    refine takeH (fuel := 9) (i := 2) (.pointer (some ⟨b, 0, none⟩)) ?_ rfl (by kernel_rfl) (by kernel_rfl) (by kernel_rfl) (fun _ _ _ h => h) (by kernel_rfl) (fun W hS => by go_simp) hs0 ?_ ?_
    rotate_left 1
    · go_simp
      exact rfl
    refine takeH (fuel := 8) (i := 3) (.pointer (some ⟨g, 0, none⟩)) ?_ rfl (by kernel_rfl) (by kernel_rfl) (by kernel_rfl) (fun _ _ _ h => h) (by kernel_rfl) (fun W hS => by (have q := hS.2; go_simp)) hs0 ?_ ?_
    rotate_left 1
    · go_simp
      exact rfl
    refine takeH (fuel := 7) (i := 4) (.pointer (some ⟨w.heap.size, 1, none⟩)) ?_ rfl (by kernel_rfl) (by kernel_rfl) (by kernel_rfl) (fun _ _ _ h => h) (by kernel_rfl) (fun W hS => by go_simp) hs0 ?_ ?_
    rotate_left 1
    · go_simp
      exact rfl
    refine takeH (fuel := 6) (i := 5) (.int .u64 off) ?_ rfl (by kernel_rfl) (by kernel_rfl) (by kernel_rfl) (fun _ _ _ h => h) (by kernel_rfl) (fun W hS => by (have q := hS.1.cell 1; simp only [List.getElem?_toArray, List.getElem?_cons_succ, List.getElem?_cons_zero] at q; go_simp)) hs0 ?_ ?_
    rotate_left 1
    · go_simp
      exact rfl
    refine wpAnyH_all (fuel := 5) (rs := [6]) (by kernel_rfl) (by decide) ?_
    intro i hi
    obtain rfl : i = 6 := by simpa using hi
    refine wpOp_callX 60 #[.pointer (some ⟨g, 0, none⟩), .int .u64 off] rfl (by kernel_rfl) (by go_simp) ?_
    refine (uread_c off o0 o1 HPD.out).mono ?_
    rintro e w2 ⟨rfl, hq2⟩
    have hQ := BuQ.of_u HBD.out HRD.out hq2
    have hs2 : CsAt w2 w.heap.size TgT #[.int .i64 2, .int .u64 off, .int .i64 size] ∧ w2.cell? ⟨b, 0, none⟩ = some (.pointer (some ⟨g, 0, none⟩)) := ⟨hQ.chg.cs HTD.out (fun hk => hk.elim (fun hk => by have := HBU.out.lo _ hk; omega) (fun hk => by omega)), by rw [(hq2.chg.cs HRD.out HBD.out.nb).cell]; exact buV_u⟩
    have HQ := Lib.hid (BuQ.after HB1.out hQ)
    have hv := Bs.readV_rng HPD.out.ok off
    have ev : IntKind.u64.wrap (Ut.readV X.u off) = Ut.readV X.u off := by rw [IntKind.wrap_u64]; omega
    have HE := Lib.hid (show Bs.readB X 2 off size = Ut.readV X.u off from rfl)
    clear hv
    generalize Ut.readV X.u off = v at *
    refine ⟨_, rfl, hs2, ?_⟩
    refine takeH (fuel := 4) (i := 7) (.tuple #[.int .u8 v, .bool (Ut.is off)]) ?_ rfl (by kernel_rfl) (by kernel_rfl) (by kernel_rfl) (fun _ _ _ h => h) (by kernel_rfl) (fun W hS => by go_simp) hs2 ?_ ?_
    rotate_left 1
    · go_simp
      exact rfl
    refine takeH (fuel := 3) (i := 8) (.int .u8 v) ?_ rfl (by kernel_rfl) (by kernel_rfl) (by kernel_rfl) (fun _ _ _ h => h) (by kernel_rfl) (fun W hS => by go_simp) hs2 ?_ ?_
    rotate_left 1
    · go_simp
      exact rfl
    refine takeH (fuel := 2) (i := 9) (.bool (Ut.is off)) ?_ rfl (by kernel_rfl) (by kernel_rfl) (by kernel_rfl) (fun _ _ _ h => h) (by kernel_rfl) (fun W hS => by go_simp) hs2 ?_ ?_
    rotate_left 1
    · go_simp
      exact rfl
    refine takeH (fuel := 1) (i := 10) (.int .u8 v) ?_ rfl (by kernel_rfl) (by kernel_rfl) (by kernel_rfl) (fun _ _ _ h => h) (by kernel_rfl) (fun W hS => by go_simp) hs2 ?_ ?_
    rotate_left 1
    · go_simp
      exact rfl
    refine takeH (fuel := 0) (i := 11) (.bool (Ut.is off)) ?_ rfl (by kernel_rfl) (by kernel_rfl) (by kernel_rfl) (fun _ _ _ h => h) (by kernel_rfl) (fun W hS => by go_simp) hs2 ?_ ?_
    rotate_left 1
    · go_simp
      exact rfl
    refine wpAnyH_done (by kernel_rfl) ?_ _
    refine NoPanic.normal ?_
    clear hs0 hs2 hQ
    go_wp2_with fail
    go_ret
    exact ⟨by rw [HE.out]; rfl, HQ.out⟩
set_option maxHeartbeats 8000000 in
theorem bwrite_c (F : Nat → Prop) (b : Nat) (X : Bs.B) (d : Nat) (hd : d < 3) (off size v : Int) (o0 : 0 ≤ off) (o1 : off ≤ 18446744073709551615) (v0 : 0 ≤ v) (v1 : v ≤ 18446744073709551615) (hn : X.u.out.length < 900) (w : World) (h : Bu F w b X) :
    Calls Try.prog 27 #[.pointer (some ⟨b, 0, none⟩), .agg #[.int .i64 d, .int .u64 off, .int .i64 size], .int .u64 v] w fun e w' => e = .returned (.tuple #[]) ∧ BuQ F w w' b (Bs.writeX X d off size v) := by
  obtain ⟨g, hrow, hpt⟩ := h.ex
  have hb0 : Below w.heap.size w (w.alloc (.cells #[.int .i64 d, .int .u64 off, .int .i64 size] TgT)) := (Below.refl _ _).alloc (Nat.le_refl _) _
  have hR := CsAt.new w TgT #[.int .i64 d, .int .u64 off, .int .i64 size]
  have hB := h.low hb0
  have hrow1 := hrow.low hb0
  have hpt1 := hpt.low hb0
  have HB0 := Lib.hid hb0
  have hbl := h.lt
  go_enter Try.func27, Try.ntmps27
  go_upto_region 1 with fail
  generalize w.alloc (.cells #[.int .i64 d, .int .u64 off, .int .i64 size] TgT) = w1 at *
  have q0 := hR.cell 0
  have q1 := hR.cell 1
  have q2 := hR.cell 2
  have c0 : w1.cell? ⟨b, 0, none⟩ = some (.pointer (some ⟨g, 0, none⟩)) := by rw [hrow1.cell]; exact buV_u
  simp only [List.getElem?_toArray, List.getElem?_cons_zero, List.getElem?_cons_succ] at q0 q1 q2
  have hbd : Below w1.heap.size w1 w1.drew := below_dU (Below.refl _ _) 1
  have HBD := Lib.hid (hB.low hbd)
  have HRD := Lib.hid (hrow1.low hbd)
  have HPD := Lib.hid (hpt1.low hbd)
  have HTD := Lib.hid (hR.low hbd)
  have HB1 := Lib.hid (HB0.out.trans (hbd.mono HB0.out.size))
  have HBU := Lib.hid h
  have hWd : w1.drew = w1.drew := rfl
  clear hR hrow hpt hB hrow1 hpt1 hb0 hbd HB0 h
  obtain rfl | rfl | rfl : d = 0 ∨ d = 1 ∨ d = 2 := by omega
  · try clear hd
    go_upto_region 3 with fail
    refine wp_region_steady_tail (fun W => W = w1.drew) 8 (by kernel_rfl) (by kernel_rfl) hWd ?_
    iterate 8
      refine steady_val ?_ ?_ (by rfl) (fun W hS => ?_) ?_ ?_
      rotate_left 2
      · subst hS
        go_simp
        exact rfl
      · go_simp
        exact rfl
    refine steady_nil ?_
    rintro W rfl
    simp only [List.drop_succ_cons, List.drop_zero]
    clear hWd q0 q1 q2 c0
    go_wp2_with fail
    refine (Bm.write_c (S := (.pointer (some ⟨g, 0, none⟩), X.p)) (some ⟨b, 2, none⟩) X.n X.c off o0 o1 size v v0 v1 w1.drew (.inr ⟨b, rfl, ⟨HRD.out, HBD.out.okc⟩⟩)).mono ?_
    rintro e w2 ⟨rfl, hp2, ho2⟩
    have HF := Lib.hid (BuQ.after HB1.out (BuQ.of_c HBD.out HPD.out hp2 ho2))
    clear hp2 ho2 HBU HB1 HRD HBD HPD HTD
    go_wp2_with fail
    exact bodyPost_end (v := .tuple #[]) (by simp [results, Try.results27, go_sem]) rfl ⟨rfl, HF.out⟩
  · try clear hd
    go_upto_region 5 with fail
    refine wp_region_steady_tail (fun W => W = w1.drew) 8 (by kernel_rfl) (by kernel_rfl) hWd ?_
    iterate 8
      refine steady_val ?_ ?_ (by rfl) (fun W hS => ?_) ?_ ?_
      rotate_left 2
      · subst hS
        go_simp
        exact rfl
      · go_simp
        exact rfl
    refine steady_nil ?_
    rintro W rfl
    simp only [List.drop_succ_cons, List.drop_zero]
    clear hWd q0 q1 q2 c0
    go_wp2_with fail
    refine (Bp.pwrite_c (S := ⟨.pointer (some ⟨g, 0, none⟩), X.c, HBD.out.okc.len⟩) (some ⟨b, 20, none⟩) X.n X.p off size o0 o1 v v0 (by omega) w1.drew (.inr ⟨b, rfl, ⟨HRD.out, HBD.out.okp⟩⟩)).mono ?_
    rintro e w2 ⟨rfl, hp2, ho2⟩
    have HF := Lib.hid (BuQ.after HB1.out (BuQ.of_p HBD.out HPD.out hp2 ho2))
    clear hp2 ho2 HBU HB1 HRD HBD HPD HTD
    go_wp2_with fail
    exact bodyPost_end (v := .tuple #[]) (by simp [results, Try.results27, go_sem]) rfl ⟨rfl, HF.out⟩
  · try clear hd
    have ew : IntKind.u8.wrap v = v % 256 := by rw [IntKind.wrap_u8]
    go_upto_region 7 with fail
    refine wp_region_steady_tail (fun W => W = w1.drew) 8 (by kernel_rfl) (by kernel_rfl) hWd ?_
    iterate 8
      refine steady_val ?_ ?_ (by rfl) (fun W hS => ?_) ?_ ?_
      rotate_left 2
      · subst hS
        go_simp
        exact rfl
      · go_simp
        exact rfl
    refine steady_nil ?_
    rintro W rfl
    simp only [List.drop_succ_cons, List.drop_zero]
    clear hWd q0 q1 q2 c0
    go_wp2_with fail
    refine (uwrite_c off (v % 256) o0 o1 ⟨by omega, by omega⟩ hn HPD.out).mono ?_
    rintro e w2 ⟨rfl, hq2⟩
    have HF := Lib.hid (BuQ.after HB1.out (BuQ.of_u HBD.out HRD.out hq2))
    clear hq2 HBU HB1 HRD HBD HPD HTD
    go_wp2_with fail
    exact bodyPost_end (v := .tuple #[]) (by simp [results, Try.results27, go_sem]) rfl ⟨rfl, HF.out⟩
end Go.Proofs.Ytkknfhbaldeigaa
