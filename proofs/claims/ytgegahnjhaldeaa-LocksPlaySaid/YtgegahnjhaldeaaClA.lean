/-
  Contract of locks.Clone: a range over the map, in whatever order.
-/
import Derived.Test.YtgegahnjhaldeaaRlA
import Derived.Maps.RangeWalk
namespace Go.Proofs.Ytgegahnjhaldeaa
open Go.ChangeShapes Go.WideShapes Go.ChangeAt Go.RowKit
variable {Z : Nat → Prop}

theorem wpOp_lk_put {ops : Array Oper} {o : Oper} {a : Act} {w : World} {Q : Exit → Act → World → Prop} {k : Nat} {K : Act → World → Prop} (hi0 : ops[k]? = some o) (hw : Region.wanted o (yielded ops a.tmps) = true) (m x v : Operand) (ho : o.op = .mapUpdate 63 m x v)
    {base lp mb n : Nat} {R : Int → List Int} {i : Int} {h : Hdr} {l : List Int} (hM : LkMid Z w base lp mb n R i h l) (hi : InI i) (h0 : 0 ≤ i) (h1 : i < n) (hok : Lk.Ok (Lk.upd R i l) n) (hm : a.eval m = .map (some mb)) (hx : a.eval x = .int .i64 i) (hv : a.eval v = hdV h) (b : Act) (hb : a.put o.dst undef = b)
    (hK : ∀ w', LkAt Z w' base lp mb n (Lk.upd R i l) → Below base w w' → (∀ k, k < w.heap.size → k ≠ mb → w'.heap[k]? = w.heap[k]?) → K b w') : Go.wpOp Try.prog ops Q k K a w := by
  obtain ⟨D, hs, hD, hF, hR, hX, hY, hx2, hy2⟩ := hM.own
  refine wpOp_wpX hi0 hw ?_
  obtain ⟨w', hrun, k1, k2⟩ := hD.update int_law Try.underlying63 (hM.size hF hM.n1) (key_int hi) (rowElem_mk h)
  obtain ⟨r1, r2⟩ := hM.done hi h0 h1 hok hD hF hR hX hY hx2 hy2 k1 k2
  unfold Oper.wp
  subst hb
  simp [execOp, ho, hm, hx, hv, hrun, Result.andThen]
  exact hK w' r1 r2 fun k hk hne => k2.block k hk (fun e => hne (by cases e; rfl))
theorem rowElem_some {v : Value} {y : DataW Unit × List MemPlace} (h : rowElem v = some y) : ∃ c : Hdr, v = hdV c := by
  unfold rowElem at h
  split at h
  · rename_i hx
    exact hx
  · cases h
/-- The rows that have been copied. -/
def Rk (R : Int → List Int) (left : Lit → Bool) : Int → List Int := fun i => if left (kL i) = true then [] else R i
theorem same_kL (i j : Int) : (kL i).sameKey (kL j) = decide (i = j) := by simp [kL, Lit.sameKey]
theorem Rk_step (R : Int → List Int) (left : Lit → Bool) (x : Int) : Rk R (fun z => left z && !z.sameKey (kL x)) = Lk.upd (Rk R left) x (R x) := by
  funext i
  unfold Rk Lk.upd
  show (if (left (kL i) && !(kL i).sameKey (kL x)) = true then [] else R i) = if i = x then R x else if left (kL i) = true then [] else R i
  rw [same_kL]
  by_cases e : i = x
  · subst e; simp
  · simp [e]
theorem Rk_start {R : Int → List Int} {D : DataW Unit} {n : Nat} {hs : Int → Hdr} (hF : FitsL D n hs R) (hok : Lk.Ok R n) (hn : n ≤ 128) : Rk R (Maps.has D) = fun _ => [] := by
  funext i
  unfold Rk
  by_cases hi : InI i
  · rw [hF.has i hi]
    by_cases e : R i = []
    · simp [e]
    · simp [e]
  · have : R i = [] := hok.out i fun h => hi (by unfold InI; omega)
    simp [this]
theorem Rk_ok {R : Int → List Int} {n : Nat} (h : Lk.Ok R n) (left : Lit → Bool) : Lk.Ok (Rk R left) n := by
  refine ⟨fun i hi => ?_, fun i x hx => ?_, fun i => ?_⟩
  · unfold Rk; rw [h.out i hi]; simp
  · unfold Rk at hx
    split at hx
    · simp at hx
    · exact h.who i x hx
  · unfold Rk
    split
    · exact List.nodup_nil
    · exact h.nod i
theorem Rk_end {R : Int → List Int} {left : Lit → Bool} (h : ∀ kl, left kl = false) : Rk R left = R := by
  funext i
  unfold Rk
  simp [h]
/-- What stands while it is copied. -/
structure ClAt (w wr : World) (mb r n : Nat) (D : DataW Unit) (R : Int → List Int) (left : Lit → Bool) (cnt : Nat) : Prop where
  rg : wr.ranges Try.prog KI rowElem mb r (Maps.size D) D left cnt
  lf : ∀ i, InI i → left (kL i) = true → R i ≠ []
  lk : LkAt (fun k => k = r) wr w.heap.size (w.heap.size + 1) w.heap.size n (Rk R left)
  bel : Below w.heap.size w wr
theorem OneAt.grown {b : Nat} {w w' : World} (h : w.grownBy w' (some b)) : OneAt b w w' := ⟨h.os, h.tape, h.output, h.size, fun k hk hne => h.block k hk fun e => hne (by cases e; rfl)⟩
set_option maxRecDepth 100000 in
set_option maxHeartbeats 8000000 in
theorem lclone_c (base lp mb n : Nat) (R : Int → List Int) (w : World) (h : LkAt Z w base lp mb n R) :
    Calls Try.prog 18 #[.pointer (some ⟨lp, 0, none⟩)] w fun e w' => e = .returned (.pointer (some ⟨w.heap.size + 1, 0, none⟩)) ∧ LkAt (fun _ => False) w' w.heap.size (w.heap.size + 1) w.heap.size n R ∧ Below w.heap.size w w' := by
  have hs1 : (w.alloc (.map #[] 0)).heap.size = w.heap.size + 1 := by simp
  have hC := CsAt.new (w.alloc (.map #[] 0)) 65 #[.int .i64 (n : Int), .map (some w.heap.size)]
  rw [hs1] at hC
  have HL := Lib.hid (show LkAt (fun _ => False) ((w.alloc (.map #[] 0)).alloc (.cells #[.int .i64 (n : Int), .map (some w.heap.size)] 65)) w.heap.size (w.heap.size + 1) w.heap.size n (fun _ => []) from
    ⟨ok_none n, h.n0, h.n1, hC.cell 0, hC.cell 1, by omega, Nat.le_refl _, hC.lt, by omega, fun _ hf => hf.elim, .map [], fun _ => none, own_resetL ((World.ownsMap_made w Try.prog KI rowElem).alloc _),
      ⟨fun _ _ => rfl, fun _ _ => by simp [Maps.has], by rw [cnt_none]; rfl⟩, fun _ _ => .inl ⟨rfl, rfl⟩, fun _ _ _ _ _ _ e => by simp at e, fun _ _ _ _ _ _ _ _ _ _ _ e => by simp at e⟩)
  have hB2 := ((Below.refl w.heap.size w).alloc (Nat.le_refl _) (.map #[] 0)).alloc (by simp) (.cells #[.int .i64 (n : Int), .map (some w.heap.size)] 65)
  have HB := Lib.hid hB2
  have hmm := @run_makeMap Try.prog
  have c0 := h.c0
  have c1 := h.c1
  have c1' := (hB2.cell (p := ⟨lp, 1, none⟩) h.lt).trans c1
  have hmlt := h.mlt
  have HN1 := Lib.hid h.n1
  have HOK := Lib.hid h.ok
  obtain ⟨D, hs, hD, hF, hR, hX, hY⟩ := h.own
  have hDown := hD.kept (row := none) (w' := (w.alloc (.map #[] 0)).alloc (.cells #[.int .i64 (n : Int), .map (some w.heap.size)] 65)) ⟨hB2.os, hB2.tape, hB2.output, hB2.size, fun i hi _ => hB2.block i hi⟩ (by simp)
  have HD := Lib.hid hDown
  have HF := Lib.hid hF
  have HR := Lib.hid hR
  have HML := Lib.hid hmlt
  have HSZ2 := Lib.hid (show ((w.alloc (.map #[] 0)).alloc (.cells #[.int .i64 (n : Int), .map (some w.heap.size)] 65)).heap.size = w.heap.size + 2 by simp)
  clear hs1 hC h hB2 hD hF hR hX hY hDown hmlt
  go_enter Try.func18, Try.ntmps18
  go_wp2_with (at_range; refine wpList_range_own _ rfl _ 63 rfl KI 36 int_law Try.underlying63 rowElem mb (Maps.size D) D rfl HD.out ?_)
  intro w0 hrg0 hg0 hs0
  have HCL := Lib.hid (show ClAt w w0 mb (w.heap.size + 1 + 1) n D R (Maps.has D) (Maps.size D) from by
    have hb : Below ((w.alloc (.map #[] 0)).alloc (.cells #[.int .i64 (n : Int), .map (some w.heap.size)] 65)).heap.size ((w.alloc (.map #[] 0)).alloc (.cells #[.int .i64 (n : Int), .map (some w.heap.size)] 65)) w0 := ⟨hg0.os, hg0.tape, hg0.output, hg0.size, fun k hk => hg0.block k hk (by simp)⟩
    refine ⟨hrg0, fun i hi hl => ?_, ?_, HB.out.trans (hb.mono (by rw [HSZ2.out]; omega))⟩
    · rw [HF.out.has i hi] at hl
      simpa using hl
    · rw [Rk_start HF.out HOK.out HN1.out]
      exact HL.out.more hb fun k hk => .inr (by rw [HSZ2.out]; omega))
  clear hrg0 hg0 hs0 HD HB HL c0 c1 c1' hmm
  go_wp2_with fail
  go_loopw [4, 5] (fun _ _ wr => ∃ left cnt, ClAt w wr mb (w.heap.size + 1 + 1) n D R left cnt) (fun _ _ wr => wr.rangeLeft mb (w.heap.size + 1 + 1))
  case atStart => exact ⟨_, _, HCL.out⟩
  case round =>
    obtain ⟨left, cnt, hcl⟩ := hrel
    clear HCL
    have HCL := Lib.hid hcl
    clear hcl
    go_wp2_with (at_next; refine wpList_next_ranges _ rfl _ rfl KI int_law rowElem (Value.int .i64) hdV (fun key kl hk => by obtain ⟨x, rfl, -⟩ := Maps.keyOf_int_inv Try.underlying3 hk; exact ⟨x, rfl⟩) (fun v y hv => by obtain ⟨c, rfl⟩ := rowElem_some hv; exact ⟨c, rfl⟩) mb (w.heap.size + 1 + 1) (Maps.size D) D left cnt rfl HCL.out.rg ?_ ?_)
    · intro _ hl0
      have HE := Lib.hid (show LkAt (fun _ => False) wr w.heap.size (w.heap.size + 1) w.heap.size n R by
        have := HCL.out.lk.more (Below.refl _ _) (Y := fun _ => False) (fun _ h => h.elim)
        rwa [Rk_end hl0] at this)
      go_wp2_with fail
      go_ret
      exact ⟨rfl, HE.out, HCL.out.bel⟩
    · intro x c kl y ps w1 cnt1 hkey hlx hrow hat hrg1 hlt hg1 hs1 hen
      obtain ⟨x', ex, rfl, hwx⟩ := Maps.keyOf_int_inv Try.underlying3 hkey
      cases ex
      have hxI : InI x := bounds_i64 hwx
      have hyc : y = hdD c := by
        have hrc := rowElem_mk c
        rw [hrow] at hrc
        exact congrArg Prod.fst (Option.some.inj hrc)
      have hc : c = hs x := hdD_inj (by rw [← hyc, ← hat (hdD none)]; exact HF.out.at_ x hxI)
      subst hc
      have hRx := HCL.out.lf x hxI hlx
      have hbd := Lk.in_range HOK.out hRx
      have hb01 : Below w.heap.size w w1 := HCL.out.bel.trans ⟨hg1.os, hg1.tape, hg1.output, hg1.size, fun k hk => hg1.block k (Nat.lt_of_lt_of_le hk HCL.out.bel.size) (by intro e; cases e; omega)⟩
      obtain ⟨p, cap, he, hvw, hpp, hle⟩ := ((HR.out x hxI).low hb01).form
      have h8 := HOK.out.len x
      have HLK1 := Lib.hid (show LkAt (fun k => k = w.heap.size + 1 + 1) w1 w.heap.size (w.heap.size + 1) w.heap.size n (Rk R left) from
        (HCL.out.lk.one rfl (by omega) (OneAt.grown hg1)).more (Below.refl _ _) (fun k hk => .inl (.inl hk)))
      have HX := Lib.hid (And.intro hxI (And.intro hRx hbd))
      have HB1 := Lib.hid hb01
      have HVW := Lib.hid (And.intro hvw (And.intro hpp h8))
      have HRG := Lib.hid hrg1
      have HLT := Lib.hid hlt
      have HLF := Lib.hid (show ∀ i, InI i → (left (kL i) && !(kL i).sameKey (kL x)) = true → R i ≠ [] from fun i hi hl => HCL.out.lf i hi (by revert hl; cases left (kL i) <;> simp))
      rw [he] at hen ⊢
      clear hkey hlx hrow hat hrg1 hlt hg1 hs1 hyc hRx hbd hb01 hvw hpp h8 hle he hwx hxI
      go_upto_region 7 with (fail)
      clear hen
      have hd0 : Below w1.heap.size w1 w1.drew := (Below.refl _ _).drew
      have hS0 : w1.drew.cell? ⟨w.heap.size + 1, 1, none⟩ = some (.map (some w.heap.size)) := HLK1.out.c1
      refine wp_region_noPanic ?_
      refine wp_region_held (S := fun W => W.cell? ⟨w.heap.size + 1, 1, none⟩ = some (.map (some w.heap.size))) (by kernel_rfl) ?_
      refine takeH (fuel := 7) (i := 0) (.pointer (some ⟨w.heap.size + 1, 0, none⟩)) ?_ rfl (by kernel_rfl) (by kernel_rfl) (by kernel_rfl) (fun _ _ _ h => h) (by kernel_rfl) (fun W hS => by go_simp) hS0 ?_ ?_
      rotate_left 1
      · go_simp
        exact rfl
      refine takeH (fuel := 6) (i := 1) (.pointer (some ⟨w.heap.size + 1, 0, none⟩)) ?_ rfl (by kernel_rfl) (by kernel_rfl) (by kernel_rfl) (fun _ _ _ h => h) (by kernel_rfl) (fun W hS => by go_simp) hS0 ?_ ?_
      rotate_left 1
      · go_simp
        exact rfl
      refine takeH (fuel := 5) (i := 2) (.pointer (some ⟨w.heap.size + 1, 1, none⟩)) ?_ rfl (by kernel_rfl) (by kernel_rfl) (by kernel_rfl) (fun _ _ _ h => h) (by kernel_rfl) (fun W hS => by go_simp) hS0 ?_ ?_
      rotate_left 1
      · go_simp
        exact rfl
      refine takeH (fuel := 4) (i := 3) (.map (some w.heap.size)) ?_ rfl (by kernel_rfl) (by kernel_rfl) (by kernel_rfl) (fun _ _ _ h => h) (by kernel_rfl) (fun W hS => by go_simp) hS0 ?_ ?_
      rotate_left 1
      · go_simp
        exact rfl
      refine takeH (fuel := 3) (i := 4) (.int .i64 x) ?_ rfl (by kernel_rfl) (by kernel_rfl) (by kernel_rfl) (fun _ _ _ h => h) (by kernel_rfl) (fun W hS => by go_simp) hS0 ?_ ?_
      rotate_left 1
      · go_simp
        exact rfl
      refine takeH (fuel := 2) (i := 5) (.slice p (R x).length cap) ?_ rfl (by kernel_rfl) (by kernel_rfl) (by kernel_rfl) (fun _ _ _ h => h) (by kernel_rfl) (fun W hS => by go_simp) hS0 ?_ ?_
      rotate_left 1
      · go_simp
        exact rfl
      refine wpAnyH_all (fuel := 1) (rs := [6]) (by kernel_rfl) (by decide) ?_
      intro i hi
      obtain rfl : i = 6 := by simpa using hi
      change Go.wpOp _ _ _ _ _ _ w1.drew
      refine wpOp_callX 40 #[.slice p (R x).length cap] rfl (by kernel_rfl) (by go_simp) ?_
      refine (clone_c _ p cap (R x) _ rfl (HVW.out.1.low hd0) HVW.out.2.1 (by have := HVW.out.2.2; omega)).mono ?_
      rintro e w2 ⟨v2, rfl, hown2, hb2⟩
      have hlk := HLK1.out.low hd0
      have hlkl := hlk.lt
      have hS2 : w2.cell? ⟨w.heap.size + 1, 1, none⟩ = some (.map (some w.heap.size)) := (hb2.cell (p := ⟨w.heap.size + 1, 1, none⟩) hlkl).trans hS0
      refine ⟨_, rfl, hS2, ?_⟩
      obtain ⟨hx, hvx, hM⟩ := hlk.midNew hb2 x (List.length_pos_iff.2 HX.out.2.1) hown2
      have hst := Rk_step R left x
      have hok2 : Lk.Ok (Lk.upd (Rk R left) x (R x)) n := by rw [← hst]; exact Rk_ok HOK.out _
      refine wpAnyH_all (fuel := 0) (rs := [7]) (by kernel_rfl) (by decide) ?_
      intro i hi
      obtain rfl : i = 7 := by simpa using hi
      refine wpOp_lk_put rfl (by kernel_rfl) _ _ _ rfl hM HX.out.1 HX.out.2.2.1 HX.out.2.2.2 hok2 rfl rfl hvx ?_ ?_ ?_
      rotate_left 1
      · go_simp
        exact rfl
      intro w3 hL3 hb3 hk3
      refine ⟨hL3.c1, ?_⟩
      refine wpAnyH_done (by kernel_rfl) ?_ _
      refine NoPanic.normal ?_
      rw [← hst] at hL3
      have hrl := HRG.out.lt
      have hrne := HRG.out.ne
      have hb12 : Below w1.heap.size w1 w2 := hd0.trans (hb2.mono hd0.size)
      have HCL3 := Lib.hid (show ClAt w w3 mb (w.heap.size + 1 + 1) n D R (fun z => left z && !z.sameKey (kL x)) cnt1 from
        ⟨(HRG.out.kept (row := none) ⟨hb12.os, hb12.tape, hb12.output, hb12.size, fun k hk _ => hb12.block k hk⟩ (by simp) (by simp)).kept (row := some w.heap.size) ⟨hb3.os, hb3.tape, hb3.output, hb3.size, fun k hk hne => hk3 k hk fun e => hne (by rw [e])⟩ (by have := HML.out; simp; omega) (by simp; omega),
          HLF.out, hL3, HB1.out.trans ((hb12.mono HB1.out.size).trans hb3)⟩)
      clear hL3 hb3 hk3 hM hown2 hb2 hlk hlkl hS2 hS0 hd0 hok2 hb12 hrl hrne
      go_wp2_with fail
      go_roundw
      case rel => exact ⟨_, _, HCL3.out⟩
      case measure => rw [HCL3.out.rg.left_eq, HCL.out.rg.left_eq]; exact HLT.out
end Go.Proofs.Ytgegahnjhaldeaa
